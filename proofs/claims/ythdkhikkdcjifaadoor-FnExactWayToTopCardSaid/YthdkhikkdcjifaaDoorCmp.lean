/- Worlds that have only grown: new blocks, more draws. The comparison of dice, and of states; no condition. The comparison of dice and of states, as the program makes it; no condition. The comparison of states, as the program makes it; no condition. -/
import Derived.Test.YthdkhikkdcjifaaDoorBase
import Derived.Test.YthdkhikkdcjifaaDoorState
import Derived.Deep.QuietTactic
import Derived.BigQuiet
import Derived.Deep.RegionHeld3
import Derived.Deep.Cut
import Derived.Sort.Grow
import Derived.Sort.Statements
import Derived.Deep.CutRange
namespace Go.Proofs.YthdkhikkdcjifaaDoor
set_option maxRecDepth 100000
set_option linter.all false
open Go.RowKit

/-- Nothing that was there has turned, and no draw is taken back. -/
structure Ext (w w' : World) : Prop where
  below : Below w.heap.size w w'
  drawn : w.drawn ≤ w'.drawn
theorem Ext.refl (w : World) : Ext w w := ⟨Below.refl _ _, Nat.le_refl _⟩
theorem Ext.drew {a w : World} (h : Ext a w) : Ext a w.drew := ⟨h.below.drew, Nat.le_succ_of_le h.drawn⟩
theorem Ext.drewN {a w : World} (h : Ext a w) (n : Nat) : Ext a (w.drewN n) := ⟨⟨h.below.os, h.below.tape, h.below.output, h.below.size, h.below.block⟩, Nat.le_trans h.drawn (Nat.le_add_right _ _)⟩
theorem Ext.alloc {a w : World} (h : Ext a w) (o : Obj) : Ext a (w.alloc o) := ⟨h.below.alloc h.below.size o, h.drawn⟩
theorem Ext.setCell {a w : World} (h : Ext a w) {p : Addr} (hp : a.heap.size ≤ p.block) (u : Value) : Ext a (w.setCell p u) := ⟨h.below.setCell hp u, h.drawn⟩
theorem Ext.trans {a b c : World} (h : Ext a b) (k : Ext b c) : Ext a c := ⟨h.below.trans (k.below.mono h.below.size), Nat.le_trans h.drawn k.drawn⟩
/-- Behind a call that was made in a world x like b. -/
theorem ext_to {a b x c : World} (k : Ext x c) (h : Ext a b) (e1 : x.heap = b.heap) (e2 : x.os = b.os) (e3 : x.tape = b.tape) (e4 : x.output = b.output) (e5 : b.drawn ≤ x.drawn) : Ext a c := by
  refine h.trans ⟨⟨k.below.os.trans e2, k.below.tape.trans e3, k.below.output.trans e4, by have := k.below.size; rw [e1] at this; exact this, fun i hi => ?_⟩, Nat.le_trans e5 k.drawn⟩
  rw [k.below.block i (by rw [e1]; exact hi), e1]
theorem Ext.grow {w w' : World} (h : Ext w w') : ∃ q os', w' = Sort.grow (w.drewN q) os' := by
  refine ⟨w'.drawn - w.drawn, w'.heap.extract w.heap.size w'.heap.size, ?_⟩
  obtain ⟨hp, tp, dr, os, out⟩ := w'
  obtain ⟨⟨h1, h2, h3, h4, h5⟩, h6⟩ := h
  have e1 : tp = w.tape := h2
  have e2 : os = w.os := h1
  have e3 : out = w.output := h3
  subst e1 e2 e3
  have hd : w.drawn + (dr - w.drawn) = dr := by
    have : w.drawn ≤ dr := h6
    omega
  have hh : hp = w.heap ++ hp.extract w.heap.size hp.size := by
    apply Array.ext_getElem?
    intro i
    by_cases hi : i < w.heap.size
    · rw [Array.getElem?_append_left hi]
      exact h5 i hi
    · rw [Array.getElem?_append_right (by omega), Array.getElem?_extract]
      have hs : w.heap.size ≤ hp.size := h4
      by_cases hj : i < hp.size
      · rw [if_pos (by omega), show w.heap.size + (i - w.heap.size) = i from by omega]
      · rw [if_neg (by omega), Array.getElem?_eq_none (by omega)]
  show (⟨hp, w.tape, dr, w.os, w.output⟩ : World) = { (w.drewN (dr - w.drawn)) with heap := w.heap ++ hp.extract w.heap.size hp.size }
  rw [← hh]
  unfold World.drewN
  simp only [hd]

/-- How numbers compare. -/
def cmpI (a b : Int) : Int := if a < b then -1 else if b < a then 1 else 0
/-- How lists of numbers of one length compare. -/
def cmpL : List Int → List Int → Int
  | a :: l, b :: m => if cmpI a b = 0 then cmpL l m else cmpI a b
  | _, _ => 0
def keyD (d : D) : List Int := [d.t, d.n, d.e, d.s, d.w, d.b]
def keyS (s : St) : List Int := s.y :: s.x :: keyD s.d
theorem cmpI_zero {a b : Int} : cmpI a b = 0 ↔ a = b := by unfold cmpI; (repeat' split) <;> omega
theorem cmpI_neg {a b : Int} : cmpI a b < 0 ↔ a < b := by unfold cmpI; (repeat' split) <;> omega
theorem cmpI_bd (a b : Int) : -1 ≤ cmpI a b ∧ cmpI a b ≤ 1 := by unfold cmpI; (repeat' split) <;> omega
theorem cmpL_bd : ∀ l m : List Int, -1 ≤ cmpL l m ∧ cmpL l m ≤ 1
  | [], m => by cases m <;> exact ⟨by show -1 ≤ (0 : Int); omega, by show (0 : Int) ≤ 1; omega⟩
  | a :: l, [] => ⟨by show -1 ≤ (0 : Int); omega, by show (0 : Int) ≤ 1; omega⟩
  | a :: l, b :: m => by
    show -1 ≤ (if cmpI a b = 0 then cmpL l m else cmpI a b) ∧ (if cmpI a b = 0 then cmpL l m else cmpI a b) ≤ 1
    split
    · exact cmpL_bd l m
    · exact cmpI_bd a b
theorem cmpL_refl : ∀ l : List Int, cmpL l l = 0
  | [] => rfl
  | a :: l => by
    show (if cmpI a a = 0 then cmpL l l else cmpI a a) = 0
    rw [if_pos (cmpI_zero.2 rfl)]
    exact cmpL_refl l
theorem cmpL_eq : ∀ {l m : List Int}, l.length = m.length → cmpL l m = 0 → l = m
  | [], [], _, _ => rfl
  | [], b :: m, h, _ => by simp at h
  | a :: l, [], h, _ => by simp at h
  | a :: l, b :: m, h, e => by
    change (if cmpI a b = 0 then cmpL l m else cmpI a b) = 0 at e
    split at e
    · rename_i h0
      rw [cmpI_zero.1 h0, cmpL_eq (by simpa using h) e]
    · contradiction
theorem cmpL_trans : ∀ {l m n : List Int}, l.length = m.length → m.length = n.length → cmpL l m < 0 → cmpL m n < 0 → cmpL l n < 0
  | [], m, n, _, _, h1, _ => by
    cases m <;> exact absurd h1 (by show ¬ (0 : Int) < 0; omega)
  | a :: l, [], n, h, _, _, _ => by simp at h
  | a :: l, b :: m, [], _, h, _, _ => by simp at h
  | a :: l, b :: m, c :: n, e1, e2, h1, h2 => by
    change (if cmpI a b = 0 then cmpL l m else cmpI a b) < 0 at h1
    change (if cmpI b c = 0 then cmpL m n else cmpI b c) < 0 at h2
    show (if cmpI a c = 0 then cmpL l n else cmpI a c) < 0
    split at h1
    · rename_i k1
      have := cmpI_zero.1 k1
      subst this
      split at h2
      · rename_i k2
        rw [if_pos k2]
        exact cmpL_trans (by simpa using e1) (by simpa using e2) h1 h2
      · rename_i k2
        rw [if_neg k2]; exact h2
    · have g1 := cmpI_neg.1 h1
      split at h2
      · rename_i k2
        have := cmpI_zero.1 k2
        subst this
        have : cmpI a b < 0 := cmpI_neg.2 g1
        rw [if_neg (by omega)]; exact this
      · have g2 := cmpI_neg.1 h2
        have : cmpI a c < 0 := cmpI_neg.2 (by omega)
        rw [if_neg (by omega)]; exact this
theorem cmpL_total : ∀ {l m : List Int}, l.length = m.length → cmpL l m < 0 ∨ l = m ∨ cmpL m l < 0
  | [], [], _ => .inr (.inl rfl)
  | [], b :: m, h => by simp at h
  | a :: l, [], h => by simp at h
  | a :: l, b :: m, h => by
    show (if cmpI a b = 0 then cmpL l m else cmpI a b) < 0 ∨ _ ∨ (if cmpI b a = 0 then cmpL m l else cmpI b a) < 0
    rcases Int.lt_trichotomy a b with h1 | h1 | h1
    · left
      have := cmpI_neg.2 h1
      rw [if_neg (by omega)]; exact this
    · subst h1
      rw [if_pos (cmpI_zero.2 rfl), if_pos (cmpI_zero.2 rfl)]
      rcases cmpL_total (l := l) (m := m) (by simpa using h) with h2 | h2 | h2
      · exact .inl h2
      · subst h2; exact .inr (.inl rfl)
      · exact .inr (.inr h2)
    · right; right
      have := cmpI_neg.2 h1
      rw [if_neg (by omega)]; exact this
/-- An order of keys of one length is a strict weak order. -/
theorem swo_key {α : Type} (key : α → List Int) (n : Nat) (hn : ∀ x, (key x).length = n) : Sort.SWO (fun x y : α => decide (cmpL (key x) (key y) < 0)) where
  irrefl x := by rw [cmpL_refl]; rfl
  trans x y z h1 h2 := decide_eq_true (cmpL_trans (by rw [hn, hn]) (by rw [hn, hn]) (of_decide_eq_true h1) (of_decide_eq_true h2))
  ntrans x y z h1 h2 := by
    have h1' := of_decide_eq_false h1
    have h2' := of_decide_eq_false h2
    refine decide_eq_false (fun h3 => ?_)
    rcases cmpL_total (l := key x) (m := key y) (by rw [hn, hn]) with h | h | h
    · exact h1' h
    · rw [h] at h3; exact h2' h3
    · exact h2' (cmpL_trans (by rw [hn, hn]) (by rw [hn, hn]) h h3)

theorem isNaN_any (a : Int) (w : World) : Calls Tryd.prog 120 #[.int .i64 a] w fun e w' => e = .returned (.bool false) ∧ w = w' := by
  have h : ((a : Int) != a) = false := by simp
  go_enter Tryd.func120, Tryd.ntmps120
  go_wp2
  go_returns
  exact ⟨rfl, rfl⟩
theorem cmpInt_any (a b : Int) (w : World) : Calls Tryd.prog 94 #[.int .i64 a, .int .i64 b] w fun e w' => e = .returned (.int .i64 (cmpI a b)) ∧ w = w' := by
  rcases Int.lt_trichotomy a b with h | h | h
  · have HY := hide (show cmpI a b = -1 from by unfold cmpI; rw [if_pos h])
    go_enter Tryd.func94, Tryd.ntmps94
    go_wp2_with (go_at_call 120; refine (isNaN_any _ _).mono ?_; rintro e w2 ⟨rfl, rfl⟩)
    go_returns
    exact ⟨ret_int HY.out.symm, rfl⟩
  · have HY := hide (show cmpI a b = 0 from cmpI_zero.2 h)
    subst h
    have h1 : ¬ a < a := by omega
    have h2 : ¬ a > a := by omega
    go_enter Tryd.func94, Tryd.ntmps94
    go_wp2_with (go_at_call 120; refine (isNaN_any _ _).mono ?_; rintro e w2 ⟨rfl, rfl⟩)
    go_returns
    exact ⟨ret_int HY.out.symm, rfl⟩
  · have HY := hide (show cmpI a b = 1 from by unfold cmpI; rw [if_neg (by omega), if_pos h])
    have h1 : b ≤ a := by omega
    go_enter Tryd.func94, Tryd.ntmps94
    go_wp2_with (go_at_call 120; refine (isNaN_any _ _).mono ?_; rintro e w2 ⟨rfl, rfl⟩)
    go_returns
    exact ⟨ret_int HY.out.symm, rfl⟩

theorem facesOf_ext (d : D) (w : World) : Calls Tryd.prog 88 #[D.v d] w fun e w' => e = .returned (D.v d) ∧ Ext w w' := by
  go_enter Tryd.func88, Tryd.ntmps88
  go_wp2
  go_returns
  exact ⟨rfl, ⟨by go_grown, by show w.drawn ≤ w.drawn; omega⟩⟩
end Go.Proofs.YthdkhikkdcjifaaDoor
namespace Go.Proofs.YthdkhikkdcjifaaDoor
set_option maxRecDepth 100000
set_option linter.all false
open Go.RowKit

theorem cmpL_at : ∀ (l m : List Int) (k : Nat), l.length = m.length → k < l.length → (∀ j, j < k → l.getD j 0 = m.getD j 0) → l.getD k 0 ≠ m.getD k 0 → cmpL l m = cmpI (l.getD k 0) (m.getD k 0)
  | [], m, k, _, h, _, _ => by simp at h
  | a :: l, [], k, h, _, _, _ => by simp at h
  | a :: l, b :: m, 0, h, _, _, hne => by
    show (if cmpI a b = 0 then cmpL l m else cmpI a b) = cmpI a b
    rw [if_neg]
    intro e
    exact hne (cmpI_zero.1 e)
  | a :: l, b :: m, k + 1, h, hk, hj, hne => by
    have h0 : a = b := hj 0 (by omega)
    subst h0
    show (if cmpI a a = 0 then cmpL l m else cmpI a a) = cmpI (l.getD k 0) (m.getD k 0)
    rw [if_pos (cmpI_zero.2 rfl)]
    exact cmpL_at l m k (by simpa using h) (by simpa using hk) (fun j hjk => hj (j + 1) (by omega)) hne
theorem cmpL_same : ∀ (l m : List Int), l.length = m.length → (∀ j, j < l.length → l.getD j 0 = m.getD j 0) → cmpL l m = 0
  | [], [], _, _ => rfl
  | [], b :: m, h, _ => by simp at h
  | a :: l, [], h, _ => by simp at h
  | a :: l, b :: m, h, hj => by
    have h0 : a = b := hj 0 (by simp)
    subst h0
    show (if cmpI a a = 0 then cmpL l m else cmpI a a) = 0
    rw [if_pos (cmpI_zero.2 rfl)]
    exact cmpL_same l m (by simpa using h) (fun j hjk => hj (j + 1) (by simpa using hjk))
def IntsAt (w : World) (b : Nat) (l : List Int) : Prop := ∀ k, k < l.length → w.cell? ⟨b, k, none⟩ = some (.int .i64 (l.getD k 0))
theorem ints_n {w : World} {b n : Nat} {l : List Int} (h : IntsAt w b l) : IntsAt (w.drewN n) b l := h
theorem IsD.ints {w : World} {b : Nat} {d : D} {ty : TypeId} (h : IsD w b d ty) : IntsAt w b (keyD d) := by
  obtain ⟨⟨c0, c1, c2, c3, c4, c5⟩, _⟩ := h.cells
  intro k hk
  have hk6 : k < 6 := hk
  match k, hk6 with
  | 0, _ => exact c0
  | 1, _ => exact c1
  | 2, _ => exact c2
  | 3, _ => exact c3
  | 4, _ => exact c4
  | 5, _ => exact c5

set_option maxHeartbeats 1600000 in
theorem cmpRow_any (b1 b2 c1 c2 n : Nat) (l m : List Int) (hl : l.length = n) (hm : m.length = n) (hn : n ≤ 1000) (w : World) (H1 : IntsAt w b1 l) (H2 : IntsAt w b2 m) : Calls Tryd.prog 89 #[.slice (some ⟨b1, 0, none⟩) n c1, .slice (some ⟨b2, 0, none⟩) n c2] w fun e w' => e = .returned (.int .i64 (cmpL l m)) ∧ w = w' := by
  have HA := hide (fun (k : Nat) (h1 : k < l.length) (h2 : ∀ j, j < k → l.getD j 0 = m.getD j 0) (h3 : l.getD k 0 ≠ m.getD k 0) => cmpL_at l m k (by omega) h1 h2 h3)
  have HS := hide (fun (h2 : ∀ j, j < l.length → l.getD j 0 = m.getD j 0) => cmpL_same l m (by omega) h2)
  have HL := hide hl
  have HM := hide hm
  have G1 := hide H1
  have G2 := hide H2
  clear hl hm H1 H2
  go_enter Tryd.func89, Tryd.ntmps89
  go_wp2
  go_loop [11, 5, 6, 7, 8] (fun i _ _ _ _ => ∃ k : Nat, k ≤ n ∧ i = .int .i64 (k : Int) ∧ Hid (∀ j, j < k → l.getD j 0 = m.getD j 0)) (fun i _ _ _ _ => n - (intOf i).toNat)
  case atStart => exact ⟨0, Nat.zero_le _, rfl, fun j h => by omega⟩
  case round =>
    obtain ⟨k, hk, rfl, hno⟩ := hrel
    by_cases hlt : k < n
    · have hki : (k : Int) < (n : Int) := by omega
      have hkg : ¬ (k : Int) ≥ (n : Int) := by omega
      have hkd : decide (n ≤ k) = false := decide_eq_false (by omega)
      have hkd2 : decide ((k : Int) ≥ (n : Int)) = false := decide_eq_false hkg
      have a0 := G1.out k (by rw [HL.out]; exact hlt)
      have b0 := G2.out k (by rw [HM.out]; exact hlt)
      have HK := hide (HA.out k (by rw [HL.out]; exact hlt) hno.out)
      generalize hx : l.getD k 0 = x at a0 HK
      generalize hy : m.getD k 0 = y at b0 HK
      have HX := hide hx
      have HY := hide hy
      clear hx hy
      by_cases hxy : x = y
      · have HXY := hide hxy
        have e0 : (cmpI x y != 0) = false := by rw [cmpI_zero.2 hxy]; rfl
        have HZ := hide (cmpI_zero.2 hxy)
        clear hxy
        go_wp2_with (go_at_call 94; refine (cmpInt_any x y _).mono ?_; rintro e w2 ⟨rfl, rfl⟩)
        go_round
        case rel =>
          refine ⟨k + 1, by omega, by go_num, fun j hj => ?_⟩
          by_cases hjk : j < k
          · exact hno j hjk
          · obtain rfl : j = k := by omega
            rw [HX.out, HY.out, HXY.out]
        case measure => simp [intOf]; omega
      · have e0 : (cmpI x y != 0) = true := by
          have : ¬ cmpI x y = 0 := fun h => hxy (cmpI_zero.1 h)
          simpa using this
        have HK2 := hide (HK.out hxy)
        clear hxy
        go_wp2_with (go_at_call 94; refine (cmpInt_any x y _).mono ?_; rintro e w2 ⟨rfl, rfl⟩)
        go_returns
        exact ⟨ret_int HK2.out.symm, rfl⟩
    · obtain rfl : k = n := by omega
      have e1 : decide (k < k) = false := decide_eq_false (by omega)
      have HZ := hide (HS.out (fun j hj => hno.out j (by rw [← HL.out]; exact hj)))
      go_wp2
      go_returns
      exact ⟨ret_int HZ.out.symm, rfl⟩
theorem cmpOr_any (b cap : Nat) (x y z : Int) (w : World) (h0 : w.cell? ⟨b, 0, none⟩ = some (.int .i64 x)) (h1 : w.cell? ⟨b, 1, none⟩ = some (.int .i64 y)) (h2 : w.cell? ⟨b, 2, none⟩ = some (.int .i64 z)) : Calls Tryd.prog 93 #[.slice (some ⟨b, 0, none⟩) 3 cap] w fun e w' => e = .returned (.int .i64 (if x ≠ 0 then x else if y ≠ 0 then y else z)) ∧ w = w' := by
  have HF := hide (show ∀ k : Nat, k < 3 → w.cell? ⟨b, k, none⟩ = some (.int .i64 ([x, y, z].getD k 0)) from fun k hk => match k, hk with
    | 0, _ => h0
    | 1, _ => h1
    | 2, _ => h2)
  have HV := hide (show ∀ k : Nat, k < 3 → (∀ j, j < k → [x, y, z].getD j 0 = 0) → ¬ [x, y, z].getD k 0 = 0 → (if x ≠ 0 then x else if y ≠ 0 then y else z) = [x, y, z].getD k 0 from fun k hk hj hne => by
    match k, hk with
    | 0, _ => exact if_pos (show x ≠ 0 from hne)
    | 1, _ =>
      have a0 : x = 0 := hj 0 (by omega)
      rw [if_neg (by omega)]; exact if_pos (show y ≠ 0 from hne)
    | 2, _ =>
      have a0 : x = 0 := hj 0 (by omega)
      have a1 : y = 0 := hj 1 (by omega)
      rw [if_neg (by omega), if_neg (by omega)]; rfl)
  have HW := hide (show (∀ j, j < 3 → [x, y, z].getD j 0 = 0) → (if x ≠ 0 then x else if y ≠ 0 then y else z) = 0 from fun hj => by
    have a0 : x = 0 := hj 0 (by omega)
    have a1 : y = 0 := hj 1 (by omega)
    have a2 : z = 0 := hj 2 (by omega)
    rw [if_neg (by omega), if_neg (by omega)]; exact a2)
  generalize (if x ≠ 0 then x else if y ≠ 0 then y else z) = r at HV HW ⊢
  generalize [x, y, z] = L at HF HV HW
  clear h0 h1 h2
  go_enter Tryd.func93, Tryd.ntmps93
  go_wp2
  go_loop [8, 5] (fun i _ => ∃ k : Nat, k ≤ 3 ∧ i = .int .i64 (k : Int) ∧ Hid (∀ j, j < k → L.getD j 0 = 0)) (fun i _ => 3 - (intOf i).toNat)
  case atStart => exact ⟨0, Nat.zero_le _, rfl, fun j h => by omega⟩
  case round =>
    obtain ⟨k, hk, rfl, hno⟩ := hrel
    by_cases hlt : k < 3
    · have hki : (k : Int) < 3 := by omega
      have a0 := HF.out k hlt
      have HK := hide (HV.out k hlt hno.out)
      generalize hx : L.getD k 0 = v at a0 HK
      have HX := hide hx
      clear hx
      by_cases hv : v = 0
      · have e0 : (v != 0) = false := by rw [hv]; rfl
        have HZ := hide hv
        clear hv
        go_wp2
        go_round
        case rel =>
          refine ⟨k + 1, by omega, by go_num, fun j hj => ?_⟩
          by_cases hjk : j < k
          · exact hno j hjk
          · obtain rfl : j = k := by omega
            rw [HX.out, HZ.out]
        case measure => simp [intOf]; omega
      · have e0 : (v != 0) = true := by simpa using hv
        have HR := hide (HK.out hv)
        clear hv
        go_wp2
        go_returns
        exact ⟨ret_int HR.out.symm, rfl⟩
    · obtain rfl : k = 3 := by omega
      have HR := hide (HW.out hno.out)
      go_wp2
      go_returns
      exact ⟨ret_int HR.out.symm, rfl⟩
theorem ints6 {w : World} {b : Nat} {d : D} (c0 : w.cell? ⟨b, 0, none⟩ = some (.int .i64 d.t)) (c1 : w.cell? ⟨b, 1, none⟩ = some (.int .i64 d.n)) (c2 : w.cell? ⟨b, 2, none⟩ = some (.int .i64 d.e)) (c3 : w.cell? ⟨b, 3, none⟩ = some (.int .i64 d.s)) (c4 : w.cell? ⟨b, 4, none⟩ = some (.int .i64 d.w)) (c5 : w.cell? ⟨b, 5, none⟩ = some (.int .i64 d.b)) : IntsAt w b (keyD d) := by
  intro k hk
  have hk6 : k < 6 := hk
  match k, hk6 with
  | 0, _ => exact c0
  | 1, _ => exact c1
  | 2, _ => exact c2
  | 3, _ => exact c3
  | 4, _ => exact c4
  | 5, _ => exact c5
theorem cell_alloc_lt {w : World} {o : Obj} {b k : Nat} (h : b < w.heap.size) : (w.alloc o).cell? ⟨b, k, none⟩ = w.cell? ⟨b, k, none⟩ :=
  World.cell?_of_block (Below.heap_alloc w o b h)
theorem cell_set6 {w : World} {b c o : Nat} {u0 u1 u2 u3 u4 u5 : Value} (h : b ≠ c) : ((((((w.setCell ⟨b, 0, none⟩ u0).setCell ⟨b, 1, none⟩ u1).setCell ⟨b, 2, none⟩ u2).setCell ⟨b, 3, none⟩ u3).setCell ⟨b, 4, none⟩ u4).setCell ⟨b, 5, none⟩ u5).cell? ⟨c, o, none⟩ = w.cell? ⟨c, o, none⟩ := by
  have hd : ∀ j, (⟨b, j, none⟩ : Addr) ≠ ⟨c, o, none⟩ := fun j e => h (by injection e)
  rw [World.cell?_setCell_other _ _ _ _ (hd 5), World.cell?_setCell_other _ _ _ _ (hd 4), World.cell?_setCell_other _ _ _ _ (hd 3), World.cell?_setCell_other _ _ _ _ (hd 2), World.cell?_setCell_other _ _ _ _ (hd 1), World.cell?_setCell_other _ _ _ _ (hd 0)]
theorem isd_new_at {w : World} {b : Nat} {d : D} {ty : TypeId} (h : b = w.heap.size) : IsD (w.alloc (.cells #[.int .i64 d.t, .int .i64 d.n, .int .i64 d.e, .int .i64 d.s, .int .i64 d.w, .int .i64 d.b] ty)) b d ty := by subst h; exact IsD.new
theorem isd_set6 {w : World} {b : Nat} {ty : TypeId} (d : D) (h : IsD w b ⟨0, 0, 0, 0, 0, 0⟩ ty) : IsD ((((((w.setCell ⟨b, 0, none⟩ (.int .i64 d.t)).setCell ⟨b, 1, none⟩ (.int .i64 d.n)).setCell ⟨b, 2, none⟩ (.int .i64 d.e)).setCell ⟨b, 3, none⟩ (.int .i64 d.s)).setCell ⟨b, 4, none⟩ (.int .i64 d.w)).setCell ⟨b, 5, none⟩ (.int .i64 d.b)) b d ty := h.set6 d
theorem ext_set6 {a w : World} {b : Nat} (d : D) (h : Ext a w) (hb : a.heap.size ≤ b) : Ext a ((((((w.setCell ⟨b, 0, none⟩ (.int .i64 d.t)).setCell ⟨b, 1, none⟩ (.int .i64 d.n)).setCell ⟨b, 2, none⟩ (.int .i64 d.e)).setCell ⟨b, 3, none⟩ (.int .i64 d.s)).setCell ⟨b, 4, none⟩ (.int .i64 d.w)).setCell ⟨b, 5, none⟩ (.int .i64 d.b)) :=
  (((((h.setCell hb _).setCell hb _).setCell hb _).setCell hb _).setCell hb _).setCell hb _
set_option maxHeartbeats 6400000 in
theorem compareDice_any (d e : D) (w : World) : Calls Tryd.prog 60 #[D.v d, D.v e] w fun x w' => x = .returned (.int .i64 (cmpL (keyD d) (keyD e))) ∧ Ext w w' := by
  go_enter Tryd.func60, Tryd.ntmps60
  go_wp2_with fail
  have D0 := (IsD.new (w := w) (d := d) (ty := 28)).alloc (.cells #[.int .i64 e.t, .int .i64 e.n, .int .i64 e.e, .int .i64 e.s, .int .i64 e.w, .int .i64 e.b] 28)
  have E0 := IsD.new2 (w := w) (o := (.cells #[.int .i64 d.t, .int .i64 d.n, .int .i64 d.e, .int .i64 d.s, .int .i64 d.w, .int .i64 d.b] 28)) (d := e) (ty := 28)
  have q0 : Ext w ((w.alloc (.cells #[.int .i64 d.t, .int .i64 d.n, .int .i64 d.e, .int .i64 d.s, .int .i64 d.w, .int .i64 d.b] 28)).alloc (.cells #[.int .i64 e.t, .int .i64 e.n, .int .i64 e.e, .int .i64 e.s, .int .i64 e.w, .int .i64 e.b] 28)) := ((Ext.refl w).alloc _).alloc _
  have hz : ((w.alloc (.cells #[.int .i64 d.t, .int .i64 d.n, .int .i64 d.e, .int .i64 d.s, .int .i64 d.w, .int .i64 d.b] 28)).alloc (.cells #[.int .i64 e.t, .int .i64 e.n, .int .i64 e.e, .int .i64 e.s, .int .i64 e.w, .int .i64 e.b] 28)).heap.size = w.heap.size + 2 := by simp
  generalize (w.alloc (.cells #[.int .i64 d.t, .int .i64 d.n, .int .i64 d.e, .int .i64 d.s, .int .i64 d.w, .int .i64 d.b] 28)).alloc (.cells #[.int .i64 e.t, .int .i64 e.n, .int .i64 e.e, .int .i64 e.s, .int .i64 e.w, .int .i64 e.b] 28) = W0 at D0 E0 q0 hz ⊢
  obtain ⟨l0, ⟨a0, a1, a2, a3, a4, a5⟩, -⟩ := D0.all
  obtain ⟨l1, ⟨b0, b1, b2, b3, b4, b5⟩, -⟩ := E0.all
  have HZ := hide hz
  clear hz
  go_cut [5, 6] from 7 to 11 (fun p q wx => ∃ F G, p = .pointer (some ⟨F, 0, none⟩) ∧ q = .pointer (some ⟨G, 0, none⟩) ∧ IsD wx F d 122 ∧ IsD wx G e 122 ∧ Ext w wx)
  case first =>
    go_region_held3 (fun wx => wx.cell? ⟨w.heap.size, 0, none⟩ = some (.int .i64 d.t) ∧ wx.cell? ⟨w.heap.size, 1, none⟩ = some (.int .i64 d.n) ∧ wx.cell? ⟨w.heap.size, 2, none⟩ = some (.int .i64 d.e) ∧ wx.cell? ⟨w.heap.size, 3, none⟩ = some (.int .i64 d.s) ∧ wx.cell? ⟨w.heap.size, 4, none⟩ = some (.int .i64 d.w) ∧ wx.cell? ⟨w.heap.size, 5, none⟩ = some (.int .i64 d.b) ∧ wx.cell? ⟨w.heap.size + 1, 0, none⟩ = some (.int .i64 e.t) ∧ wx.cell? ⟨w.heap.size + 1, 1, none⟩ = some (.int .i64 e.n) ∧ wx.cell? ⟨w.heap.size + 1, 2, none⟩ = some (.int .i64 e.e) ∧ wx.cell? ⟨w.heap.size + 1, 3, none⟩ = some (.int .i64 e.s) ∧ wx.cell? ⟨w.heap.size + 1, 4, none⟩ = some (.int .i64 e.w) ∧ wx.cell? ⟨w.heap.size + 1, 5, none⟩ = some (.int .i64 e.b)) (refine ⟨?_, ?_, ?_, ?_, ?_, ?_, ?_, ?_, ?_, ?_, ?_, ?_⟩ <;> (first | (with_reducible (change W0.cell? _ = _); with_reducible assumption) | (with_reducible assumption) | (rw [cell_set6 (by first | omega | (simp; omega))]; with_reducible assumption) | (rw [cell_set6 (by first | omega | (simp; omega))]; rw [cell_set6 (by first | omega | (simp; omega))]; with_reducible assumption) | (rw [cell_alloc_lt (by first | omega | (simp; omega))]; with_reducible assumption) | (rw [cell_alloc_lt (by first | omega | (simp; omega))]; rw [cell_set6 (by first | omega | (simp; omega))]; with_reducible assumption) | (rw [cell_alloc_lt (by first | omega | (simp; omega))]; rw [cell_set6 (by first | omega | (simp; omega))]; rw [cell_set6 (by first | omega | (simp; omega))]; with_reducible assumption) | (rw [cell_alloc_lt (by first | omega | (simp; omega))]; rw [cell_alloc_lt (by first | omega | (simp; omega))]; with_reducible assumption) | (rw [cell_alloc_lt (by first | omega | (simp; omega))]; rw [cell_alloc_lt (by first | omega | (simp; omega))]; rw [cell_set6 (by first | omega | (simp; omega))]; with_reducible assumption) | (rw [cell_alloc_lt (by first | omega | (simp; omega))]; rw [cell_alloc_lt (by first | omega | (simp; omega))]; rw [cell_set6 (by first | omega | (simp; omega))]; rw [cell_set6 (by first | omega | (simp; omega))]; with_reducible assumption) | (rw [World.cell?_drew]; with_reducible assumption) | (rw [World.cell?_drew]; rw [cell_set6 (by first | omega | (simp; omega))]; with_reducible assumption) | (rw [World.cell?_drew]; rw [cell_set6 (by first | omega | (simp; omega))]; rw [cell_set6 (by first | omega | (simp; omega))]; with_reducible assumption) | (rw [World.cell?_drew]; rw [cell_alloc_lt (by first | omega | (simp; omega))]; with_reducible assumption) | (rw [World.cell?_drew]; rw [cell_alloc_lt (by first | omega | (simp; omega))]; rw [cell_set6 (by first | omega | (simp; omega))]; with_reducible assumption) | (rw [World.cell?_drew]; rw [cell_alloc_lt (by first | omega | (simp; omega))]; rw [cell_set6 (by first | omega | (simp; omega))]; rw [cell_set6 (by first | omega | (simp; omega))]; with_reducible assumption) | (rw [World.cell?_drew]; rw [cell_alloc_lt (by first | omega | (simp; omega))]; rw [cell_alloc_lt (by first | omega | (simp; omega))]; with_reducible assumption) | (rw [World.cell?_drew]; rw [cell_alloc_lt (by first | omega | (simp; omega))]; rw [cell_alloc_lt (by first | omega | (simp; omega))]; rw [cell_set6 (by first | omega | (simp; omega))]; with_reducible assumption) | (rw [World.cell?_drew]; rw [cell_alloc_lt (by first | omega | (simp; omega))]; rw [cell_alloc_lt (by first | omega | (simp; omega))]; rw [cell_set6 (by first | omega | (simp; omega))]; rw [cell_set6 (by first | omega | (simp; omega))]; with_reducible assumption)))
      (first
        | (go_at_call 88; ((with_reducible refine (facesOf_ext d _).mono ?_)); rintro x w1 ⟨rfl, hb1⟩; have D1 : IsD w1 w.heap.size d 28 := (by first | exact isD_to hb1.below D0 rfl | exact isD_to hb1.below (D0.alloc _) rfl | exact isD_to hb1.below ((D0.alloc _).alloc _) rfl); have E1 : IsD w1 (w.heap.size + 1) e 28 := (by first | exact isD_to hb1.below E0 rfl | exact isD_to hb1.below (E0.alloc _) rfl | exact isD_to hb1.below ((E0.alloc _).alloc _) rfl); obtain ⟨l2, ⟨m0, m1, m2, m3, m4, m5⟩, -⟩ := D1.all; obtain ⟨l3, ⟨n0, n1, n2, n3, n4, n5⟩, -⟩ := E1.all; have q1 : Ext w w1 := (by first | exact ext_to hb1 q0 rfl rfl rfl rfl (Nat.le_succ _) | exact ext_to hb1 q0 rfl rfl rfl rfl (Nat.le_refl _) | exact ext_to hb1 (q0.alloc (.cells #[.int .i64 0, .int .i64 0, .int .i64 0, .int .i64 0, .int .i64 0, .int .i64 0] 122)) rfl rfl rfl rfl (Nat.le_succ _) | exact ext_to hb1 (q0.alloc (.cells #[.int .i64 0, .int .i64 0, .int .i64 0, .int .i64 0, .int .i64 0, .int .i64 0] 122)) rfl rfl rfl rfl (Nat.le_refl _) | exact ext_to hb1 ((q0.alloc (.cells #[.int .i64 0, .int .i64 0, .int .i64 0, .int .i64 0, .int .i64 0, .int .i64 0] 122)).alloc (.cells #[.int .i64 0, .int .i64 0, .int .i64 0, .int .i64 0, .int .i64 0, .int .i64 0] 122)) rfl rfl rfl rfl (Nat.le_succ _) | exact ext_to hb1 ((q0.alloc (.cells #[.int .i64 0, .int .i64 0, .int .i64 0, .int .i64 0, .int .i64 0, .int .i64 0] 122)).alloc (.cells #[.int .i64 0, .int .i64 0, .int .i64 0, .int .i64 0, .int .i64 0, .int .i64 0] 122)) rfl rfl rfl rfl (Nat.le_refl _)); (first | (have ZA := isD_to hb1.below ((IsD.new (w := W0) (d := ⟨0, 0, 0, 0, 0, 0⟩) (ty := 122)).alloc (.cells #[.int .i64 0, .int .i64 0, .int .i64 0, .int .i64 0, .int .i64 0, .int .i64 0] 122)) rfl; have ZB := isD_to hb1.below (IsD.new2 (w := W0) (o := (.cells #[.int .i64 0, .int .i64 0, .int .i64 0, .int .i64 0, .int .i64 0, .int .i64 0] 122)) (d := ⟨0, 0, 0, 0, 0, 0⟩) (ty := 122)) rfl; obtain ⟨zal, ⟨zaa, zab, zac, zad, zae, zaf⟩, zag, zah, zai, zaj, zak, zam⟩ := ZA.all; obtain ⟨zbl, ⟨zba, zbb, zbc, zbd, zbe, zbf⟩, zbg, zbh, zbi, zbj, zbk, zbm⟩ := ZB.all) | (have ZA := isD_to hb1.below (IsD.new (w := W0) (d := ⟨0, 0, 0, 0, 0, 0⟩) (ty := 122)) rfl; obtain ⟨zal, ⟨zaa, zab, zac, zad, zae, zaf⟩, zag, zah, zai, zaj, zak, zam⟩ := ZA.all) | skip))
        | (go_at_call 88; ((with_reducible refine (facesOf_ext e _).mono ?_)); rintro x w2 ⟨rfl, hb2⟩; have D2 : IsD w2 w.heap.size d 28 := (by first | exact isD_to hb2.below D1 rfl | exact isD_to hb2.below (D1.alloc _) rfl | exact isD_to hb2.below ((D1.alloc _).alloc _) rfl); have E2 : IsD w2 (w.heap.size + 1) e 28 := (by first | exact isD_to hb2.below E1 rfl | exact isD_to hb2.below (E1.alloc _) rfl | exact isD_to hb2.below ((E1.alloc _).alloc _) rfl); obtain ⟨l4, ⟨o0, o1, o2, o3, o4, o5⟩, -⟩ := D2.all; obtain ⟨l5, ⟨r0, r1, r2, r3, r4, r5⟩, -⟩ := E2.all; have q2 : Ext w w2 := (by first | exact ext_to hb2 q1 rfl rfl rfl rfl (Nat.le_succ _) | exact ext_to hb2 q1 rfl rfl rfl rfl (Nat.le_refl _) | exact ext_to hb2 (q1.alloc (.cells #[.int .i64 0, .int .i64 0, .int .i64 0, .int .i64 0, .int .i64 0, .int .i64 0] 122)) rfl rfl rfl rfl (Nat.le_succ _) | exact ext_to hb2 (q1.alloc (.cells #[.int .i64 0, .int .i64 0, .int .i64 0, .int .i64 0, .int .i64 0, .int .i64 0] 122)) rfl rfl rfl rfl (Nat.le_refl _) | exact ext_to hb2 ((q1.alloc (.cells #[.int .i64 0, .int .i64 0, .int .i64 0, .int .i64 0, .int .i64 0, .int .i64 0] 122)).alloc (.cells #[.int .i64 0, .int .i64 0, .int .i64 0, .int .i64 0, .int .i64 0, .int .i64 0] 122)) rfl rfl rfl rfl (Nat.le_succ _) | exact ext_to hb2 ((q1.alloc (.cells #[.int .i64 0, .int .i64 0, .int .i64 0, .int .i64 0, .int .i64 0, .int .i64 0] 122)).alloc (.cells #[.int .i64 0, .int .i64 0, .int .i64 0, .int .i64 0, .int .i64 0, .int .i64 0] 122)) rfl rfl rfl rfl (Nat.le_refl _)); (first | (have ZA2 := isD_to hb2.below ZA rfl; obtain ⟨yal, ⟨yaa, yab, yac, yad, yae, yaf⟩, yag, yah, yai, yaj, yak, yam⟩ := ZA2.all) | (have ZA2 := isD_to hb2.below (ZA.alloc (.cells #[.int .i64 0, .int .i64 0, .int .i64 0, .int .i64 0, .int .i64 0, .int .i64 0] 122)) rfl; obtain ⟨yal, ⟨yaa, yab, yac, yad, yae, yaf⟩, yag, yah, yai, yaj, yak, yam⟩ := ZA2.all) | skip); (first | (have ZB2 := isD_to hb2.below ZB rfl; obtain ⟨ybl, ⟨yba, ybb, ybc, ybd, ybe, ybf⟩, ybg, ybh, ybi, ybj, ybk, ybm⟩ := ZB2.all) | skip); (first | (have ZC2 := isD_to hb2.below ((IsD.new (w := w1) (d := ⟨0, 0, 0, 0, 0, 0⟩) (ty := 122)).alloc (.cells #[.int .i64 0, .int .i64 0, .int .i64 0, .int .i64 0, .int .i64 0, .int .i64 0] 122)) rfl; have ZE2 := isD_to hb2.below (IsD.new2 (w := w1) (o := (.cells #[.int .i64 0, .int .i64 0, .int .i64 0, .int .i64 0, .int .i64 0, .int .i64 0] 122)) (d := ⟨0, 0, 0, 0, 0, 0⟩) (ty := 122)) rfl; obtain ⟨ycl, ⟨yca, ycb, ycc, ycd, yce, ycf⟩, ycg, ych, yci, ycj, yck, ycm⟩ := ZC2.all; obtain ⟨yel, ⟨yea, yeb, yec, yed, yee, yef⟩, yeg, yeh, yei, yej, yek, yem⟩ := ZE2.all) | (have ZC2 := isD_to hb2.below (IsD.new (w := w1) (d := ⟨0, 0, 0, 0, 0, 0⟩) (ty := 122)) rfl; obtain ⟨ycl, ⟨yca, ycb, ycc, ycd, yce, ycf⟩, ycg, ych, yci, ycj, yck, ycm⟩ := ZC2.all) | skip)))
    all_goals (go_wp2_with fail)
    all_goals go_meet
    all_goals (refine ⟨_, _, rfl, rfl, ?_, ?_, ?_⟩)
    all_goals (repeat (first | (with_reducible exact q2) | (with_reducible exact ZA2) | (with_reducible exact ZB2) | (with_reducible exact ZC2) | (with_reducible exact ZE2) | (with_reducible refine isd_new_at ?_; first | rfl | (simp; done)) | (with_reducible refine IsD.alloc ?_ _) | (with_reducible refine isd_set6 _ ?_) | (with_reducible refine IsD.other6 ?_ (by omega) _) | (with_reducible refine ext_set6 _ ?_ (by omega)) | (with_reducible refine Ext.alloc ?_ _)))
  case rest =>
    obtain ⟨F, G, rfl, rfl, hF, hG, hE⟩ := hcut
    have I1 := hide hF.ints
    have I2 := hide hG.ints
    have HE := hide hE
    clear hF hG hE
    go_wp2_with fail
    go_quiet ((go_at_call 89; refine Calls.quiet_of_same ((cmpRow_any F G 6 6 6 (keyD d) (keyD e) rfl rfl (by omega) _ (ints_n I1.out) (ints_n I2.out)).mono fun x w' hp => ⟨hp.1, hp.2.symm⟩)))
    go_wp2
    go_returns
    exact ⟨rfl, HE.out.drewN _⟩
end Go.Proofs.YthdkhikkdcjifaaDoor
namespace Go.Proofs.YthdkhikkdcjifaaDoor
set_option maxRecDepth 100000
set_option linter.all false
open Go.RowKit

theorem cmpS_or (s t : St) : cmpL (keyS s) (keyS t) = (if cmpI s.y t.y ≠ 0 then cmpI s.y t.y else if cmpI s.x t.x ≠ 0 then cmpI s.x t.x else cmpL (keyD s.d) (keyD t.d)) := by
  show (if cmpI s.y t.y = 0 then (if cmpI s.x t.x = 0 then cmpL (keyD s.d) (keyD t.d) else cmpI s.x t.x) else cmpI s.y t.y) = _
  by_cases h1 : cmpI s.y t.y = 0
  · by_cases h2 : cmpI s.x t.x = 0 <;> simp [h1, h2]
  · simp [h1]
set_option maxHeartbeats 3200000 in
theorem compareStates_any (s t : St) (w : World) : Calls Tryd.prog 68 #[St.v s, St.v t] w fun x w' => x = .returned (.int .i64 (cmpL (keyS s) (keyS t))) ∧ Ext w w' := by
  have HO := hide (cmpS_or s t)
  generalize cmpL (keyS s) (keyS t) = r at HO ⊢
  have HOR := hide (show ∀ (b cap : Nat) (wx : World), wx.cell? ⟨b, 0, none⟩ = some (.int .i64 (cmpI s.y t.y)) → wx.cell? ⟨b, 1, none⟩ = some (.int .i64 (cmpI s.x t.x)) → wx.cell? ⟨b, 2, none⟩ = some (.int .i64 (cmpL (keyD s.d) (keyD t.d))) → Calls Tryd.prog 93 #[.slice (some ⟨b, 0, none⟩) 3 cap] wx fun e w' => e = .returned (.int .i64 r) ∧ wx = w' from fun b cap wx h0 h1 h2 => by rw [HO.out]; exact cmpOr_any b cap _ _ _ wx h0 h1 h2)
  go_enter Tryd.func68, Tryd.ntmps68
  go_wp2_with fail
  have S0 := (IsS.new (w := w) (s := s) (ty := 30)).alloc (.cells #[.int .i64 t.x, .int .i64 t.y, .int .i64 t.d.t, .int .i64 t.d.n, .int .i64 t.d.e, .int .i64 t.d.s, .int .i64 t.d.w, .int .i64 t.d.b] 30)
  have T0 := IsS.new2 (w := w) (o := (.cells #[.int .i64 s.x, .int .i64 s.y, .int .i64 s.d.t, .int .i64 s.d.n, .int .i64 s.d.e, .int .i64 s.d.s, .int .i64 s.d.w, .int .i64 s.d.b] 30)) (s := t) (ty := 30)
  have q0 : Ext w ((w.alloc (.cells #[.int .i64 s.x, .int .i64 s.y, .int .i64 s.d.t, .int .i64 s.d.n, .int .i64 s.d.e, .int .i64 s.d.s, .int .i64 s.d.w, .int .i64 s.d.b] 30)).alloc (.cells #[.int .i64 t.x, .int .i64 t.y, .int .i64 t.d.t, .int .i64 t.d.n, .int .i64 t.d.e, .int .i64 t.d.s, .int .i64 t.d.w, .int .i64 t.d.b] 30)) := ((Ext.refl w).alloc _).alloc _
  generalize (w.alloc (.cells #[.int .i64 s.x, .int .i64 s.y, .int .i64 s.d.t, .int .i64 s.d.n, .int .i64 s.d.e, .int .i64 s.d.s, .int .i64 s.d.w, .int .i64 s.d.b] 30)).alloc (.cells #[.int .i64 t.x, .int .i64 t.y, .int .i64 t.d.t, .int .i64 t.d.n, .int .i64 t.d.e, .int .i64 t.d.s, .int .i64 t.d.w, .int .i64 t.d.b] 30) = W0 at S0 T0 q0 ⊢
  obtain ⟨l0, ⟨a0, a1, a2, a3, a4, a5, a6, a7⟩, -⟩ := S0.all
  obtain ⟨l1, ⟨b0, b1, b2, b3, b4, b5, b6, b7⟩, -⟩ := T0.all
  go_region_held3 (fun wx => wx.cell? ⟨w.heap.size, 0, none⟩ = some (.int .i64 s.x) ∧ wx.cell? ⟨w.heap.size, 1, none⟩ = some (.int .i64 s.y) ∧ wx.cell? ⟨w.heap.size, 2, none⟩ = some (.int .i64 s.d.t) ∧ wx.cell? ⟨w.heap.size, 3, none⟩ = some (.int .i64 s.d.n) ∧ wx.cell? ⟨w.heap.size, 4, none⟩ = some (.int .i64 s.d.e) ∧ wx.cell? ⟨w.heap.size, 5, none⟩ = some (.int .i64 s.d.s) ∧ wx.cell? ⟨w.heap.size, 6, none⟩ = some (.int .i64 s.d.w) ∧ wx.cell? ⟨w.heap.size, 7, none⟩ = some (.int .i64 s.d.b) ∧ wx.cell? ⟨w.heap.size + 1, 0, none⟩ = some (.int .i64 t.x) ∧ wx.cell? ⟨w.heap.size + 1, 1, none⟩ = some (.int .i64 t.y) ∧ wx.cell? ⟨w.heap.size + 1, 2, none⟩ = some (.int .i64 t.d.t) ∧ wx.cell? ⟨w.heap.size + 1, 3, none⟩ = some (.int .i64 t.d.n) ∧ wx.cell? ⟨w.heap.size + 1, 4, none⟩ = some (.int .i64 t.d.e) ∧ wx.cell? ⟨w.heap.size + 1, 5, none⟩ = some (.int .i64 t.d.s) ∧ wx.cell? ⟨w.heap.size + 1, 6, none⟩ = some (.int .i64 t.d.w) ∧ wx.cell? ⟨w.heap.size + 1, 7, none⟩ = some (.int .i64 t.d.b)) (refine ⟨?_, ?_, ?_, ?_, ?_, ?_, ?_, ?_, ?_, ?_, ?_, ?_, ?_, ?_, ?_, ?_⟩ <;> (first | with_reducible assumption | (with_reducible (change W0.cell? _ = _); with_reducible assumption) | (rw [World.cell?_drew]; with_reducible assumption) | (rw [cell_alloc_lt (by first | omega | (simp; omega))]; with_reducible assumption) | (rw [World.cell?_drew]; rw [cell_alloc_lt (by first | omega | (simp; omega))]; with_reducible assumption)))
    (first
      | (go_at_call 94; (refine (cmpInt_any _ _ _).mono ?_); rintro x w1 ⟨rfl, rfl⟩)
      | (go_at_call 60; ((with_reducible refine (compareDice_any s.d t.d _).mono ?_)); rintro x w1 ⟨rfl, hb1⟩; have S1 := isS_to hb1.below S0 rfl; have T1 := isS_to hb1.below T0 rfl; have q1 := ext_to hb1 q0 rfl rfl rfl rfl (by first | exact Nat.le_succ _ | exact Nat.le_refl _); obtain ⟨l2, ⟨m0, m1, m2, m3, m4, m5, m6, m7⟩, -⟩ := S1.all; obtain ⟨l3, ⟨n0, n1, n2, n3, n4, n5, n6, n7⟩, -⟩ := T1.all)
      | (go_at_call 93; (refine (HOR.out w1.heap.size _ _ (by simp) (by simp) (by simp)).mono ?_); rintro x w2 ⟨rfl, rfl⟩))
  go_wp2
  go_returns
  exact ⟨rfl, q1.alloc _⟩
end Go.Proofs.YthdkhikkdcjifaaDoor
