/- Moves of dice: the plain moves of lists of states, and the closure's contract in their words. The model's move of a die: myMove. -/
import Derived.Test.YtdndegonpdakkaaDoorMvG
import Derived.Test.YtdndegonpdakkaaDoorPlan
import Derived.Test.YtdndegonpdakkaaDoorWays
import Derived.Test.YtdndegonpdakkaaDoorTogS
namespace Go.Proofs.YtdndegonpdakkaaDoor
set_option maxRecDepth 100000
set_option linter.all false
open Go.RowKit

def nearS (u : St) : Prop := (-100000 ≤ u.x ∧ u.x ≤ 100000) ∧ (-100000 ≤ u.y ∧ u.y ≤ 100000)
/-- A move of the k-th of some dice, if it can be made. -/
def mvL (l : List UInt8) (L : List St) (k : Nat) (d : Int) : Option (List St) := match L[k]? with
  | none => none
  | some g => if (floorL l (rollT g d).x (rollT g d).y && !inAny L (rollT g d).x (rollT g d).y) = true then some (L.set k (rollT g d)) else none
theorem mvL_len {l : List UInt8} {L M : List St} {k : Nat} {d : Int} (h : mvL l L k d = some M) : M.length = L.length := by
  unfold mvL at h
  split at h
  · cases h
  · split at h
    · rw [← Option.some.inj h, List.length_set]
    · cases h
theorem mvL_near {l : List UInt8} (hb : isBd l = true) {L M : List St} {k : Nat} {d : Int} (hL : ∀ (i : Nat) (u : St), L[i]? = some u → nearS u) (h : mvL l L k d = some M) : ∀ (i : Nat) (u : St), M[i]? = some u → nearS u := by
  unfold mvL at h
  split at h
  · cases h
  · split at h
    · rename_i g hg hf
      obtain rfl := Option.some.inj h
      intro i u hu
      rw [List.getElem?_set] at hu
      split at hu
      · split at hu
        · obtain rfl := Option.some.inj hu
          exact floor_near hb (Bool.and_eq_true_iff.1 hf).1
        · cases hu
      · exact hL i u hu
    · cases h
/-- A group's value for dice, or that of none. -/
def grpV : Option (List St) → Value
  | some M => gV (pdS M 0) (pdS M 1) (pdS M 2)
  | none => gV ⟨0, 0, ⟨0, 0, 0, 0, 0, 0⟩⟩ ⟨0, 0, ⟨0, 0, 0, 0, 0, 0⟩⟩ ⟨0, 0, ⟨0, 0, 0, 0, 0, 0⟩⟩
theorem floor_pos {l : List UInt8} (h : isBd l = true) {x y : Int} (h2 : floorL l x y = true) : 0 ≤ x ∧ 0 ≤ y := by
  unfold floorL at h2
  cases hi : inL l x y
  · rw [cellI_out h hi] at h2
    exact absurd h2 (by simp)
  · unfold inL at hi
    simp only [Bool.and_eq_true, decide_eq_true_eq] at hi
    omega
theorem noS_floor {l : List UInt8} (h : isBd l = true) (d : Int) : floorL l (rollT noS d).x (rollT noS d).y = false := by
  cases hf : floorL l (rollT noS d).x (rollT noS d).y
  · rfl
  · exfalso
    have h1 := floor_pos h hf
    have h2 : (rollT noS d).x ≤ -6 := by
      show nextX (-7) d ≤ -6
      unfold nextX
      (repeat' split) <;> omega
    omega
theorem pd_in {l : List UInt8} (h : isBd l = true) {L : List St} (h3 : L.length ≤ 3) {x y : Int} (hf : floorL l x y = true) : inAny [pdS L 0, pdS L 1, pdS L 2] x y = inAny L x y := by
  have hp := floor_pos h hf
  have hn : inCell noS x y = false := by
    unfold inCell
    rw [show decide ((noS : St).x = x) = false from decide_eq_false (by show ¬ (-7 : Int) = x; omega)]
    rfl
  match L, h3 with
  | [], _ => simp [pdS, inAny, hn]
  | [a], _ => simp [pdS, inAny, hn]
  | [a, b], _ => simp [pdS, inAny, hn]
  | [a, b, c], _ => rfl
theorem pd_near {L : List St} (hL : ∀ (i : Nat) (u : St), L[i]? = some u → nearS u) (k : Nat) : nearS (pdS L k) := by
  unfold pdS
  rw [List.getD_eq_getElem?_getD]
  cases h : L[k]? with
  | none => exact ⟨⟨by decide, by decide⟩, ⟨by decide, by decide⟩⟩
  | some u => exact hL k u h
theorem pd_get {L : List St} {k : Nat} {g : St} (h : L[k]? = some g) : pdS L k = g := by
  unfold pdS
  rw [List.getD_eq_getElem?_getD, h]
  rfl
theorem pd_none {L : List St} {k : Nat} (h : L[k]? = none) : pdS L k = noS := by
  unfold pdS
  rw [List.getD_eq_getElem?_getD, h]
  rfl
theorem pd_set {L : List St} {k : Nat} (hk : k < L.length) (r : St) (j : Nat) : pdS (L.set k r) j = if j = k then r else pdS L j := by
  unfold pdS
  rw [List.getD_eq_getElem?_getD, List.getD_eq_getElem?_getD, List.getElem?_set]
  by_cases h : k = j
  · subst h
    simp [hk]
  · have h' : ¬ j = k := fun e => h e.symm
    simp [h, h']
theorem mvL_none {l : List UInt8} (h : isBd l = true) {L : List St} (h3 : L.length ≤ 3) {k : Nat} {d : Int} (hf : floorL l (rollT (pdS L k) d).x (rollT (pdS L k) d).y = false ∨ inAny [pdS L 0, pdS L 1, pdS L 2] (rollT (pdS L k) d).x (rollT (pdS L k) d).y = true) : mvL l L k d = none := by
  unfold mvL
  cases hk : L[k]? with
  | none => rfl
  | some g =>
    rw [pd_get hk] at hf
    show (if _ then _ else _) = _
    cases hfl : floorL l (rollT g d).x (rollT g d).y
    · simp
    · rcases hf with hf | hf
      · rw [hfl] at hf; cases hf
      · rw [pd_in h h3 hfl] at hf
        simp [hf]
theorem mvL_some {l : List UInt8} (h : isBd l = true) {L : List St} (h3 : L.length ≤ 3) {k : Nat} {d : Int} (hf : floorL l (rollT (pdS L k) d).x (rollT (pdS L k) d).y = true) (hin : inAny [pdS L 0, pdS L 1, pdS L 2] (rollT (pdS L k) d).x (rollT (pdS L k) d).y = false) : k < L.length ∧ mvL l L k d = some (L.set k (rollT (pdS L k) d)) := by
  cases hk : L[k]? with
  | none =>
    rw [pd_none hk, noS_floor h] at hf
    cases hf
  | some g =>
    have hkl := (List.getElem?_eq_some_iff.1 hk).1
    refine ⟨hkl, ?_⟩
    rw [pd_get hk] at hf hin ⊢
    rw [pd_in h h3 hf] at hin
    unfold mvL
    rw [hk]
    simp [hf, hin]

set_option maxHeartbeats 800000 in
theorem mv_any (L : List St) (h3 : L.length ≤ 3) (hL : ∀ (i : Nat) (u : St), L[i]? = some u → nearS u) (k : Nat) (hk : k < 3) (x d : UInt8) (hx : x.toNat = 48 + k) (Br gR : Nat) (s : ByteArray) (w : World) (hs : s.size ≤ 1048576) (hb : isBd s.data.toList = true) (hd : 0 ≤ dirIx d.toNat) (hR : RowsBox w Br gR s) :
    Calls Tryd.prog 72 #[gV (pdS L 0) (pdS L 1) (pdS L 2), .string ⟨#[x, d]⟩, .pointer (some ⟨Br, 0, none⟩)] w fun e w' => e = .returned (.tuple #[grpV (mvL s.data.toList L k (dirIx d.toNat)), .bool (mvL s.data.toList L k (dirIx d.toNat)).isSome]) ∧ Below w.heap.size w w' := by
  obtain ⟨n1, n2⟩ := pd_near hL k
  cases hf : floorL s.data.toList (rollT (pdS L k) (dirIx d.toNat)).x (rollT (pdS L k) (dirIx d.toNat)).y
  · rw [mvL_none hb h3 (.inl hf)]
    match k, hk, hx with
    | 0, _, hx =>
      obtain rfl : x = 48 := UInt8.toNat_inj.1 (by rw [hx]; rfl)
      exact mvNo_0 _ _ _ d Br gR s w hs hb hd n1 n2 hR hf
    | 1, _, hx =>
      obtain rfl : x = 49 := UInt8.toNat_inj.1 (by rw [hx]; rfl)
      exact mvNo_1 _ _ _ d Br gR s w hs hb hd n1 n2 hR hf
    | 2, _, hx =>
      obtain rfl : x = 50 := UInt8.toNat_inj.1 (by rw [hx]; rfl)
      exact mvNo_2 _ _ _ d Br gR s w hs hb hd n1 n2 hR hf
  · cases hin : inAny [pdS L 0, pdS L 1, pdS L 2] (rollT (pdS L k) (dirIx d.toNat)).x (rollT (pdS L k) (dirIx d.toNat)).y
    · obtain ⟨hkl, hm⟩ := mvL_some hb h3 hf hin
      rw [hm]
      match k, hk, hx with
      | 0, _, hx =>
        obtain rfl : x = 48 := UInt8.toNat_inj.1 (by rw [hx]; rfl)
        have := mvOk_0 _ _ _ d Br gR s w hs hb hd n1 n2 hR hf hin
        simp only [grpV, pd_set hkl, Option.isSome]
        exact this
      | 1, _, hx =>
        obtain rfl : x = 49 := UInt8.toNat_inj.1 (by rw [hx]; rfl)
        have := mvOk_1 _ _ _ d Br gR s w hs hb hd n1 n2 hR hf hin
        simp only [grpV, pd_set hkl, Option.isSome]
        exact this
      | 2, _, hx =>
        obtain rfl : x = 50 := UInt8.toNat_inj.1 (by rw [hx]; rfl)
        have := mvOk_2 _ _ _ d Br gR s w hs hb hd n1 n2 hR hf hin
        simp only [grpV, pd_set hkl, Option.isSome]
        exact this
    · rw [mvL_none hb h3 (.inr hin)]
      match k, hk, hx with
      | 0, _, hx =>
        obtain rfl : x = 48 := UInt8.toNat_inj.1 (by rw [hx]; rfl)
        exact mvIn_0 _ _ _ d Br gR s w hs hb hd n1 n2 hR hf hin
      | 1, _, hx =>
        obtain rfl : x = 49 := UInt8.toNat_inj.1 (by rw [hx]; rfl)
        exact mvIn_1 _ _ _ d Br gR s w hs hb hd n1 n2 hR hf hin
      | 2, _, hx =>
        obtain rfl : x = 50 := UInt8.toNat_inj.1 (by rw [hx]; rfl)
        exact mvIn_2 _ _ _ d Br gR s w hs hb hd n1 n2 hR hf hin
end Go.Proofs.YtdndegonpdakkaaDoor
namespace Go.Proofs.YtdndegonpdakkaaDoor
set_option maxRecDepth 100000
set_option linter.all false
open Go.RowKit
attribute [local go_sem ↓] Go.wp_at_zero Go.wp_at_succ

theorem set8_listM (xs ys : List Value) (a : St) (r : St) : ((((((((scells a ++ ys).set 0 (.int .i64 r.x)).set 1 (.int .i64 r.y)).set 2 (.int .i64 r.d.t)).set 3 (.int .i64 r.d.n)).set 4 (.int .i64 r.d.e)).set 5 (.int .i64 r.d.s)).set 6 (.int .i64 r.d.w)).set 7 (.int .i64 r.d.b) = scells r ++ ys := by
  simp [scells]
theorem set_past (xs ys : List Value) (j : Nat) (v : Value) (h : xs.length = 8) : (xs ++ ys).set (j + 8) v = xs ++ ys.set j v := by
  rw [List.set_append, if_neg (by omega), h, Nat.add_sub_cancel]
theorem cellsS_set : ∀ (L : List St) (k : Nat) (r : St), k < L.length → (((((((((cellsS L).set (k * 8) (.int .i64 r.x)).set (k * 8 + 1) (.int .i64 r.y)).set (k * 8 + 2) (.int .i64 r.d.t)).set (k * 8 + 3) (.int .i64 r.d.n)).set (k * 8 + 4) (.int .i64 r.d.e)).set (k * 8 + 5) (.int .i64 r.d.s)).set (k * 8 + 6) (.int .i64 r.d.w)).set (k * 8 + 7) (.int .i64 r.d.b)) = cellsS (L.set k r)
  | [], k, r, h => by simp at h
  | a :: L, 0, r, _ => set8_listM [] (cellsS L) a r
  | a :: L, k + 1, r, h => by
    have ih := cellsS_set L k r (by simpa using h)
    have e : cellsS (a :: L) = scells a ++ cellsS L := rfl
    have e2 : cellsS ((a :: L).set (k + 1) r) = scells a ++ cellsS (L.set k r) := rfl
    have hl : (scells a).length = 8 := rfl
    rw [e, e2, ← ih]
    rw [show (k + 1) * 8 = k * 8 + 8 by omega]
    rw [show k * 8 + 8 + 1 = k * 8 + 1 + 8 by omega, show k * 8 + 8 + 2 = k * 8 + 2 + 8 by omega, show k * 8 + 8 + 3 = k * 8 + 3 + 8 by omega, show k * 8 + 8 + 4 = k * 8 + 4 + 8 by omega, show k * 8 + 8 + 5 = k * 8 + 5 + 8 by omega, show k * 8 + 8 + 6 = k * 8 + 6 + 8 by omega, show k * 8 + 8 + 7 = k * 8 + 7 + 8 by omega]
    rw [set_past _ _ _ _ hl, set_past _ _ _ _ hl, set_past _ _ _ _ hl, set_past _ _ _ _ hl, set_past _ _ _ _ hl, set_past _ _ _ _ hl, set_past _ _ _ _ hl, set_past _ _ _ _ hl]
theorem own_set8M {w : World} {B g n cap : Nat} {e : TypeId} {L : List St} {k : Nat} (h : w.ownsRow B e 8 (.slice (some ⟨g, 0, none⟩) n cap) n (cellsS L)) (hn : n = L.length) (hk : k < n) (r : St) :
    ((((((((w.setCell ⟨g, k * 8, none⟩ (.int .i64 r.x)).setCell ⟨g, k * 8 + 1, none⟩ (.int .i64 r.y)).setCell ⟨g, k * 8 + 2, none⟩ (.int .i64 r.d.t)).setCell ⟨g, k * 8 + 3, none⟩ (.int .i64 r.d.n)).setCell ⟨g, k * 8 + 4, none⟩ (.int .i64 r.d.e)).setCell ⟨g, k * 8 + 5, none⟩ (.int .i64 r.d.s)).setCell ⟨g, k * 8 + 6, none⟩ (.int .i64 r.d.w)).setCell ⟨g, k * 8 + 7, none⟩ (.int .i64 r.d.b)).ownsRow B e 8 (.slice (some ⟨g, 0, none⟩) n cap) n (cellsS (L.set k r)) := by
  have h0 := own_put h (k * 8) (by omega) (.int .i64 r.x)
  have h1 := own_put h0 (k * 8 + 1) (by omega) (.int .i64 r.y)
  have h2 := own_put h1 (k * 8 + 2) (by omega) (.int .i64 r.d.t)
  have h3 := own_put h2 (k * 8 + 3) (by omega) (.int .i64 r.d.n)
  have h4 := own_put h3 (k * 8 + 4) (by omega) (.int .i64 r.d.e)
  have h5 := own_put h4 (k * 8 + 5) (by omega) (.int .i64 r.d.s)
  have h6 := own_put h5 (k * 8 + 6) (by omega) (.int .i64 r.d.w)
  have h7 := own_put h6 (k * 8 + 7) (by omega) (.int .i64 r.d.b)
  rw [cellsS_set L k r (by omega)] at h7
  exact h7

set_option maxHeartbeats 3200000 in
theorem mmNo (l : List UInt8) (W H m : Nat) (hg : GridOk l W H m) (g cap gd c2 : Nat) (L : List St) (n : Nat) (hN : n = L.length) (hn3 : n ≤ 3) (k : Nat) (u : St) (hx : L[k]? = some u) (hu : nearS u) (d : Int) (w : World) (hA : BytesAt w g (splitP l).flatten) (hD : StAt w gd 0 L) (hc : canT l u d = false) : Calls Tryd.prog 42 #[gridV W H m g cap, .slice (some ⟨gd, 0, none⟩) n c2, .int .i64 (k : Int), .int .i64 d] w fun e w' => e = .returned (.tuple #[.slice none 0 0, .bool false]) ∧ Below w.heap.size w w' := by
  have hkn : k < n := by have := (List.getElem?_eq_some_iff.1 hx).1; omega
  have HX := hide hx
  have HG := hide hg
  have HN := hide hN
  have HT0 := hide (show TogI w (w.alloc (.cells #[.int .i64 (W : Int), .int .i64 (H : Int), .slice (some ⟨g, 0, none⟩) m cap] 50)) W H m g cap gd (splitP l).flatten L from
    ⟨IsG.new, bytesAt_to (w0 := w) ((Below.refl _ _).alloc (Nat.le_refl _) _) hA rfl, stAt_to (w0 := w) ((Below.refl _ _).alloc (Nat.le_refl _) _) hD rfl, (Below.refl _ _).alloc (Nat.le_refl _) _⟩)
  generalize hW : w.alloc (.cells #[.int .i64 (W : Int), .int .i64 (H : Int), .slice (some ⟨g, 0, none⟩) m cap] 50) = W0 at HT0
  have HW := hide hW
  clear hW hA hD hx hg hN
  obtain ⟨r, hr⟩ : ∃ r, r = rolT l u d := ⟨_, rfl⟩
  have HR := hide hr
  have HC := hide hc
  clear hr hc
  have HBR := hide (fun (wx : World) (hAx : BytesAt wx g (splitP l).flatten) => boRoll_any l W H m HG.out g cap u d wx hAx hu.1 hu.2)
  have HA0 := hide (show BytesAt W0.drew g (splitP l).flatten from HT0.out.2.1)
  have HRA := hide (IsS.new (w := W0) (s := ⟨0, 0, ⟨0, 0, 0, 0, 0, 0⟩⟩) (ty := 57))
  have HTA := hide (show TogI w (W0.alloc (.cells #[.int .i64 0, .int .i64 0, .int .i64 0, .int .i64 0, .int .i64 0, .int .i64 0, .int .i64 0, .int .i64 0] 57)) W H m g cap gd (splitP l).flatten L from togI_alloc HT0.out _)
  have hkn2 : (k : Int) < (n : Int) := by omega
  have hk0 : (0 : Int) ≤ (k : Int) := by omega
  clear hu
  obtain ⟨_, ⟨gc0, gc1, gc2⟩, -⟩ := HT0.out.1.all
  obtain ⟨c0, c1, c2, c3, c4, c5, c6, c7⟩ := HT0.out.2.2.1.cells0 HX.out
  go_enter Tryd.func42, Tryd.ntmps42
  go_upto_region 1 with (fail)
  rw [HW.out]
  go_cut [10, 11] from 13 to 22 (fun t10 t11 wx => ∃ B8, t10 = .pointer (some ⟨B8, 0, none⟩) ∧ t11 = .bool false ∧ IsS wx B8 r 57 ∧ TogI w wx W H m g cap gd (splitP l).flatten L)
  case first =>
    refine wp_region_held_drew (S := (fun w' => w'.cell? ⟨w.heap.size, 0, none⟩ = some (.int .i64 (W : Int)) ∧ w'.cell? ⟨w.heap.size, 1, none⟩ = some (.int .i64 (H : Int)) ∧ w'.cell? ⟨w.heap.size, 2, none⟩ = some (.slice (some ⟨g, 0, none⟩) m cap) ∧ w'.cell? ⟨gd, k * 8, none⟩ = some (.int .i64 u.x) ∧ w'.cell? ⟨gd, k * 8 + 1, none⟩ = some (.int .i64 u.y) ∧ w'.cell? ⟨gd, k * 8 + 2, none⟩ = some (.int .i64 u.d.t) ∧ w'.cell? ⟨gd, k * 8 + 3, none⟩ = some (.int .i64 u.d.n) ∧ w'.cell? ⟨gd, k * 8 + 4, none⟩ = some (.int .i64 u.d.e) ∧ w'.cell? ⟨gd, k * 8 + 5, none⟩ = some (.int .i64 u.d.s) ∧ w'.cell? ⟨gd, k * 8 + 6, none⟩ = some (.int .i64 u.d.w) ∧ w'.cell? ⟨gd, k * 8 + 7, none⟩ = some (.int .i64 u.d.b))) (by kernel_rfl) (by refine ⟨?_, ?_, ?_, ?_, ?_, ?_, ?_, ?_, ?_, ?_, ?_⟩ <;> first | with_reducible assumption | assumption) (fun hHeld => ?_)
    refine takeD (i := 0) (v := ?_) 14 rfl rfl (by kernel_rfl) (by kernel_rfl) (by kernel_rfl) (fun _ _ _ h => h) (Or.inl ⟨by rfl, ?_⟩) (by assumption) ?_
    rotate_left 1
    · (intro w hSw; (try dsimp only at hSw); go_simp; (try with_reducible rfl))
    try simp only [Act.put, List.setIfInBounds_toArray, List.set_cons_zero, List.set_cons_succ]
    refine takeD (i := 1) (v := ?_) 15 rfl rfl (by kernel_rfl) (by kernel_rfl) (by kernel_rfl) (fun _ _ _ h => h) (Or.inl ⟨by rfl, ?_⟩) (by assumption) ?_
    rotate_left 1
    · (intro w hSw; (try dsimp only at hSw); go_simp; (try with_reducible rfl))
    try simp only [Act.put, List.setIfInBounds_toArray, List.set_cons_zero, List.set_cons_succ]
    refine takeD (i := 2) (v := ?_) 16 rfl rfl (by kernel_rfl) (by kernel_rfl) (by kernel_rfl) (fun _ _ _ h => h) (Or.inl ⟨by rfl, ?_⟩) (by assumption) ?_
    rotate_left 1
    · (intro w hSw; (try dsimp only at hSw); go_simp; (try with_reducible rfl))
    try simp only [Act.put, List.setIfInBounds_toArray, List.set_cons_zero, List.set_cons_succ]
    refine takeD (i := 3) (v := ?_) 17 rfl rfl (by kernel_rfl) (by kernel_rfl) (by kernel_rfl) (fun _ _ _ h => h) (Or.inl ⟨by rfl, ?_⟩) (by assumption) ?_
    rotate_left 1
    · (intro w hSw; (try dsimp only at hSw); go_simp; (try with_reducible rfl))
    try simp only [Act.put, List.setIfInBounds_toArray, List.set_cons_zero, List.set_cons_succ]
    refine takeD (i := 4) (v := ?_) 18 rfl rfl (by kernel_rfl) (by kernel_rfl) (by kernel_rfl) (fun _ _ _ h => h) (Or.inl ⟨by rfl, ?_⟩) (by assumption) ?_
    rotate_left 1
    · (intro w hSw; (try dsimp only at hSw); go_simp; (try with_reducible rfl))
    try simp only [Act.put, List.setIfInBounds_toArray, List.set_cons_zero, List.set_cons_succ]
    refine takeD (i := 5) (v := ?_) 19 rfl rfl (by kernel_rfl) (by kernel_rfl) (by kernel_rfl) (fun _ _ _ h => h) (Or.inl ⟨by rfl, ?_⟩) (by assumption) ?_
    rotate_left 1
    · (intro w hSw; (try dsimp only at hSw); go_simp; (try with_reducible rfl))
    try simp only [Act.put, List.setIfInBounds_toArray, List.set_cons_zero, List.set_cons_succ]
    refine wpAnyH_ready (rs := [6, 10]) (by kernel_rfl) (by simp) ?_
    refine AllReadyH.cons (o := _) rfl (fun K hK => ?_) (AllReadyH.cons (o := _) rfl (fun K hK => ?_) AllReadyH.nil)
    · go_simp
      go_at_call 67
      (with_reducible refine (HBR.out _ HA0.out).mono ?_)
      rintro e w2 ⟨rfl, hb2⟩
      rw [← HR.out, HC.out]
      have T2 := togI_to hb2 HT0.out rfl rfl rfl rfl
      obtain ⟨_, ⟨gx0, gx1, gx2⟩, -⟩ := T2.1.all
      obtain ⟨x0, x1, x2, x3, x4, x5, x6, x7⟩ := T2.2.2.1.cells0 HX.out
      dsimp only
      refine hK.out _ _ (by refine ⟨?_, ?_, ?_, ?_, ?_, ?_, ?_, ?_, ?_, ?_, ?_⟩ <;> first | with_reducible assumption | assumption) (fun hHeld1 => ?_)
      clear hK
      try simp only [Act.put, List.setIfInBounds_toArray, List.set_cons_zero, List.set_cons_succ]
      refine takeD (i := 7) (v := ?_) 13 rfl rfl (by kernel_rfl) (by kernel_rfl) (by kernel_rfl) (fun _ _ _ h => h) (Or.inl ⟨by rfl, ?_⟩) (by assumption) ?_
      rotate_left 1
      · (intro w hSw; (try dsimp only at hSw); go_simp; (try with_reducible rfl))
      try simp only [Act.put, List.setIfInBounds_toArray, List.set_cons_zero, List.set_cons_succ]
      refine takeD (i := 8) (v := ?_) 21 rfl rfl (by kernel_rfl) (by kernel_rfl) (by kernel_rfl) (fun _ _ _ h => h) (Or.inl ⟨by rfl, ?_⟩) (by assumption) ?_
      rotate_left 1
      · (intro w hSw; (try dsimp only at hSw); go_simp; (try with_reducible rfl))
      try simp only [Act.put, List.setIfInBounds_toArray, List.set_cons_zero, List.set_cons_succ]
      refine takeD (i := 9) (v := ?_) 22 rfl rfl (by kernel_rfl) (by kernel_rfl) (by kernel_rfl) (fun _ _ _ h => h) (Or.inl ⟨by rfl, ?_⟩) (by assumption) ?_
      rotate_left 1
      · (intro w hSw; (try dsimp only at hSw); go_simp; (try with_reducible rfl))
      try simp only [Act.put, List.setIfInBounds_toArray, List.set_cons_zero, List.set_cons_succ]
      refine wpAnyH_ready (rs := [10]) (by kernel_rfl) (by simp) ?_
      refine AllReadyH.cons (o := _) rfl (fun K hK => ?_) AllReadyH.nil
      go_simp
      have TA := togI_alloc T2 (.cells #[.int .i64 0, .int .i64 0, .int .i64 0, .int .i64 0, .int .i64 0, .int .i64 0, .int .i64 0, .int .i64 0] 57)
      obtain ⟨_, ⟨gy0, gy1, gy2⟩, -⟩ := TA.1.all
      obtain ⟨y0, y1, y2, y3, y4, y5, y6, y7⟩ := TA.2.2.1.cells0 HX.out
      refine hK.out _ _ (by refine ⟨?_, ?_, ?_, ?_, ?_, ?_, ?_, ?_, ?_, ?_, ?_⟩ <;> first | with_reducible assumption | assumption) (fun hHeld2 => ?_)
      clear hK
      try simp only [Act.put, List.setIfInBounds_toArray, List.set_cons_zero, List.set_cons_succ]
      refine wpAnyH_ready (rs := [11]) (by kernel_rfl) (by simp) ?_
      refine AllReadyH.cons (o := _) rfl (fun K hK => ?_) AllReadyH.nil
      go_simp
      have SF := IsS.new (w := w2) (s := r) (ty := 57)
      have TF := togI_alloc T2 (.cells #[.int .i64 r.x, .int .i64 r.y, .int .i64 r.d.t, .int .i64 r.d.n, .int .i64 r.d.e, .int .i64 r.d.s, .int .i64 r.d.w, .int .i64 r.d.b] 57)
      obtain ⟨_, ⟨gz0, gz1, gz2⟩, -⟩ := TF.1.all
      obtain ⟨z0, z1, z2, z3, z4, z5, z6, z7⟩ := TF.2.2.1.cells0 HX.out
      refine hK.out _ _ (by refine ⟨?_, ?_, ?_, ?_, ?_, ?_, ?_, ?_, ?_, ?_, ?_⟩ <;> first | with_reducible assumption | assumption) (fun hHeld3 => ?_)
      clear hK
      try simp only [Act.put, List.setIfInBounds_toArray, List.set_cons_zero, List.set_cons_succ]
      refine takeD (i := 12) (v := ?_) 11 rfl rfl (by kernel_rfl) (by kernel_rfl) (by kernel_rfl) (fun _ _ _ h => h) (Or.inl ⟨by rfl, ?_⟩) (by assumption) ?_
      rotate_left 1
      · (intro w hSw; (try dsimp only at hSw); go_simp; (try with_reducible rfl))
      try simp only [Act.put, List.setIfInBounds_toArray, List.set_cons_zero, List.set_cons_succ]
      refine wpAnyH_done (by kernel_rfl) ?_ _
      go_wp2_with fail
      go_meet
      exact ⟨_, rfl, rfl, SF, TF⟩
    · go_simp
      obtain ⟨_, ⟨gy0, gy1, gy2⟩, -⟩ := HTA.out.1.all
      obtain ⟨y0, y1, y2, y3, y4, y5, y6, y7⟩ := HTA.out.2.2.1.cells0 HX.out
      have HAA := hide (show BytesAt (W0.alloc (.cells #[.int .i64 0, .int .i64 0, .int .i64 0, .int .i64 0, .int .i64 0, .int .i64 0, .int .i64 0, .int .i64 0] 57)).drew g (splitP l).flatten from HTA.out.2.1)
      refine hK.out _ _ (by refine ⟨?_, ?_, ?_, ?_, ?_, ?_, ?_, ?_, ?_, ?_, ?_⟩ <;> first | with_reducible assumption | assumption) (fun hHeld1 => ?_)
      clear hK
      try simp only [Act.put, List.setIfInBounds_toArray, List.set_cons_zero, List.set_cons_succ]
      refine wpAnyH_ready (rs := [6]) (by kernel_rfl) (by simp) ?_
      refine AllReadyH.cons (o := _) rfl (fun K hK => ?_) AllReadyH.nil
      go_simp
      go_at_call 67
      (with_reducible refine (HBR.out _ HAA.out).mono ?_)
      rintro e w2 ⟨rfl, hb2⟩
      rw [← HR.out, HC.out]
      have T2 := togI_to hb2 HTA.out rfl rfl rfl rfl
      have R2 := isS_to hb2 HRA.out rfl
      have hb02 : Below W0.heap.size W0 w2 := below_to hb2 ((Below.refl W0.heap.size W0).alloc (Nat.le_refl _) (.cells #[.int .i64 0, .int .i64 0, .int .i64 0, .int .i64 0, .int .i64 0, .int .i64 0, .int .i64 0, .int .i64 0] 57)) (by simp) rfl rfl rfl rfl
      clear hb2
      obtain ⟨_, ⟨gx0, gx1, gx2⟩, -⟩ := T2.1.all
      obtain ⟨x0, x1, x2, x3, x4, x5, x6, x7⟩ := T2.2.2.1.cells0 HX.out
      dsimp only
      refine hK.out _ _ (by refine ⟨?_, ?_, ?_, ?_, ?_, ?_, ?_, ?_, ?_, ?_, ?_⟩ <;> first | with_reducible assumption | assumption) (fun hHeld2 => ?_)
      clear hK
      try simp only [Act.put, List.setIfInBounds_toArray, List.set_cons_zero, List.set_cons_succ]
      refine takeD (i := 7) (v := ?_) 13 rfl rfl (by kernel_rfl) (by kernel_rfl) (by kernel_rfl) (fun _ _ _ h => h) (Or.inl ⟨by rfl, ?_⟩) (by assumption) ?_
      rotate_left 1
      · (intro w hSw; (try dsimp only at hSw); go_simp; (try with_reducible rfl))
      try simp only [Act.put, List.setIfInBounds_toArray, List.set_cons_zero, List.set_cons_succ]
      refine takeD (i := 8) (v := ?_) 21 rfl rfl (by kernel_rfl) (by kernel_rfl) (by kernel_rfl) (fun _ _ _ h => h) (Or.inl ⟨by rfl, ?_⟩) (by assumption) ?_
      rotate_left 1
      · (intro w hSw; (try dsimp only at hSw); go_simp; (try with_reducible rfl))
      try simp only [Act.put, List.setIfInBounds_toArray, List.set_cons_zero, List.set_cons_succ]
      refine takeD (i := 9) (v := ?_) 22 rfl rfl (by kernel_rfl) (by kernel_rfl) (by kernel_rfl) (fun _ _ _ h => h) (Or.inl ⟨by rfl, ?_⟩) (by assumption) ?_
      rotate_left 1
      · (intro w hSw; (try dsimp only at hSw); go_simp; (try with_reducible rfl))
      try simp only [Act.put, List.setIfInBounds_toArray, List.set_cons_zero, List.set_cons_succ]
      obtain ⟨lr, ⟨r0, r1, r2, r3, r4, r5, r6, r7⟩, e0, e1, e2, e3, e4, e5, e6, e7⟩ := R2.all
      refine wpAnyH_ready (rs := [11]) (by kernel_rfl) (by simp) ?_
      refine AllReadyH.cons (o := _) rfl (fun K hK => ?_) AllReadyH.nil
      go_simp
      have SF := R2.set8 r
      have TF := togI_to (w0 := W0) (below_set8 hb02 (Nat.le_refl _) r) HT0.out rfl rfl rfl rfl
      clear r0 r1 r2 r3 r4 r5 r6 r7
      obtain ⟨_, ⟨gz0, gz1, gz2⟩, -⟩ := TF.1.all
      obtain ⟨z0, z1, z2, z3, z4, z5, z6, z7⟩ := TF.2.2.1.cells0 HX.out
      refine hK.out _ _ (by refine ⟨?_, ?_, ?_, ?_, ?_, ?_, ?_, ?_, ?_, ?_, ?_⟩ <;> first | with_reducible assumption | assumption) (fun hHeld3 => ?_)
      clear hK
      try simp only [Act.put, List.setIfInBounds_toArray, List.set_cons_zero, List.set_cons_succ]
      refine takeD (i := 12) (v := ?_) 11 rfl rfl (by kernel_rfl) (by kernel_rfl) (by kernel_rfl) (fun _ _ _ h => h) (Or.inl ⟨by rfl, ?_⟩) (by assumption) ?_
      rotate_left 1
      · (intro w hSw; (try dsimp only at hSw); go_simp; (try with_reducible rfl))
      try simp only [Act.put, List.setIfInBounds_toArray, List.set_cons_zero, List.set_cons_succ]
      refine wpAnyH_done (by kernel_rfl) ?_ _
      go_wp2_with fail
      go_meet
      exact ⟨_, rfl, rfl, SF, TF⟩
  obtain ⟨B8, rfl, rfl, SF, TF⟩ := hcut
  clear HA0 HRA HTA HT0 c0 c1 c2 c3 c4 c5 c6 c7 gc0 gc1 gc2
  have q := TF.2.2.2
  go_wp2
  go_returns
  exact ⟨rfl, q⟩
set_option maxHeartbeats 3200000 in
theorem mmIn (l : List UInt8) (W H m : Nat) (hg : GridOk l W H m) (g cap gd c2 : Nat) (L : List St) (n : Nat) (hN : n = L.length) (hn3 : n ≤ 3) (k : Nat) (u : St) (hx : L[k]? = some u) (hu : nearS u) (d : Int) (w : World) (hA : BytesAt w g (splitP l).flatten) (hD : StAt w gd 0 L) (hc : canT l u d = true) (hin : inAny L (rollT u d).x (rollT u d).y = true) : Calls Tryd.prog 42 #[gridV W H m g cap, .slice (some ⟨gd, 0, none⟩) n c2, .int .i64 (k : Int), .int .i64 d] w fun e w' => e = .returned (.tuple #[.slice none 0 0, .bool false]) ∧ Below w.heap.size w w' := by
  have hrt : rolT l u d = rollT u d := by unfold rolT; rw [if_pos hc]
  have HRT := hide hrt
  rw [← hrt] at hin
  clear hrt
  have hin2 := hin
  clear hin
  have hkn : k < n := by have := (List.getElem?_eq_some_iff.1 hx).1; omega
  have HX := hide hx
  have HG := hide hg
  have HN := hide hN
  have HT0 := hide (show TogI w (w.alloc (.cells #[.int .i64 (W : Int), .int .i64 (H : Int), .slice (some ⟨g, 0, none⟩) m cap] 50)) W H m g cap gd (splitP l).flatten L from
    ⟨IsG.new, bytesAt_to (w0 := w) ((Below.refl _ _).alloc (Nat.le_refl _) _) hA rfl, stAt_to (w0 := w) ((Below.refl _ _).alloc (Nat.le_refl _) _) hD rfl, (Below.refl _ _).alloc (Nat.le_refl _) _⟩)
  generalize hW : w.alloc (.cells #[.int .i64 (W : Int), .int .i64 (H : Int), .slice (some ⟨g, 0, none⟩) m cap] 50) = W0 at HT0
  have HW := hide hW
  clear hW hA hD hx hg hN
  obtain ⟨r, hr⟩ : ∃ r, r = rolT l u d := ⟨_, rfl⟩
  have HR := hide hr
  have HC := hide hc
  clear hr hc
  have HBR := hide (fun (wx : World) (hAx : BytesAt wx g (splitP l).flatten) => boRoll_any l W H m HG.out g cap u d wx hAx hu.1 hu.2)
  have HA0 := hide (show BytesAt W0.drew g (splitP l).flatten from HT0.out.2.1)
  have HRA := hide (IsS.new (w := W0) (s := ⟨0, 0, ⟨0, 0, 0, 0, 0, 0⟩⟩) (ty := 57))
  have HTA := hide (show TogI w (W0.alloc (.cells #[.int .i64 0, .int .i64 0, .int .i64 0, .int .i64 0, .int .i64 0, .int .i64 0, .int .i64 0, .int .i64 0] 57)) W H m g cap gd (splitP l).flatten L from togI_alloc HT0.out _)
  have hkn2 : (k : Int) < (n : Int) := by omega
  have hk0 : (0 : Int) ≤ (k : Int) := by omega
  clear hu
  obtain ⟨_, ⟨gc0, gc1, gc2⟩, -⟩ := HT0.out.1.all
  obtain ⟨c0, c1, c2, c3, c4, c5, c6, c7⟩ := HT0.out.2.2.1.cells0 HX.out
  go_enter Tryd.func42, Tryd.ntmps42
  go_upto_region 1 with (fail)
  rw [HW.out]
  go_cut [10, 11] from 13 to 22 (fun t10 t11 wx => ∃ B8, t10 = .pointer (some ⟨B8, 0, none⟩) ∧ t11 = .bool true ∧ IsS wx B8 r 57 ∧ TogI w wx W H m g cap gd (splitP l).flatten L)
  case first =>
    refine wp_region_held_drew (S := (fun w' => w'.cell? ⟨w.heap.size, 0, none⟩ = some (.int .i64 (W : Int)) ∧ w'.cell? ⟨w.heap.size, 1, none⟩ = some (.int .i64 (H : Int)) ∧ w'.cell? ⟨w.heap.size, 2, none⟩ = some (.slice (some ⟨g, 0, none⟩) m cap) ∧ w'.cell? ⟨gd, k * 8, none⟩ = some (.int .i64 u.x) ∧ w'.cell? ⟨gd, k * 8 + 1, none⟩ = some (.int .i64 u.y) ∧ w'.cell? ⟨gd, k * 8 + 2, none⟩ = some (.int .i64 u.d.t) ∧ w'.cell? ⟨gd, k * 8 + 3, none⟩ = some (.int .i64 u.d.n) ∧ w'.cell? ⟨gd, k * 8 + 4, none⟩ = some (.int .i64 u.d.e) ∧ w'.cell? ⟨gd, k * 8 + 5, none⟩ = some (.int .i64 u.d.s) ∧ w'.cell? ⟨gd, k * 8 + 6, none⟩ = some (.int .i64 u.d.w) ∧ w'.cell? ⟨gd, k * 8 + 7, none⟩ = some (.int .i64 u.d.b))) (by kernel_rfl) (by refine ⟨?_, ?_, ?_, ?_, ?_, ?_, ?_, ?_, ?_, ?_, ?_⟩ <;> first | with_reducible assumption | assumption) (fun hHeld => ?_)
    refine takeD (i := 0) (v := ?_) 14 rfl rfl (by kernel_rfl) (by kernel_rfl) (by kernel_rfl) (fun _ _ _ h => h) (Or.inl ⟨by rfl, ?_⟩) (by assumption) ?_
    rotate_left 1
    · (intro w hSw; (try dsimp only at hSw); go_simp; (try with_reducible rfl))
    try simp only [Act.put, List.setIfInBounds_toArray, List.set_cons_zero, List.set_cons_succ]
    refine takeD (i := 1) (v := ?_) 15 rfl rfl (by kernel_rfl) (by kernel_rfl) (by kernel_rfl) (fun _ _ _ h => h) (Or.inl ⟨by rfl, ?_⟩) (by assumption) ?_
    rotate_left 1
    · (intro w hSw; (try dsimp only at hSw); go_simp; (try with_reducible rfl))
    try simp only [Act.put, List.setIfInBounds_toArray, List.set_cons_zero, List.set_cons_succ]
    refine takeD (i := 2) (v := ?_) 16 rfl rfl (by kernel_rfl) (by kernel_rfl) (by kernel_rfl) (fun _ _ _ h => h) (Or.inl ⟨by rfl, ?_⟩) (by assumption) ?_
    rotate_left 1
    · (intro w hSw; (try dsimp only at hSw); go_simp; (try with_reducible rfl))
    try simp only [Act.put, List.setIfInBounds_toArray, List.set_cons_zero, List.set_cons_succ]
    refine takeD (i := 3) (v := ?_) 17 rfl rfl (by kernel_rfl) (by kernel_rfl) (by kernel_rfl) (fun _ _ _ h => h) (Or.inl ⟨by rfl, ?_⟩) (by assumption) ?_
    rotate_left 1
    · (intro w hSw; (try dsimp only at hSw); go_simp; (try with_reducible rfl))
    try simp only [Act.put, List.setIfInBounds_toArray, List.set_cons_zero, List.set_cons_succ]
    refine takeD (i := 4) (v := ?_) 18 rfl rfl (by kernel_rfl) (by kernel_rfl) (by kernel_rfl) (fun _ _ _ h => h) (Or.inl ⟨by rfl, ?_⟩) (by assumption) ?_
    rotate_left 1
    · (intro w hSw; (try dsimp only at hSw); go_simp; (try with_reducible rfl))
    try simp only [Act.put, List.setIfInBounds_toArray, List.set_cons_zero, List.set_cons_succ]
    refine takeD (i := 5) (v := ?_) 19 rfl rfl (by kernel_rfl) (by kernel_rfl) (by kernel_rfl) (fun _ _ _ h => h) (Or.inl ⟨by rfl, ?_⟩) (by assumption) ?_
    rotate_left 1
    · (intro w hSw; (try dsimp only at hSw); go_simp; (try with_reducible rfl))
    try simp only [Act.put, List.setIfInBounds_toArray, List.set_cons_zero, List.set_cons_succ]
    refine wpAnyH_ready (rs := [6, 10]) (by kernel_rfl) (by simp) ?_
    refine AllReadyH.cons (o := _) rfl (fun K hK => ?_) (AllReadyH.cons (o := _) rfl (fun K hK => ?_) AllReadyH.nil)
    · go_simp
      go_at_call 67
      (with_reducible refine (HBR.out _ HA0.out).mono ?_)
      rintro e w2 ⟨rfl, hb2⟩
      rw [← HR.out, HC.out]
      have T2 := togI_to hb2 HT0.out rfl rfl rfl rfl
      obtain ⟨_, ⟨gx0, gx1, gx2⟩, -⟩ := T2.1.all
      obtain ⟨x0, x1, x2, x3, x4, x5, x6, x7⟩ := T2.2.2.1.cells0 HX.out
      dsimp only
      refine hK.out _ _ (by refine ⟨?_, ?_, ?_, ?_, ?_, ?_, ?_, ?_, ?_, ?_, ?_⟩ <;> first | with_reducible assumption | assumption) (fun hHeld1 => ?_)
      clear hK
      try simp only [Act.put, List.setIfInBounds_toArray, List.set_cons_zero, List.set_cons_succ]
      refine takeD (i := 7) (v := ?_) 13 rfl rfl (by kernel_rfl) (by kernel_rfl) (by kernel_rfl) (fun _ _ _ h => h) (Or.inl ⟨by rfl, ?_⟩) (by assumption) ?_
      rotate_left 1
      · (intro w hSw; (try dsimp only at hSw); go_simp; (try with_reducible rfl))
      try simp only [Act.put, List.setIfInBounds_toArray, List.set_cons_zero, List.set_cons_succ]
      refine takeD (i := 8) (v := ?_) 21 rfl rfl (by kernel_rfl) (by kernel_rfl) (by kernel_rfl) (fun _ _ _ h => h) (Or.inl ⟨by rfl, ?_⟩) (by assumption) ?_
      rotate_left 1
      · (intro w hSw; (try dsimp only at hSw); go_simp; (try with_reducible rfl))
      try simp only [Act.put, List.setIfInBounds_toArray, List.set_cons_zero, List.set_cons_succ]
      refine takeD (i := 9) (v := ?_) 22 rfl rfl (by kernel_rfl) (by kernel_rfl) (by kernel_rfl) (fun _ _ _ h => h) (Or.inl ⟨by rfl, ?_⟩) (by assumption) ?_
      rotate_left 1
      · (intro w hSw; (try dsimp only at hSw); go_simp; (try with_reducible rfl))
      try simp only [Act.put, List.setIfInBounds_toArray, List.set_cons_zero, List.set_cons_succ]
      refine wpAnyH_ready (rs := [10]) (by kernel_rfl) (by simp) ?_
      refine AllReadyH.cons (o := _) rfl (fun K hK => ?_) AllReadyH.nil
      go_simp
      have TA := togI_alloc T2 (.cells #[.int .i64 0, .int .i64 0, .int .i64 0, .int .i64 0, .int .i64 0, .int .i64 0, .int .i64 0, .int .i64 0] 57)
      obtain ⟨_, ⟨gy0, gy1, gy2⟩, -⟩ := TA.1.all
      obtain ⟨y0, y1, y2, y3, y4, y5, y6, y7⟩ := TA.2.2.1.cells0 HX.out
      refine hK.out _ _ (by refine ⟨?_, ?_, ?_, ?_, ?_, ?_, ?_, ?_, ?_, ?_, ?_⟩ <;> first | with_reducible assumption | assumption) (fun hHeld2 => ?_)
      clear hK
      try simp only [Act.put, List.setIfInBounds_toArray, List.set_cons_zero, List.set_cons_succ]
      refine wpAnyH_ready (rs := [11]) (by kernel_rfl) (by simp) ?_
      refine AllReadyH.cons (o := _) rfl (fun K hK => ?_) AllReadyH.nil
      go_simp
      have SF := IsS.new (w := w2) (s := r) (ty := 57)
      have TF := togI_alloc T2 (.cells #[.int .i64 r.x, .int .i64 r.y, .int .i64 r.d.t, .int .i64 r.d.n, .int .i64 r.d.e, .int .i64 r.d.s, .int .i64 r.d.w, .int .i64 r.d.b] 57)
      obtain ⟨_, ⟨gz0, gz1, gz2⟩, -⟩ := TF.1.all
      obtain ⟨z0, z1, z2, z3, z4, z5, z6, z7⟩ := TF.2.2.1.cells0 HX.out
      refine hK.out _ _ (by refine ⟨?_, ?_, ?_, ?_, ?_, ?_, ?_, ?_, ?_, ?_, ?_⟩ <;> first | with_reducible assumption | assumption) (fun hHeld3 => ?_)
      clear hK
      try simp only [Act.put, List.setIfInBounds_toArray, List.set_cons_zero, List.set_cons_succ]
      refine takeD (i := 12) (v := ?_) 11 rfl rfl (by kernel_rfl) (by kernel_rfl) (by kernel_rfl) (fun _ _ _ h => h) (Or.inl ⟨by rfl, ?_⟩) (by assumption) ?_
      rotate_left 1
      · (intro w hSw; (try dsimp only at hSw); go_simp; (try with_reducible rfl))
      try simp only [Act.put, List.setIfInBounds_toArray, List.set_cons_zero, List.set_cons_succ]
      refine wpAnyH_done (by kernel_rfl) ?_ _
      go_wp2_with fail
      go_meet
      exact ⟨_, rfl, rfl, SF, TF⟩
    · go_simp
      obtain ⟨_, ⟨gy0, gy1, gy2⟩, -⟩ := HTA.out.1.all
      obtain ⟨y0, y1, y2, y3, y4, y5, y6, y7⟩ := HTA.out.2.2.1.cells0 HX.out
      have HAA := hide (show BytesAt (W0.alloc (.cells #[.int .i64 0, .int .i64 0, .int .i64 0, .int .i64 0, .int .i64 0, .int .i64 0, .int .i64 0, .int .i64 0] 57)).drew g (splitP l).flatten from HTA.out.2.1)
      refine hK.out _ _ (by refine ⟨?_, ?_, ?_, ?_, ?_, ?_, ?_, ?_, ?_, ?_, ?_⟩ <;> first | with_reducible assumption | assumption) (fun hHeld1 => ?_)
      clear hK
      try simp only [Act.put, List.setIfInBounds_toArray, List.set_cons_zero, List.set_cons_succ]
      refine wpAnyH_ready (rs := [6]) (by kernel_rfl) (by simp) ?_
      refine AllReadyH.cons (o := _) rfl (fun K hK => ?_) AllReadyH.nil
      go_simp
      go_at_call 67
      (with_reducible refine (HBR.out _ HAA.out).mono ?_)
      rintro e w2 ⟨rfl, hb2⟩
      rw [← HR.out, HC.out]
      have T2 := togI_to hb2 HTA.out rfl rfl rfl rfl
      have R2 := isS_to hb2 HRA.out rfl
      have hb02 : Below W0.heap.size W0 w2 := below_to hb2 ((Below.refl W0.heap.size W0).alloc (Nat.le_refl _) (.cells #[.int .i64 0, .int .i64 0, .int .i64 0, .int .i64 0, .int .i64 0, .int .i64 0, .int .i64 0, .int .i64 0] 57)) (by simp) rfl rfl rfl rfl
      clear hb2
      obtain ⟨_, ⟨gx0, gx1, gx2⟩, -⟩ := T2.1.all
      obtain ⟨x0, x1, x2, x3, x4, x5, x6, x7⟩ := T2.2.2.1.cells0 HX.out
      dsimp only
      refine hK.out _ _ (by refine ⟨?_, ?_, ?_, ?_, ?_, ?_, ?_, ?_, ?_, ?_, ?_⟩ <;> first | with_reducible assumption | assumption) (fun hHeld2 => ?_)
      clear hK
      try simp only [Act.put, List.setIfInBounds_toArray, List.set_cons_zero, List.set_cons_succ]
      refine takeD (i := 7) (v := ?_) 13 rfl rfl (by kernel_rfl) (by kernel_rfl) (by kernel_rfl) (fun _ _ _ h => h) (Or.inl ⟨by rfl, ?_⟩) (by assumption) ?_
      rotate_left 1
      · (intro w hSw; (try dsimp only at hSw); go_simp; (try with_reducible rfl))
      try simp only [Act.put, List.setIfInBounds_toArray, List.set_cons_zero, List.set_cons_succ]
      refine takeD (i := 8) (v := ?_) 21 rfl rfl (by kernel_rfl) (by kernel_rfl) (by kernel_rfl) (fun _ _ _ h => h) (Or.inl ⟨by rfl, ?_⟩) (by assumption) ?_
      rotate_left 1
      · (intro w hSw; (try dsimp only at hSw); go_simp; (try with_reducible rfl))
      try simp only [Act.put, List.setIfInBounds_toArray, List.set_cons_zero, List.set_cons_succ]
      refine takeD (i := 9) (v := ?_) 22 rfl rfl (by kernel_rfl) (by kernel_rfl) (by kernel_rfl) (fun _ _ _ h => h) (Or.inl ⟨by rfl, ?_⟩) (by assumption) ?_
      rotate_left 1
      · (intro w hSw; (try dsimp only at hSw); go_simp; (try with_reducible rfl))
      try simp only [Act.put, List.setIfInBounds_toArray, List.set_cons_zero, List.set_cons_succ]
      obtain ⟨lr, ⟨r0, r1, r2, r3, r4, r5, r6, r7⟩, e0, e1, e2, e3, e4, e5, e6, e7⟩ := R2.all
      refine wpAnyH_ready (rs := [11]) (by kernel_rfl) (by simp) ?_
      refine AllReadyH.cons (o := _) rfl (fun K hK => ?_) AllReadyH.nil
      go_simp
      have SF := R2.set8 r
      have TF := togI_to (w0 := W0) (below_set8 hb02 (Nat.le_refl _) r) HT0.out rfl rfl rfl rfl
      clear r0 r1 r2 r3 r4 r5 r6 r7
      obtain ⟨_, ⟨gz0, gz1, gz2⟩, -⟩ := TF.1.all
      obtain ⟨z0, z1, z2, z3, z4, z5, z6, z7⟩ := TF.2.2.1.cells0 HX.out
      refine hK.out _ _ (by refine ⟨?_, ?_, ?_, ?_, ?_, ?_, ?_, ?_, ?_, ?_, ?_⟩ <;> first | with_reducible assumption | assumption) (fun hHeld3 => ?_)
      clear hK
      try simp only [Act.put, List.setIfInBounds_toArray, List.set_cons_zero, List.set_cons_succ]
      refine takeD (i := 12) (v := ?_) 11 rfl rfl (by kernel_rfl) (by kernel_rfl) (by kernel_rfl) (fun _ _ _ h => h) (Or.inl ⟨by rfl, ?_⟩) (by assumption) ?_
      rotate_left 1
      · (intro w hSw; (try dsimp only at hSw); go_simp; (try with_reducible rfl))
      try simp only [Act.put, List.setIfInBounds_toArray, List.set_cons_zero, List.set_cons_succ]
      refine wpAnyH_done (by kernel_rfl) ?_ _
      go_wp2_with fail
      go_meet
      exact ⟨_, rfl, rfl, SF, TF⟩
  obtain ⟨B8, rfl, rfl, SF, TF⟩ := hcut
  clear HA0 HRA HTA HT0 c0 c1 c2 c3 c4 c5 c6 c7 gc0 gc1 gc2
  have HIN := hide (show inAny L r.x r.y = true from by rw [HR.out]; exact hin2)
  clear hin2
  have HSF := hide SF
  have HTF := hide TF
  obtain ⟨_, ⟨s0, s1, s2, s3, s4, s5, s6, s7⟩, -⟩ := SF.all
  have HDF := hide TF.2.2.1
  clear TF SF
  go_wp2_with fail
  clear s0 s1 s2 s3 s4 s5 s6 s7
  (with_reducible refine (myAt_yes L n gd c2 r.x r.y _ HN.out (by omega) HDF.out HIN.out).mono ?_)
  rintro e w4 ⟨q, rfl, hq, hb4⟩
  have HT4 := hide (togI_to hb4 HTF.out rfl rfl rfl rfl)
  have HS4 := hide (isS_to hb4 HSF.out rfl)
  clear hb4
  have q4 := HT4.out.2.2.2
  go_wp2
  go_returns
  exact ⟨rfl, q4⟩
set_option maxHeartbeats 3200000 in
theorem mmOk (l : List UInt8) (W H m : Nat) (hg : GridOk l W H m) (g cap gd c2 : Nat) (L : List St) (n : Nat) (hN : n = L.length) (hn3 : n ≤ 3) (k : Nat) (u : St) (hx : L[k]? = some u) (hu : nearS u) (d : Int) (w : World) (hA : BytesAt w g (splitP l).flatten) (hD : StAt w gd 0 L) (hc : canT l u d = true) (hin : inAny L (rollT u d).x (rollT u d).y = false) : Calls Tryd.prog 42 #[gridV W H m g cap, .slice (some ⟨gd, 0, none⟩) n c2, .int .i64 (k : Int), .int .i64 d] w fun e w' => (∃ v, e = .returned (.tuple #[v, .bool true]) ∧ w'.ownsRow w.heap.size 57 8 v n (cellsS (L.set k (rollT u d)))) ∧ Below w.heap.size w w' := by
  have hrt : rolT l u d = rollT u d := by unfold rolT; rw [if_pos hc]
  have HRT := hide hrt
  rw [← hrt] at hin ⊢
  clear hrt
  have hin2 := hin
  clear hin
  have hkn : k < n := by have := (List.getElem?_eq_some_iff.1 hx).1; omega
  have HX := hide hx
  have HG := hide hg
  have HN := hide hN
  have HT0 := hide (show TogI w (w.alloc (.cells #[.int .i64 (W : Int), .int .i64 (H : Int), .slice (some ⟨g, 0, none⟩) m cap] 50)) W H m g cap gd (splitP l).flatten L from
    ⟨IsG.new, bytesAt_to (w0 := w) ((Below.refl _ _).alloc (Nat.le_refl _) _) hA rfl, stAt_to (w0 := w) ((Below.refl _ _).alloc (Nat.le_refl _) _) hD rfl, (Below.refl _ _).alloc (Nat.le_refl _) _⟩)
  generalize hW : w.alloc (.cells #[.int .i64 (W : Int), .int .i64 (H : Int), .slice (some ⟨g, 0, none⟩) m cap] 50) = W0 at HT0
  have HW := hide hW
  clear hW hA hD hx hg hN
  obtain ⟨r, hr⟩ : ∃ r, r = rolT l u d := ⟨_, rfl⟩
  have HR := hide hr
  have HC := hide hc
  clear hr hc
  have HBR := hide (fun (wx : World) (hAx : BytesAt wx g (splitP l).flatten) => boRoll_any l W H m HG.out g cap u d wx hAx hu.1 hu.2)
  have HA0 := hide (show BytesAt W0.drew g (splitP l).flatten from HT0.out.2.1)
  have HRA := hide (IsS.new (w := W0) (s := ⟨0, 0, ⟨0, 0, 0, 0, 0, 0⟩⟩) (ty := 57))
  have HTA := hide (show TogI w (W0.alloc (.cells #[.int .i64 0, .int .i64 0, .int .i64 0, .int .i64 0, .int .i64 0, .int .i64 0, .int .i64 0, .int .i64 0] 57)) W H m g cap gd (splitP l).flatten L from togI_alloc HT0.out _)
  have hkn2 : (k : Int) < (n : Int) := by omega
  have hk0 : (0 : Int) ≤ (k : Int) := by omega
  clear hu
  obtain ⟨_, ⟨gc0, gc1, gc2⟩, -⟩ := HT0.out.1.all
  obtain ⟨c0, c1, c2, c3, c4, c5, c6, c7⟩ := HT0.out.2.2.1.cells0 HX.out
  go_enter Tryd.func42, Tryd.ntmps42
  go_upto_region 1 with (fail)
  rw [HW.out]
  go_cut [10, 11] from 13 to 22 (fun t10 t11 wx => ∃ B8, t10 = .pointer (some ⟨B8, 0, none⟩) ∧ t11 = .bool true ∧ IsS wx B8 r 57 ∧ TogI w wx W H m g cap gd (splitP l).flatten L)
  case first =>
    refine wp_region_held_drew (S := (fun w' => w'.cell? ⟨w.heap.size, 0, none⟩ = some (.int .i64 (W : Int)) ∧ w'.cell? ⟨w.heap.size, 1, none⟩ = some (.int .i64 (H : Int)) ∧ w'.cell? ⟨w.heap.size, 2, none⟩ = some (.slice (some ⟨g, 0, none⟩) m cap) ∧ w'.cell? ⟨gd, k * 8, none⟩ = some (.int .i64 u.x) ∧ w'.cell? ⟨gd, k * 8 + 1, none⟩ = some (.int .i64 u.y) ∧ w'.cell? ⟨gd, k * 8 + 2, none⟩ = some (.int .i64 u.d.t) ∧ w'.cell? ⟨gd, k * 8 + 3, none⟩ = some (.int .i64 u.d.n) ∧ w'.cell? ⟨gd, k * 8 + 4, none⟩ = some (.int .i64 u.d.e) ∧ w'.cell? ⟨gd, k * 8 + 5, none⟩ = some (.int .i64 u.d.s) ∧ w'.cell? ⟨gd, k * 8 + 6, none⟩ = some (.int .i64 u.d.w) ∧ w'.cell? ⟨gd, k * 8 + 7, none⟩ = some (.int .i64 u.d.b))) (by kernel_rfl) (by refine ⟨?_, ?_, ?_, ?_, ?_, ?_, ?_, ?_, ?_, ?_, ?_⟩ <;> first | with_reducible assumption | assumption) (fun hHeld => ?_)
    refine takeD (i := 0) (v := ?_) 14 rfl rfl (by kernel_rfl) (by kernel_rfl) (by kernel_rfl) (fun _ _ _ h => h) (Or.inl ⟨by rfl, ?_⟩) (by assumption) ?_
    rotate_left 1
    · (intro w hSw; (try dsimp only at hSw); go_simp; (try with_reducible rfl))
    try simp only [Act.put, List.setIfInBounds_toArray, List.set_cons_zero, List.set_cons_succ]
    refine takeD (i := 1) (v := ?_) 15 rfl rfl (by kernel_rfl) (by kernel_rfl) (by kernel_rfl) (fun _ _ _ h => h) (Or.inl ⟨by rfl, ?_⟩) (by assumption) ?_
    rotate_left 1
    · (intro w hSw; (try dsimp only at hSw); go_simp; (try with_reducible rfl))
    try simp only [Act.put, List.setIfInBounds_toArray, List.set_cons_zero, List.set_cons_succ]
    refine takeD (i := 2) (v := ?_) 16 rfl rfl (by kernel_rfl) (by kernel_rfl) (by kernel_rfl) (fun _ _ _ h => h) (Or.inl ⟨by rfl, ?_⟩) (by assumption) ?_
    rotate_left 1
    · (intro w hSw; (try dsimp only at hSw); go_simp; (try with_reducible rfl))
    try simp only [Act.put, List.setIfInBounds_toArray, List.set_cons_zero, List.set_cons_succ]
    refine takeD (i := 3) (v := ?_) 17 rfl rfl (by kernel_rfl) (by kernel_rfl) (by kernel_rfl) (fun _ _ _ h => h) (Or.inl ⟨by rfl, ?_⟩) (by assumption) ?_
    rotate_left 1
    · (intro w hSw; (try dsimp only at hSw); go_simp; (try with_reducible rfl))
    try simp only [Act.put, List.setIfInBounds_toArray, List.set_cons_zero, List.set_cons_succ]
    refine takeD (i := 4) (v := ?_) 18 rfl rfl (by kernel_rfl) (by kernel_rfl) (by kernel_rfl) (fun _ _ _ h => h) (Or.inl ⟨by rfl, ?_⟩) (by assumption) ?_
    rotate_left 1
    · (intro w hSw; (try dsimp only at hSw); go_simp; (try with_reducible rfl))
    try simp only [Act.put, List.setIfInBounds_toArray, List.set_cons_zero, List.set_cons_succ]
    refine takeD (i := 5) (v := ?_) 19 rfl rfl (by kernel_rfl) (by kernel_rfl) (by kernel_rfl) (fun _ _ _ h => h) (Or.inl ⟨by rfl, ?_⟩) (by assumption) ?_
    rotate_left 1
    · (intro w hSw; (try dsimp only at hSw); go_simp; (try with_reducible rfl))
    try simp only [Act.put, List.setIfInBounds_toArray, List.set_cons_zero, List.set_cons_succ]
    refine wpAnyH_ready (rs := [6, 10]) (by kernel_rfl) (by simp) ?_
    refine AllReadyH.cons (o := _) rfl (fun K hK => ?_) (AllReadyH.cons (o := _) rfl (fun K hK => ?_) AllReadyH.nil)
    · go_simp
      go_at_call 67
      (with_reducible refine (HBR.out _ HA0.out).mono ?_)
      rintro e w2 ⟨rfl, hb2⟩
      rw [← HR.out, HC.out]
      have T2 := togI_to hb2 HT0.out rfl rfl rfl rfl
      obtain ⟨_, ⟨gx0, gx1, gx2⟩, -⟩ := T2.1.all
      obtain ⟨x0, x1, x2, x3, x4, x5, x6, x7⟩ := T2.2.2.1.cells0 HX.out
      dsimp only
      refine hK.out _ _ (by refine ⟨?_, ?_, ?_, ?_, ?_, ?_, ?_, ?_, ?_, ?_, ?_⟩ <;> first | with_reducible assumption | assumption) (fun hHeld1 => ?_)
      clear hK
      try simp only [Act.put, List.setIfInBounds_toArray, List.set_cons_zero, List.set_cons_succ]
      refine takeD (i := 7) (v := ?_) 13 rfl rfl (by kernel_rfl) (by kernel_rfl) (by kernel_rfl) (fun _ _ _ h => h) (Or.inl ⟨by rfl, ?_⟩) (by assumption) ?_
      rotate_left 1
      · (intro w hSw; (try dsimp only at hSw); go_simp; (try with_reducible rfl))
      try simp only [Act.put, List.setIfInBounds_toArray, List.set_cons_zero, List.set_cons_succ]
      refine takeD (i := 8) (v := ?_) 21 rfl rfl (by kernel_rfl) (by kernel_rfl) (by kernel_rfl) (fun _ _ _ h => h) (Or.inl ⟨by rfl, ?_⟩) (by assumption) ?_
      rotate_left 1
      · (intro w hSw; (try dsimp only at hSw); go_simp; (try with_reducible rfl))
      try simp only [Act.put, List.setIfInBounds_toArray, List.set_cons_zero, List.set_cons_succ]
      refine takeD (i := 9) (v := ?_) 22 rfl rfl (by kernel_rfl) (by kernel_rfl) (by kernel_rfl) (fun _ _ _ h => h) (Or.inl ⟨by rfl, ?_⟩) (by assumption) ?_
      rotate_left 1
      · (intro w hSw; (try dsimp only at hSw); go_simp; (try with_reducible rfl))
      try simp only [Act.put, List.setIfInBounds_toArray, List.set_cons_zero, List.set_cons_succ]
      refine wpAnyH_ready (rs := [10]) (by kernel_rfl) (by simp) ?_
      refine AllReadyH.cons (o := _) rfl (fun K hK => ?_) AllReadyH.nil
      go_simp
      have TA := togI_alloc T2 (.cells #[.int .i64 0, .int .i64 0, .int .i64 0, .int .i64 0, .int .i64 0, .int .i64 0, .int .i64 0, .int .i64 0] 57)
      obtain ⟨_, ⟨gy0, gy1, gy2⟩, -⟩ := TA.1.all
      obtain ⟨y0, y1, y2, y3, y4, y5, y6, y7⟩ := TA.2.2.1.cells0 HX.out
      refine hK.out _ _ (by refine ⟨?_, ?_, ?_, ?_, ?_, ?_, ?_, ?_, ?_, ?_, ?_⟩ <;> first | with_reducible assumption | assumption) (fun hHeld2 => ?_)
      clear hK
      try simp only [Act.put, List.setIfInBounds_toArray, List.set_cons_zero, List.set_cons_succ]
      refine wpAnyH_ready (rs := [11]) (by kernel_rfl) (by simp) ?_
      refine AllReadyH.cons (o := _) rfl (fun K hK => ?_) AllReadyH.nil
      go_simp
      have SF := IsS.new (w := w2) (s := r) (ty := 57)
      have TF := togI_alloc T2 (.cells #[.int .i64 r.x, .int .i64 r.y, .int .i64 r.d.t, .int .i64 r.d.n, .int .i64 r.d.e, .int .i64 r.d.s, .int .i64 r.d.w, .int .i64 r.d.b] 57)
      obtain ⟨_, ⟨gz0, gz1, gz2⟩, -⟩ := TF.1.all
      obtain ⟨z0, z1, z2, z3, z4, z5, z6, z7⟩ := TF.2.2.1.cells0 HX.out
      refine hK.out _ _ (by refine ⟨?_, ?_, ?_, ?_, ?_, ?_, ?_, ?_, ?_, ?_, ?_⟩ <;> first | with_reducible assumption | assumption) (fun hHeld3 => ?_)
      clear hK
      try simp only [Act.put, List.setIfInBounds_toArray, List.set_cons_zero, List.set_cons_succ]
      refine takeD (i := 12) (v := ?_) 11 rfl rfl (by kernel_rfl) (by kernel_rfl) (by kernel_rfl) (fun _ _ _ h => h) (Or.inl ⟨by rfl, ?_⟩) (by assumption) ?_
      rotate_left 1
      · (intro w hSw; (try dsimp only at hSw); go_simp; (try with_reducible rfl))
      try simp only [Act.put, List.setIfInBounds_toArray, List.set_cons_zero, List.set_cons_succ]
      refine wpAnyH_done (by kernel_rfl) ?_ _
      go_wp2_with fail
      go_meet
      exact ⟨_, rfl, rfl, SF, TF⟩
    · go_simp
      obtain ⟨_, ⟨gy0, gy1, gy2⟩, -⟩ := HTA.out.1.all
      obtain ⟨y0, y1, y2, y3, y4, y5, y6, y7⟩ := HTA.out.2.2.1.cells0 HX.out
      have HAA := hide (show BytesAt (W0.alloc (.cells #[.int .i64 0, .int .i64 0, .int .i64 0, .int .i64 0, .int .i64 0, .int .i64 0, .int .i64 0, .int .i64 0] 57)).drew g (splitP l).flatten from HTA.out.2.1)
      refine hK.out _ _ (by refine ⟨?_, ?_, ?_, ?_, ?_, ?_, ?_, ?_, ?_, ?_, ?_⟩ <;> first | with_reducible assumption | assumption) (fun hHeld1 => ?_)
      clear hK
      try simp only [Act.put, List.setIfInBounds_toArray, List.set_cons_zero, List.set_cons_succ]
      refine wpAnyH_ready (rs := [6]) (by kernel_rfl) (by simp) ?_
      refine AllReadyH.cons (o := _) rfl (fun K hK => ?_) AllReadyH.nil
      go_simp
      go_at_call 67
      (with_reducible refine (HBR.out _ HAA.out).mono ?_)
      rintro e w2 ⟨rfl, hb2⟩
      rw [← HR.out, HC.out]
      have T2 := togI_to hb2 HTA.out rfl rfl rfl rfl
      have R2 := isS_to hb2 HRA.out rfl
      have hb02 : Below W0.heap.size W0 w2 := below_to hb2 ((Below.refl W0.heap.size W0).alloc (Nat.le_refl _) (.cells #[.int .i64 0, .int .i64 0, .int .i64 0, .int .i64 0, .int .i64 0, .int .i64 0, .int .i64 0, .int .i64 0] 57)) (by simp) rfl rfl rfl rfl
      clear hb2
      obtain ⟨_, ⟨gx0, gx1, gx2⟩, -⟩ := T2.1.all
      obtain ⟨x0, x1, x2, x3, x4, x5, x6, x7⟩ := T2.2.2.1.cells0 HX.out
      dsimp only
      refine hK.out _ _ (by refine ⟨?_, ?_, ?_, ?_, ?_, ?_, ?_, ?_, ?_, ?_, ?_⟩ <;> first | with_reducible assumption | assumption) (fun hHeld2 => ?_)
      clear hK
      try simp only [Act.put, List.setIfInBounds_toArray, List.set_cons_zero, List.set_cons_succ]
      refine takeD (i := 7) (v := ?_) 13 rfl rfl (by kernel_rfl) (by kernel_rfl) (by kernel_rfl) (fun _ _ _ h => h) (Or.inl ⟨by rfl, ?_⟩) (by assumption) ?_
      rotate_left 1
      · (intro w hSw; (try dsimp only at hSw); go_simp; (try with_reducible rfl))
      try simp only [Act.put, List.setIfInBounds_toArray, List.set_cons_zero, List.set_cons_succ]
      refine takeD (i := 8) (v := ?_) 21 rfl rfl (by kernel_rfl) (by kernel_rfl) (by kernel_rfl) (fun _ _ _ h => h) (Or.inl ⟨by rfl, ?_⟩) (by assumption) ?_
      rotate_left 1
      · (intro w hSw; (try dsimp only at hSw); go_simp; (try with_reducible rfl))
      try simp only [Act.put, List.setIfInBounds_toArray, List.set_cons_zero, List.set_cons_succ]
      refine takeD (i := 9) (v := ?_) 22 rfl rfl (by kernel_rfl) (by kernel_rfl) (by kernel_rfl) (fun _ _ _ h => h) (Or.inl ⟨by rfl, ?_⟩) (by assumption) ?_
      rotate_left 1
      · (intro w hSw; (try dsimp only at hSw); go_simp; (try with_reducible rfl))
      try simp only [Act.put, List.setIfInBounds_toArray, List.set_cons_zero, List.set_cons_succ]
      obtain ⟨lr, ⟨r0, r1, r2, r3, r4, r5, r6, r7⟩, e0, e1, e2, e3, e4, e5, e6, e7⟩ := R2.all
      refine wpAnyH_ready (rs := [11]) (by kernel_rfl) (by simp) ?_
      refine AllReadyH.cons (o := _) rfl (fun K hK => ?_) AllReadyH.nil
      go_simp
      have SF := R2.set8 r
      have TF := togI_to (w0 := W0) (below_set8 hb02 (Nat.le_refl _) r) HT0.out rfl rfl rfl rfl
      clear r0 r1 r2 r3 r4 r5 r6 r7
      obtain ⟨_, ⟨gz0, gz1, gz2⟩, -⟩ := TF.1.all
      obtain ⟨z0, z1, z2, z3, z4, z5, z6, z7⟩ := TF.2.2.1.cells0 HX.out
      refine hK.out _ _ (by refine ⟨?_, ?_, ?_, ?_, ?_, ?_, ?_, ?_, ?_, ?_, ?_⟩ <;> first | with_reducible assumption | assumption) (fun hHeld3 => ?_)
      clear hK
      try simp only [Act.put, List.setIfInBounds_toArray, List.set_cons_zero, List.set_cons_succ]
      refine takeD (i := 12) (v := ?_) 11 rfl rfl (by kernel_rfl) (by kernel_rfl) (by kernel_rfl) (fun _ _ _ h => h) (Or.inl ⟨by rfl, ?_⟩) (by assumption) ?_
      rotate_left 1
      · (intro w hSw; (try dsimp only at hSw); go_simp; (try with_reducible rfl))
      try simp only [Act.put, List.setIfInBounds_toArray, List.set_cons_zero, List.set_cons_succ]
      refine wpAnyH_done (by kernel_rfl) ?_ _
      go_wp2_with fail
      go_meet
      exact ⟨_, rfl, rfl, SF, TF⟩
  obtain ⟨B8, rfl, rfl, SF, TF⟩ := hcut
  clear HA0 HRA HTA HT0 c0 c1 c2 c3 c4 c5 c6 c7 gc0 gc1 gc2
  have HIN := hide (show inAny L r.x r.y = false from by rw [HR.out]; exact hin2)
  clear hin2
  have HSF := hide SF
  have HTF := hide TF
  obtain ⟨_, ⟨s0, s1, s2, s3, s4, s5, s6, s7⟩, -⟩ := SF.all
  have HDF := hide TF.2.2.1
  clear TF SF
  go_wp2_with fail
  clear s0 s1 s2 s3 s4 s5 s6 s7
  (with_reducible refine (myAt_no L n gd c2 r.x r.y _ HN.out (by omega) HDF.out HIN.out).mono ?_)
  rintro e w4 ⟨q, rfl, hq, hb4⟩
  have HT4 := hide (togI_to hb4 HTF.out rfl rfl rfl rfl)
  have HS4 := hide (isS_to hb4 HSF.out rfl)
  clear hb4
  obtain ⟨i0, hi, hz0, hz1, hz2⟩ := info_parts info_state
  have HI := hide hi
  have HZ0 := hide hz0
  have HZ1 := hide hz1
  have HZ2 := hide hz2
  clear hi hz0 hz1 hz2
  have hszw : w.heap.size ≤ w4.heap.size := HT4.out.2.2.2.size
  have HE := hide (show (w4.alloc (.cells #[] 57)).ownsRow w.heap.size 57 8 (.slice (some ⟨w4.heap.size, 0, none⟩) 0 0) 0 [] from World.ownsRow_made (base := w.heap.size) (e := 57) (size := 8) w4 #[] 0 hszw (by unfold maxLen; omega) rfl)
  have HTE := hide (togI_alloc HT4.out (.cells #[] 57))
  have HSE := hide (HS4.out.alloc (.cells #[] 57))
  have HSRC := hide (stAt_src HTE.out.2.2.1)
  have hl8 : (cellsS L).length = n * 8 := by rw [cellsS_len, HN.out]
  have HL8 := hide hl8
  clear hl8
  go_wp2_with (at_builtin; refine wpList_append_own _ rfl _ _ 26 rfl w.heap.size 57 i0 (.agg #[.int .i64 0, .int .i64 0, .int .i64 0, .int .i64 0, .int .i64 0, .int .i64 0, .int .i64 0, .int .i64 0]) 8 64 Tryd.underlying26 HI.out HZ0.out HZ1.out HZ2.out rfl (by decide) _ 0 [] rfl HE.out ⟨gd, 0, none⟩ n c2 (cellsS L) rfl HL8.out HSRC.out (cellsS_one L) (by unfold maxLen; omega) (by omega) (by simp; omega) ?_)
  intro v5 w5 hown5 hg5 _
  obtain ⟨g5, c5, rfl, hgb, hgl⟩ := own_form hown5 (by omega)
  have S5 : IsS w5 B8 r 57 := (hg5.block B8 HSE.out.lt (by have := HS4.out.lt; simp [Value.ownBlock]; omega)).trans HSE.out
  have q5 := HTE.out.2.2.2.grown hg5 (by simp; omega) (fun j hj => by simp [Value.ownBlock] at hj; omega)
  have HO5 := hide hown5
  obtain ⟨_, ⟨t0, t1, t2, t3, t4, t5, t6, t7⟩, -⟩ := S5.all
  obtain ⟨v0, p0⟩ := own_has HO5.out (k * 8) (by omega)
  have f0 := own_free HO5.out (k * 8)
  obtain ⟨v1, p1⟩ := own_has HO5.out (k * 8 + 1) (by omega)
  have f1 := own_free HO5.out (k * 8 + 1)
  obtain ⟨v2, p2⟩ := own_has HO5.out (k * 8 + 2) (by omega)
  have f2 := own_free HO5.out (k * 8 + 2)
  obtain ⟨v3, p3⟩ := own_has HO5.out (k * 8 + 3) (by omega)
  have f3 := own_free HO5.out (k * 8 + 3)
  obtain ⟨v4, p4⟩ := own_has HO5.out (k * 8 + 4) (by omega)
  have f4 := own_free HO5.out (k * 8 + 4)
  obtain ⟨v5, p5⟩ := own_has HO5.out (k * 8 + 5) (by omega)
  have f5 := own_free HO5.out (k * 8 + 5)
  obtain ⟨v6, p6⟩ := own_has HO5.out (k * 8 + 6) (by omega)
  have f6 := own_free HO5.out (k * 8 + 6)
  obtain ⟨v7, p7⟩ := own_has HO5.out (k * 8 + 7) (by omega)
  have f7 := own_free HO5.out (k * 8 + 7)
  have O6 := hide (own_set8M HO5.out HN.out hkn r)
  have q6 := hide (below_put q5 hgb (.int .i64 r.x) (.int .i64 r.y) (.int .i64 r.d.t) (.int .i64 r.d.n) (.int .i64 r.d.e) (.int .i64 r.d.s) (.int .i64 r.d.w) (.int .i64 r.d.b) (k * 8) (k * 8 + 1) (k * 8 + 2) (k * 8 + 3) (k * 8 + 4) (k * 8 + 5) (k * 8 + 6) (k * 8 + 7))
  clear hg5 hown5 S5 q5
  go_wp2
  go_returns
  refine ⟨⟨_, rfl, ?_⟩, q6.out⟩
  rw [← HR.out]
  exact O6.out
/-- What myMove hands back. -/
def MyMv (l : List UInt8) (L : List St) (n k : Nat) (d : Int) (w : World) (e : Ending) (w' : World) : Prop := ∃ v, e = .returned (.tuple #[v, .bool (mvL l L k d).isSome]) ∧ (∀ M, mvL l L k d = some M → w'.ownsRow w.heap.size 57 8 v n (cellsS M)) ∧ (mvL l L k d = none → v = .slice none 0 0) ∧ Below w.heap.size w w'
theorem myMove_any (l : List UInt8) (W H m : Nat) (hg : GridOk l W H m) (g cap gd c2 : Nat) (L : List St) (n : Nat) (hN : n = L.length) (hn3 : n ≤ 3) (k : Nat) (hk : k < n) (hL : ∀ (i : Nat) (u : St), L[i]? = some u → nearS u) (d : Int) (w : World) (hA : BytesAt w g (splitP l).flatten) (hD : StAt w gd 0 L) : Calls Tryd.prog 42 #[gridV W H m g cap, .slice (some ⟨gd, 0, none⟩) n c2, .int .i64 (k : Int), .int .i64 d] w (MyMv l L n k d w) := by
  have hx : L[k]? = some (L[k]'(by omega)) := List.getElem?_eq_getElem (by omega)
  generalize L[k]'(by omega) = u at hx
  have hu := hL k u hx
  cases hc : canT l u d
  · have hm : mvL l L k d = none := by
      unfold mvL
      rw [hx]
      have : floorL l (rollT u d).x (rollT u d).y = false := hc
      simp [this]
    refine (mmNo l W H m hg g cap gd c2 L n hN hn3 k u hx hu d w hA hD hc).mono fun e w' ⟨h1, h2⟩ => ?_
    unfold MyMv
    rw [hm]
    exact ⟨_, h1, (fun M h => by cases h), (fun _ => rfl), h2⟩
  · cases hin : inAny L (rollT u d).x (rollT u d).y
    · have hm : mvL l L k d = some (L.set k (rollT u d)) := by
        unfold mvL
        rw [hx]
        have : floorL l (rollT u d).x (rollT u d).y = true := hc
        simp [this, hin]
      refine (mmOk l W H m hg g cap gd c2 L n hN hn3 k u hx hu d w hA hD hc hin).mono fun e w' ⟨⟨v, h1, h3⟩, h2⟩ => ?_
      unfold MyMv
      rw [hm]
      exact ⟨v, h1, (fun M h => by rw [← Option.some.inj h]; exact h3), (fun h => by cases h), h2⟩
    · have hm : mvL l L k d = none := by
        unfold mvL
        rw [hx]
        simp [hin]
      refine (mmIn l W H m hg g cap gd c2 L n hN hn3 k u hx hu d w hA hD hc hin).mono fun e w' ⟨h1, h2⟩ => ?_
      unfold MyMv
      rw [hm]
      exact ⟨_, h1, (fun M h => by cases h), (fun _ => rfl), h2⟩
end Go.Proofs.YtdndegonpdakkaaDoor
