/- Worlds that have only grown: new blocks, more draws. The comparison of dice, and of states; no condition. -/
import Derived.Test.YtbfclnigjijkbaaBase
import Derived.Test.YtbfclnigjijkbaaState
import Derived.Deep.QuietTactic
import Derived.BigQuiet
import Derived.Deep.RegionHeld3
import Derived.Deep.Cut
import Derived.Sort.Grow
import Derived.Sort.Statements
namespace Go.Proofs.Ytbfclnigjijkbaa
set_option maxRecDepth 100000
set_option linter.all false
open Go.RowKit

/-- Nothing that was there has turned, and no draw is taken back. -/
structure Ext (w w' : World) : Prop where
  below : Below w.heap.size w w'
  drawn : w.drawn ≤ w'.drawn
theorem Ext.refl (w : World) : Ext w w := ⟨Below.refl _ _, Nat.le_refl _⟩
theorem Ext.drew {a w : World} (h : Ext a w) : Ext a w.drew := ⟨h.below.drew, Nat.le_succ_of_le h.drawn⟩
theorem Ext.drewN {a w : World} (h : Ext a w) (n : Nat) : Ext a (w.drewN n) := ⟨⟨h.below.os, h.below.tape, h.below.output, h.below.size, h.below.block⟩, Nat.le_trans h.drawn (Nat.le_add_right _ _)⟩
theorem Ext.alloc {a w : World} (h : Ext a w) (o : Obj) : Ext a (w.alloc o) := ⟨h.below.alloc h.below.size o, h.drawn⟩
theorem Ext.setCell {a w : World} (h : Ext a w) {p : Addr} (hp : a.heap.size ≤ p.block) (u : Value) : Ext a (w.setCell p u) := ⟨h.below.setCell hp u, h.drawn⟩
theorem Ext.trans {a b c : World} (h : Ext a b) (k : Ext b c) : Ext a c := ⟨h.below.trans (k.below.mono h.below.size), Nat.le_trans h.drawn k.drawn⟩
/-- Behind a call that was made in a world x like b. -/
theorem ext_to {a b x c : World} (k : Ext x c) (h : Ext a b) (e1 : x.heap = b.heap) (e2 : x.os = b.os) (e3 : x.tape = b.tape) (e4 : x.output = b.output) (e5 : b.drawn ≤ x.drawn) : Ext a c := by
  refine h.trans ⟨⟨k.below.os.trans e2, k.below.tape.trans e3, k.below.output.trans e4, by have := k.below.size; rw [e1] at this; exact this, fun i hi => ?_⟩, Nat.le_trans e5 k.drawn⟩
  rw [k.below.block i (by rw [e1]; exact hi), e1]
theorem Ext.grow {w w' : World} (h : Ext w w') : ∃ q os', w' = Sort.grow (w.drewN q) os' := by
  refine ⟨w'.drawn - w.drawn, w'.heap.extract w.heap.size w'.heap.size, ?_⟩
  obtain ⟨hp, tp, dr, os, out⟩ := w'
  obtain ⟨⟨h1, h2, h3, h4, h5⟩, h6⟩ := h
  have e1 : tp = w.tape := h2
  have e2 : os = w.os := h1
  have e3 : out = w.output := h3
  subst e1 e2 e3
  have hd : w.drawn + (dr - w.drawn) = dr := by
    have : w.drawn ≤ dr := h6
    omega
  have hh : hp = w.heap ++ hp.extract w.heap.size hp.size := by
    apply Array.ext_getElem?
    intro i
    by_cases hi : i < w.heap.size
    · rw [Array.getElem?_append_left hi]
      exact h5 i hi
    · rw [Array.getElem?_append_right (by omega), Array.getElem?_extract]
      have hs : w.heap.size ≤ hp.size := h4
      by_cases hj : i < hp.size
      · rw [if_pos (by omega), show w.heap.size + (i - w.heap.size) = i from by omega]
      · rw [if_neg (by omega), Array.getElem?_eq_none (by omega)]
  show (⟨hp, w.tape, dr, w.os, w.output⟩ : World) = { (w.drewN (dr - w.drawn)) with heap := w.heap ++ hp.extract w.heap.size hp.size }
  rw [← hh]
  unfold World.drewN
  simp only [hd]

/-- How numbers compare. -/
def cmpI (a b : Int) : Int := if a < b then -1 else if b < a then 1 else 0
/-- How lists of numbers of one length compare. -/
def cmpL : List Int → List Int → Int
  | a :: l, b :: m => if cmpI a b = 0 then cmpL l m else cmpI a b
  | _, _ => 0
def keyD (d : D) : List Int := [d.t, d.n, d.e, d.s, d.w, d.b]
def keyS (s : St) : List Int := s.y :: s.x :: keyD s.d
theorem cmpI_zero {a b : Int} : cmpI a b = 0 ↔ a = b := by unfold cmpI; (repeat' split) <;> omega
theorem cmpI_neg {a b : Int} : cmpI a b < 0 ↔ a < b := by unfold cmpI; (repeat' split) <;> omega
theorem cmpI_bd (a b : Int) : -1 ≤ cmpI a b ∧ cmpI a b ≤ 1 := by unfold cmpI; (repeat' split) <;> omega
theorem cmpL_bd : ∀ l m : List Int, -1 ≤ cmpL l m ∧ cmpL l m ≤ 1
  | [], m => by cases m <;> exact ⟨by show -1 ≤ (0 : Int); omega, by show (0 : Int) ≤ 1; omega⟩
  | a :: l, [] => ⟨by show -1 ≤ (0 : Int); omega, by show (0 : Int) ≤ 1; omega⟩
  | a :: l, b :: m => by
    show -1 ≤ (if cmpI a b = 0 then cmpL l m else cmpI a b) ∧ (if cmpI a b = 0 then cmpL l m else cmpI a b) ≤ 1
    split
    · exact cmpL_bd l m
    · exact cmpI_bd a b
theorem cmpL_refl : ∀ l : List Int, cmpL l l = 0
  | [] => rfl
  | a :: l => by
    show (if cmpI a a = 0 then cmpL l l else cmpI a a) = 0
    rw [if_pos (cmpI_zero.2 rfl)]
    exact cmpL_refl l
theorem cmpL_eq : ∀ {l m : List Int}, l.length = m.length → cmpL l m = 0 → l = m
  | [], [], _, _ => rfl
  | [], b :: m, h, _ => by simp at h
  | a :: l, [], h, _ => by simp at h
  | a :: l, b :: m, h, e => by
    change (if cmpI a b = 0 then cmpL l m else cmpI a b) = 0 at e
    split at e
    · rename_i h0
      rw [cmpI_zero.1 h0, cmpL_eq (by simpa using h) e]
    · contradiction
theorem cmpL_trans : ∀ {l m n : List Int}, l.length = m.length → m.length = n.length → cmpL l m < 0 → cmpL m n < 0 → cmpL l n < 0
  | [], m, n, _, _, h1, _ => by
    cases m <;> exact absurd h1 (by show ¬ (0 : Int) < 0; omega)
  | a :: l, [], n, h, _, _, _ => by simp at h
  | a :: l, b :: m, [], _, h, _, _ => by simp at h
  | a :: l, b :: m, c :: n, e1, e2, h1, h2 => by
    change (if cmpI a b = 0 then cmpL l m else cmpI a b) < 0 at h1
    change (if cmpI b c = 0 then cmpL m n else cmpI b c) < 0 at h2
    show (if cmpI a c = 0 then cmpL l n else cmpI a c) < 0
    split at h1
    · rename_i k1
      have := cmpI_zero.1 k1
      subst this
      split at h2
      · rename_i k2
        rw [if_pos k2]
        exact cmpL_trans (by simpa using e1) (by simpa using e2) h1 h2
      · rename_i k2
        rw [if_neg k2]; exact h2
    · have g1 := cmpI_neg.1 h1
      split at h2
      · rename_i k2
        have := cmpI_zero.1 k2
        subst this
        have : cmpI a b < 0 := cmpI_neg.2 g1
        rw [if_neg (by omega)]; exact this
      · have g2 := cmpI_neg.1 h2
        have : cmpI a c < 0 := cmpI_neg.2 (by omega)
        rw [if_neg (by omega)]; exact this
theorem cmpL_total : ∀ {l m : List Int}, l.length = m.length → cmpL l m < 0 ∨ l = m ∨ cmpL m l < 0
  | [], [], _ => .inr (.inl rfl)
  | [], b :: m, h => by simp at h
  | a :: l, [], h => by simp at h
  | a :: l, b :: m, h => by
    show (if cmpI a b = 0 then cmpL l m else cmpI a b) < 0 ∨ _ ∨ (if cmpI b a = 0 then cmpL m l else cmpI b a) < 0
    rcases Int.lt_trichotomy a b with h1 | h1 | h1
    · left
      have := cmpI_neg.2 h1
      rw [if_neg (by omega)]; exact this
    · subst h1
      rw [if_pos (cmpI_zero.2 rfl), if_pos (cmpI_zero.2 rfl)]
      rcases cmpL_total (l := l) (m := m) (by simpa using h) with h2 | h2 | h2
      · exact .inl h2
      · subst h2; exact .inr (.inl rfl)
      · exact .inr (.inr h2)
    · right; right
      have := cmpI_neg.2 h1
      rw [if_neg (by omega)]; exact this
/-- An order of keys of one length is a strict weak order. -/
theorem swo_key {α : Type} (key : α → List Int) (n : Nat) (hn : ∀ x, (key x).length = n) : Sort.SWO (fun x y : α => decide (cmpL (key x) (key y) < 0)) where
  irrefl x := by rw [cmpL_refl]; rfl
  trans x y z h1 h2 := decide_eq_true (cmpL_trans (by rw [hn, hn]) (by rw [hn, hn]) (of_decide_eq_true h1) (of_decide_eq_true h2))
  ntrans x y z h1 h2 := by
    have h1' := of_decide_eq_false h1
    have h2' := of_decide_eq_false h2
    refine decide_eq_false (fun h3 => ?_)
    rcases cmpL_total (l := key x) (m := key y) (by rw [hn, hn]) with h | h | h
    · exact h1' h
    · rw [h] at h3; exact h2' h3
    · exact h2' (cmpL_trans (by rw [hn, hn]) (by rw [hn, hn]) h h3)

theorem isNaN_any (a : Int) (w : World) : Calls Try.prog 80 #[.int .i64 a] w fun e w' => e = .returned (.bool false) ∧ w = w' := by
  have h : ((a : Int) != a) = false := by simp
  go_enter Try.func80, Try.ntmps80
  go_wp2
  go_returns
  exact ⟨rfl, rfl⟩
theorem cmpInt_any (a b : Int) (w : World) : Calls Try.prog 67 #[.int .i64 a, .int .i64 b] w fun e w' => e = .returned (.int .i64 (cmpI a b)) ∧ w = w' := by
  rcases Int.lt_trichotomy a b with h | h | h
  · have HY := hide (show cmpI a b = -1 from by unfold cmpI; rw [if_pos h])
    go_enter Try.func67, Try.ntmps67
    go_wp2_with (go_at_call 80; refine (isNaN_any _ _).mono ?_; rintro e w2 ⟨rfl, rfl⟩)
    go_returns
    exact ⟨ret_int HY.out.symm, rfl⟩
  · have HY := hide (show cmpI a b = 0 from cmpI_zero.2 h)
    subst h
    have h1 : ¬ a < a := by omega
    have h2 : ¬ a > a := by omega
    go_enter Try.func67, Try.ntmps67
    go_wp2_with (go_at_call 80; refine (isNaN_any _ _).mono ?_; rintro e w2 ⟨rfl, rfl⟩)
    go_returns
    exact ⟨ret_int HY.out.symm, rfl⟩
  · have HY := hide (show cmpI a b = 1 from by unfold cmpI; rw [if_neg (by omega), if_pos h])
    have h1 : b ≤ a := by omega
    go_enter Try.func67, Try.ntmps67
    go_wp2_with (go_at_call 80; refine (isNaN_any _ _).mono ?_; rintro e w2 ⟨rfl, rfl⟩)
    go_returns
    exact ⟨ret_int HY.out.symm, rfl⟩

theorem facesOf_ext (d : D) (w : World) : Calls Try.prog 81 #[D.v d] w fun e w' => e = .returned (D.v d) ∧ Ext w w' := by
  go_enter Try.func81, Try.ntmps81
  go_wp2
  go_returns
  exact ⟨rfl, ⟨by go_grown, by show w.drawn ≤ w.drawn; omega⟩⟩
end Go.Proofs.Ytbfclnigjijkbaa
