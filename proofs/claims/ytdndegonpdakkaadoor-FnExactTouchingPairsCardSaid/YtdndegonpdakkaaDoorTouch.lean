/- Faces that touch: isTouching, and the plain counts. -/
import Derived.Test.YtdndegonpdakkaaDoorSumD
namespace Go.Proofs.YtdndegonpdakkaaDoor
set_option maxRecDepth 100000
set_option linter.all false
open Go.RowKit

/-- The second of two dice stands east or south of the first, with equal faces towards each other. -/
def tEast (s t : St) : Bool := decide (t.x = s.x + 1) && (decide (t.y = s.y) && decide (s.d.e = t.d.w))
def tSouth (s t : St) : Bool := decide (t.x = s.x) && (decide (t.y = s.y + 1) && decide (s.d.s = t.d.n))
def tch (s t : St) : Bool := tEast s t || tSouth s t
/-- Two dice touch. -/
def tch2 (s t : St) : Bool := tch s t || tch t s

set_option maxHeartbeats 1600000 in
theorem isTouching_any (s t : St) (w : World) (hs : (-100000 ≤ s.x ∧ s.x ≤ 100000) ∧ (-100000 ≤ s.y ∧ s.y ≤ 100000)) (ht : (-100000 ≤ t.x ∧ t.x ≤ 100000) ∧ (-100000 ≤ t.y ∧ t.y ≤ 100000)) : Calls Tryd.prog 58 #[St.v s, St.v t] w fun e w' => e = .returned (.bool (tch2 s t)) ∧ Below w.heap.size w w' := by
  have S := (IsS.new (w := w) (s := s) (ty := 57)).alloc (.cells #[.int .i64 t.x, .int .i64 t.y, .int .i64 t.d.t, .int .i64 t.d.n, .int .i64 t.d.e, .int .i64 t.d.s, .int .i64 t.d.w, .int .i64 t.d.b] 57)
  have T := IsS.new2 (w := w) (o := .cells #[.int .i64 s.x, .int .i64 s.y, .int .i64 s.d.t, .int .i64 s.d.n, .int .i64 s.d.e, .int .i64 s.d.s, .int .i64 s.d.w, .int .i64 s.d.b] 57) (s := t) (ty := 57)
  have q : Below w.heap.size w ((w.alloc (.cells #[.int .i64 s.x, .int .i64 s.y, .int .i64 s.d.t, .int .i64 s.d.n, .int .i64 s.d.e, .int .i64 s.d.s, .int .i64 s.d.w, .int .i64 s.d.b] 57)).alloc (.cells #[.int .i64 t.x, .int .i64 t.y, .int .i64 t.d.t, .int .i64 t.d.n, .int .i64 t.d.e, .int .i64 t.d.s, .int .i64 t.d.w, .int .i64 t.d.b] 57)) := by go_grown
  generalize hW : (w.alloc (.cells #[.int .i64 s.x, .int .i64 s.y, .int .i64 s.d.t, .int .i64 s.d.n, .int .i64 s.d.e, .int .i64 s.d.s, .int .i64 s.d.w, .int .i64 s.d.b] 57)).alloc (.cells #[.int .i64 t.x, .int .i64 t.y, .int .i64 t.d.t, .int .i64 t.d.n, .int .i64 t.d.e, .int .i64 t.d.s, .int .i64 t.d.w, .int .i64 t.d.b] 57) = W1 at S T q
  have HW := hide hW
  obtain ⟨_, ⟨c0, c1, c2, c3, c4, c5, c6, c7⟩, -⟩ := S.all
  obtain ⟨_, ⟨d0, d1, d2, d3, d4, d5, d6, d7⟩, -⟩ := T.all
  clear hW S T
  obtain ⟨⟨hs1, hs2⟩, hs3, hs4⟩ := hs
  obtain ⟨⟨ht1, ht2⟩, ht3, ht4⟩ := ht
  obtain ⟨dx, hdx⟩ : ∃ dx, dx = t.x - s.x := ⟨_, rfl⟩
  obtain ⟨dy, hdy⟩ : ∃ dy, dy = t.y - s.y := ⟨_, rfl⟩
  have i1 : IntKind.i64.wrap (t.x - s.x) = dx := by rw [hdx]; exact IntWalk.i64_in _ (by omega)
  have i2 : IntKind.i64.wrap (t.y - s.y) = dy := by rw [hdy]; exact IntWalk.i64_in _ (by omega)
  have HDX := hide hdx
  have HDY := hide hdy
  clear hdx hdy
  go_enter Tryd.func58, Tryd.ntmps58
  go_upto_region 1 with (fail)
  rw [HW.out]
  go_wp2
  all_goals
    go_returns
    refine ⟨ret_bool ?_, q⟩
    have hx := HDX.out
    have hy := HDY.out
    clear HDX HDY HW i1 i2 c0 c1 c2 c3 c4 c5 c6 c7 d0 d1 d2 d3 d4 d5 d6 d7 q
    unfold tch2 tch tEast tSouth
    rw [Bool.eq_iff_iff]
    simp only [Bool.or_eq_true, Bool.and_eq_true, decide_eq_true_eq, beq_iff_eq, Bool.false_eq_true]
    constructor
    · intro h
      first | exact h.elim | omega
    · intro h
      first | omega | (exfalso; omega)

/-! ### The plain counts -/
def oneB (b : Bool) : Int := if b = true then 1 else 0
theorem oneB_le (b : Bool) : 0 ≤ oneB b ∧ oneB b ≤ 1 := by unfold oneB; split <;> omega
/-- How many of some dice touch one. -/
def rowT (f : St → St → Bool) (s : St) (M : List St) : Int := M.foldl (fun a t => a + oneB (f s t)) 0
theorem rowT_snoc (f : St → St → Bool) (s : St) {M : List St} {k : Nat} {t : St} (h : M[k]? = some t) : rowT f s (M.take (k + 1)) = rowT f s (M.take k) + oneB (f s t) := by
  unfold rowT
  rw [List.take_add_one, h, List.foldl_append]
  rfl
theorem rowT_le (f : St → St → Bool) (s : St) (M : List St) : ∀ k, k ≤ M.length → 0 ≤ rowT f s (M.take k) ∧ rowT f s (M.take k) ≤ (k : Int) := by
  intro k
  induction k with
  | zero => intro _; exact ⟨by simp [rowT], by simp [rowT]⟩
  | succ k ih =>
    intro hk
    have hx : M[k]? = some (M[k]'(by omega)) := List.getElem?_eq_getElem (by omega)
    have h1 := oneB_le (f s (M[k]'(by omega)))
    have h2 := ih (by omega)
    rw [rowT_snoc f s hx]
    omega
/-- The model's count behind k rounds; the program's. -/
def totS (L : List St) (k : Nat) : Int := (L.take k).foldl (fun a s => a + rowT tch s L) 0
def totI (L : List St) (k : Nat) : Int := (List.range k).foldl (fun a i => a + rowT tch2 (L.getD i ⟨0, 0, ⟨0, 0, 0, 0, 0, 0⟩⟩) (L.take i)) 0
theorem totS_succ {L : List St} {k : Nat} {s : St} (h : L[k]? = some s) : totS L (k + 1) = totS L k + rowT tch s L := by
  unfold totS
  rw [List.take_add_one, h, List.foldl_append]
  rfl
theorem totI_succ {L : List St} {k : Nat} {s : St} (h : L[k]? = some s) : totI L (k + 1) = totI L k + rowT tch2 s (L.take k) := by
  unfold totI
  rw [List.range_succ, List.foldl_append]
  simp only [List.foldl_cons, List.foldl_nil]
  rw [List.getD_eq_getElem?_getD, h]
  rfl
theorem totS_le {L : List St} (h3 : L.length ≤ 3) : ∀ k, k ≤ L.length → 0 ≤ totS L k ∧ totS L k ≤ 3 * (k : Int) := by
  intro k
  induction k with
  | zero => intro _; exact ⟨by simp [totS], by simp [totS]⟩
  | succ k ih =>
    intro hk
    have hx : L[k]? = some (L[k]'(by omega)) := List.getElem?_eq_getElem (by omega)
    have h1 := rowT_le tch (L[k]'(by omega)) L L.length (Nat.le_refl _)
    rw [List.take_length] at h1
    have h2 := ih (by omega)
    rw [totS_succ hx]
    omega
theorem totI_le {L : List St} (h3 : L.length ≤ 3) : ∀ k, k ≤ L.length → 0 ≤ totI L k ∧ totI L k ≤ 3 * (k : Int) := by
  intro k
  induction k with
  | zero => intro _; exact ⟨by simp [totI], by simp [totI]⟩
  | succ k ih =>
    intro hk
    have hx : L[k]? = some (L[k]'(by omega)) := List.getElem?_eq_getElem (by omega)
    have h1 := rowT_le tch2 (L[k]'(by omega)) L k (by omega)
    have h2 := ih (by omega)
    rw [totI_succ hx]
    omega
theorem tch_self (s : St) : tch s s = false := by
  unfold tch tEast tSouth
  rw [show decide (s.x = s.x + 1) = false from decide_eq_false (by omega), show decide (s.y = s.y + 1) = false from decide_eq_false (by omega)]
  simp
theorem tch_two (s t : St) : oneB (tch2 s t) = oneB (tch s t) + oneB (tch t s) := by
  have h : tch s t = true → tch t s = false := by
    intro h
    cases h2 : tch t s
    · rfl
    · exfalso
      unfold tch tEast tSouth at h h2
      simp only [Bool.or_eq_true, Bool.and_eq_true, decide_eq_true_eq] at h h2
      omega
  unfold tch2
  cases h1 : tch s t
  · cases tch t s <;> rfl
  · rw [h h1]
    rfl
theorem tot_eq {L : List St} (h1 : 1 ≤ L.length) (h3 : L.length ≤ 3) : totI L L.length = totS L L.length := by
  match L, h1, h3 with
  | [a], _, _ =>
    show (0 : Int) + 0 = 0 + (0 + oneB (tch a a))
    rw [tch_self]
    rfl
  | [a, b], _, _ =>
    show (0 : Int) + 0 + (0 + oneB (tch2 b a)) = 0 + (0 + oneB (tch a a) + oneB (tch a b)) + (0 + oneB (tch b a) + oneB (tch b b))
    rw [tch_two, tch_self, tch_self]
    simp only [show oneB false = 0 from rfl]
    omega
  | [a, b, c], _, _ =>
    show (0 : Int) + 0 + (0 + oneB (tch2 b a)) + (0 + oneB (tch2 c a) + oneB (tch2 c b)) = 0 + (0 + oneB (tch a a) + oneB (tch a b) + oneB (tch a c)) + (0 + oneB (tch b a) + oneB (tch b b) + oneB (tch b c)) + (0 + oneB (tch c a) + oneB (tch c b) + oneB (tch c c))
    rw [tch_two, tch_two, tch_two, tch_self, tch_self, tch_self]
    simp only [show oneB false = 0 from rfl]
    omega
end Go.Proofs.YtdndegonpdakkaaDoor
