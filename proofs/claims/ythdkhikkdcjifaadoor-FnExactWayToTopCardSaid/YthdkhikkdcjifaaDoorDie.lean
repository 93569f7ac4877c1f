/- Contracts of the small functions of chapter 1: the faces of a die, good dice, rolls of a die. No condition. -/
import Derived.Test.YthdkhikkdcjifaaDoorBase
namespace Go.Proofs.YthdkhikkdcjifaaDoor
set_option maxRecDepth 100000
set_option linter.all false
open Go.RowKit

theorem facesOf_any (d : D) (w : World) :
    Calls Tryd.prog 88 #[D.v d] w fun e w' => e = .returned (D.v d) ∧ Below w.heap.size w w' := by
  go_enter Tryd.func88, Tryd.ntmps88
  go_wp2
  go_returns
  exact ⟨rfl, by go_grown⟩

theorem toDie_any (d : D) (w : World) :
    Calls Tryd.prog 46 #[D.v d] w fun e w' => e = .returned (D.v d) ∧ Below w.heap.size w w' := by
  go_enter Tryd.func46, Tryd.ntmps46
  go_wp2
  go_returns
  exact ⟨rfl, by go_grown⟩

theorem eqDie_any (d e : D) (w : World) :
    Calls Tryd.prog 61 #[D.v d, D.v e] w fun x w' => x = .returned (.bool (decide (d = e))) ∧ Below w.heap.size w w' := by
  have key : ∀ x : Bool, (x = decide (d.t = e.t ∧ d.n = e.n ∧ d.e = e.e ∧ d.s = e.s ∧ d.w = e.w ∧ d.b = e.b)) → x = decide (d = e) := by
    intro x h
    rw [h]
    by_cases hh : d.t = e.t ∧ d.n = e.n ∧ d.e = e.e ∧ d.s = e.s ∧ d.w = e.w ∧ d.b = e.b
    · rw [decide_eq_true hh, decide_eq_true (D.ext' hh.1 hh.2.1 hh.2.2.1 hh.2.2.2.1 hh.2.2.2.2.1 hh.2.2.2.2.2)]
    · rw [decide_eq_false hh, decide_eq_false (fun x => hh (by subst x; simp))]
  go_enter Tryd.func61, Tryd.ntmps61
  go_wp2
  all_goals
    go_returns
    refine ⟨?_, by go_grown⟩
    rw [← key _ rfl]
    simp_all

theorem isDie_any (d : D) (w : World) :
    Calls Tryd.prog 105 #[D.v d] w fun e w' => e = .returned (.bool (goodB d)) ∧ Below w.heap.size w w' := by
  have i0 : ∀ w : World, (Instr.index 122 (D.v d) (.int .i64 0)).run Tryd.prog w = .ok (.int .i64 d.t) w := fun _ => by kernel_rfl
  have i1 : ∀ w : World, (Instr.index 122 (D.v d) (.int .i64 1)).run Tryd.prog w = .ok (.int .i64 d.n) w := fun _ => by kernel_rfl
  have i2 : ∀ w : World, (Instr.index 122 (D.v d) (.int .i64 2)).run Tryd.prog w = .ok (.int .i64 d.e) w := fun _ => by kernel_rfl
  have i3 : ∀ w : World, (Instr.index 122 (D.v d) (.int .i64 3)).run Tryd.prog w = .ok (.int .i64 d.s) w := fun _ => by kernel_rfl
  have i4 : ∀ w : World, (Instr.index 122 (D.v d) (.int .i64 4)).run Tryd.prog w = .ok (.int .i64 d.w) w := fun _ => by kernel_rfl
  have i5 : ∀ w : World, (Instr.index 122 (D.v d) (.int .i64 5)).run Tryd.prog w = .ok (.int .i64 d.b) w := fun _ => by kernel_rfl
  go_enter Tryd.func105, Tryd.ntmps105
  go_wp2_with (go_at_call 88; refine (facesOf_any _ _).mono ?_; rintro e w' ⟨rfl, hb⟩)
  go_rounds 7
  all_goals
    go_returns
    first
    | exact ⟨ret_bool (a := true) (show goodB d = true from by unfold goodB; apply decide_eq_true; omega).symm, below_after (by go_grown) hb (by simp)⟩
    | exact ⟨ret_bool (a := false) (show goodB d = false from by unfold goodB; apply decide_eq_false; omega).symm, below_after (by go_grown) hb (by simp)⟩

theorem l1In_any (n lo hi : Int) (w : World) :
    Calls Tryd.prog 54 #[.int .i64 n, .int .i64 lo, .int .i64 hi] w fun e w' => e = .returned (.bool (decide (lo ≤ n ∧ n ≤ hi))) ∧ w = w' := by
  by_cases h1 : lo ≤ n
  · have e : decide (lo ≤ n ∧ n ≤ hi) = decide (n ≤ hi) := by simp [h1]
    rw [e]
    clear e
    go_enter Tryd.func54, Tryd.ntmps54
    go_wp2
    go_returns
    exact ⟨rfl, rfl⟩
  · have e : decide (lo ≤ n ∧ n ≤ hi) = false := by simp [h1]
    rw [e]
    clear e
    go_enter Tryd.func54, Tryd.ntmps54
    go_wp2
    go_returns
    exact ⟨rfl, rfl⟩

theorem rolled_any (c : Int) (d : D) (w : World) :
    Calls Tryd.prog 143 #[D.v d, .int .u8 c] w fun e w' => e = .returned (D.v (rollC c d)) ∧ Below w.heap.size w w' := by
  go_enter Tryd.func143, Tryd.ntmps143
  go_wp2
  all_goals
    go_returns
    refine ⟨?_, by go_grown⟩
    simp_all [rollC, rollN, rollE, rollS, rollW]

theorem diRoll_any (k : Int) (d : D) (w : World) :
    Calls Tryd.prog 99 #[D.v d, .int .i64 k] w fun e w' => e = .returned (D.v (rollK k d)) ∧ Below w.heap.size w w' := by
  go_enter Tryd.func99, Tryd.ntmps99
  go_wp2
  all_goals
    go_returns
    refine ⟨?_, by go_grown⟩
    simp_all [rollK, rollN, rollE, rollS, rollW]

end Go.Proofs.YthdkhikkdcjifaaDoor
