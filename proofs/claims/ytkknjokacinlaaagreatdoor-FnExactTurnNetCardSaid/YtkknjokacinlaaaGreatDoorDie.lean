/- Contracts of the small functions of chapter 1: the faces of a die, good dice, rolls of a die. No condition. -/
import Derived.Test.YtkknjokacinlaaaGreatDoorBase
namespace Go.Proofs.YtkknjokacinlaaaGreatDoor
set_option maxRecDepth 100000
set_option linter.all false
open Go.RowKit

theorem facesOf_any (d : D) (w : World) :
    Calls Tryz.prog 94 #[D.v d] w fun e w' => e = .returned (D.v d) ∧ Below w.heap.size w w' := by
  go_enter Tryz.func94, Tryz.ntmps94
  go_wp2
  go_returns
  exact ⟨rfl, by go_grown⟩

theorem l1In_any (n lo hi : Int) (w : World) :
    Calls Tryz.prog 32 #[.int .i64 n, .int .i64 lo, .int .i64 hi] w fun e w' => e = .returned (.bool (decide (lo ≤ n ∧ n ≤ hi))) ∧ w = w' := by
  by_cases h1 : lo ≤ n
  · have e : decide (lo ≤ n ∧ n ≤ hi) = decide (n ≤ hi) := by simp [h1]
    rw [e]
    clear e
    go_enter Tryz.func32, Tryz.ntmps32
    go_wp2
    go_returns
    exact ⟨rfl, rfl⟩
  · have e : decide (lo ≤ n ∧ n ≤ hi) = false := by simp [h1]
    rw [e]
    clear e
    go_enter Tryz.func32, Tryz.ntmps32
    go_wp2
    go_returns
    exact ⟨rfl, rfl⟩

theorem rolled_any (c : Int) (d : D) (w : World) :
    Calls Tryz.prog 82 #[D.v d, .int .u8 c] w fun e w' => e = .returned (D.v (rollC c d)) ∧ Below w.heap.size w w' := by
  go_enter Tryz.func82, Tryz.ntmps82
  go_wp2
  all_goals
    go_returns
    refine ⟨?_, by go_grown⟩
    simp_all [rollC, rollN, rollE, rollS, rollW]

theorem diRoll_any (k : Int) (d : D) (w : World) :
    Calls Tryz.prog 23 #[D.v d, .int .i64 k] w fun e w' => e = .returned (D.v (rollK k d)) ∧ Below w.heap.size w w' := by
  go_enter Tryz.func23, Tryz.ntmps23
  go_wp2
  all_goals
    go_returns
    refine ⟨?_, by go_grown⟩
    simp_all [rollK, rollN, rollE, rollS, rollW]

end Go.Proofs.YtkknjokacinlaaaGreatDoor
