/- Contracts of the small functions of chapter 1: the faces of a die, good dice, rolls of a die. No condition. -/
import Derived.Test.YtbfclnigjijkbaaBase
namespace Go.Proofs.Ytbfclnigjijkbaa
set_option maxRecDepth 100000
set_option linter.all false
open Go.RowKit

theorem facesOf_any (d : D) (w : World) :
    Calls Try.prog 81 #[D.v d] w fun e w' => e = .returned (D.v d) ∧ Below w.heap.size w w' := by
  go_enter Try.func81, Try.ntmps81
  go_wp2
  go_returns
  exact ⟨rfl, by go_grown⟩

theorem eqDie_any (d e : D) (w : World) :
    Calls Try.prog 14 #[D.v d, D.v e] w fun x w' => x = .returned (.bool (decide (d = e))) ∧ Below w.heap.size w w' := by
  have key : ∀ x : Bool, (x = decide (d.t = e.t ∧ d.n = e.n ∧ d.e = e.e ∧ d.s = e.s ∧ d.w = e.w ∧ d.b = e.b)) → x = decide (d = e) := by
    intro x h
    rw [h]
    by_cases hh : d.t = e.t ∧ d.n = e.n ∧ d.e = e.e ∧ d.s = e.s ∧ d.w = e.w ∧ d.b = e.b
    · rw [decide_eq_true hh, decide_eq_true (D.ext' hh.1 hh.2.1 hh.2.2.1 hh.2.2.2.1 hh.2.2.2.2.1 hh.2.2.2.2.2)]
    · rw [decide_eq_false hh, decide_eq_false (fun x => hh (by subst x; simp))]
  go_enter Try.func14, Try.ntmps14
  go_wp2
  all_goals
    go_returns
    refine ⟨?_, by go_grown⟩
    rw [← key _ rfl]
    simp_all

theorem l1In_any (n lo hi : Int) (w : World) :
    Calls Try.prog 57 #[.int .i64 n, .int .i64 lo, .int .i64 hi] w fun e w' => e = .returned (.bool (decide (lo ≤ n ∧ n ≤ hi))) ∧ w = w' := by
  by_cases h1 : lo ≤ n
  · have e : decide (lo ≤ n ∧ n ≤ hi) = decide (n ≤ hi) := by simp [h1]
    rw [e]
    clear e
    go_enter Try.func57, Try.ntmps57
    go_wp2
    go_returns
    exact ⟨rfl, rfl⟩
  · have e : decide (lo ≤ n ∧ n ≤ hi) = false := by simp [h1]
    rw [e]
    clear e
    go_enter Try.func57, Try.ntmps57
    go_wp2
    go_returns
    exact ⟨rfl, rfl⟩

theorem rolled_any (c : Int) (d : D) (w : World) :
    Calls Try.prog 69 #[D.v d, .int .u8 c] w fun e w' => e = .returned (D.v (rollC c d)) ∧ Below w.heap.size w w' := by
  go_enter Try.func69, Try.ntmps69
  go_wp2
  all_goals
    go_returns
    refine ⟨?_, by go_grown⟩
    simp_all [rollC, rollN, rollE, rollS, rollW]

theorem diRoll_any (k : Int) (d : D) (w : World) :
    Calls Try.prog 54 #[D.v d, .int .i64 k] w fun e w' => e = .returned (D.v (rollK k d)) ∧ Below w.heap.size w w' := by
  go_enter Try.func54, Try.ntmps54
  go_wp2
  all_goals
    go_returns
    refine ⟨?_, by go_grown⟩
    simp_all [rollK, rollN, rollE, rollS, rollW]

end Go.Proofs.Ytbfclnigjijkbaa
