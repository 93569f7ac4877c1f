/- Contracts of the small functions of chapter 1: the faces of a die, good dice, rolls of a die. No condition. -/
import Derived.Test.YtnpnhnkpnhcebaaDoorBase
namespace Go.Proofs.YtnpnhnkpnhcebaaDoor
set_option maxRecDepth 100000
set_option linter.all false
open Go.RowKit

theorem facesOf_any (d : D) (w : World) :
    Calls Tryd.prog 72 #[D.v d] w fun e w' => e = .returned (D.v d) ∧ Below w.heap.size w w' := by
  go_enter Tryd.func72, Tryd.ntmps72
  go_wp2
  go_returns
  exact ⟨rfl, by go_grown⟩

theorem toDie_any (d : D) (w : World) :
    Calls Tryd.prog 29 #[D.v d] w fun e w' => e = .returned (D.v d) ∧ Below w.heap.size w w' := by
  go_enter Tryd.func29, Tryd.ntmps29
  go_wp2
  go_returns
  exact ⟨rfl, by go_grown⟩

theorem isDie_any (d : D) (w : World) :
    Calls Tryd.prog 63 #[D.v d] w fun e w' => e = .returned (.bool (goodB d)) ∧ Below w.heap.size w w' := by
  have i0 : ∀ w : World, (Instr.index 97 (D.v d) (.int .i64 0)).run Tryd.prog w = .ok (.int .i64 d.t) w := fun _ => by kernel_rfl
  have i1 : ∀ w : World, (Instr.index 97 (D.v d) (.int .i64 1)).run Tryd.prog w = .ok (.int .i64 d.n) w := fun _ => by kernel_rfl
  have i2 : ∀ w : World, (Instr.index 97 (D.v d) (.int .i64 2)).run Tryd.prog w = .ok (.int .i64 d.e) w := fun _ => by kernel_rfl
  have i3 : ∀ w : World, (Instr.index 97 (D.v d) (.int .i64 3)).run Tryd.prog w = .ok (.int .i64 d.s) w := fun _ => by kernel_rfl
  have i4 : ∀ w : World, (Instr.index 97 (D.v d) (.int .i64 4)).run Tryd.prog w = .ok (.int .i64 d.w) w := fun _ => by kernel_rfl
  have i5 : ∀ w : World, (Instr.index 97 (D.v d) (.int .i64 5)).run Tryd.prog w = .ok (.int .i64 d.b) w := fun _ => by kernel_rfl
  go_enter Tryd.func63, Tryd.ntmps63
  go_wp2_with (go_at_call 72; refine (facesOf_any _ _).mono ?_; rintro e w' ⟨rfl, hb⟩)
  go_rounds 7
  all_goals
    go_returns
    first
    | exact ⟨ret_bool (a := true) (show goodB d = true from by unfold goodB; apply decide_eq_true; omega).symm, below_after (by go_grown) hb (by simp)⟩
    | exact ⟨ret_bool (a := false) (show goodB d = false from by unfold goodB; apply decide_eq_false; omega).symm, below_after (by go_grown) hb (by simp)⟩

theorem l1In_any (n lo hi : Int) (w : World) :
    Calls Tryd.prog 71 #[.int .i64 n, .int .i64 lo, .int .i64 hi] w fun e w' => e = .returned (.bool (decide (lo ≤ n ∧ n ≤ hi))) ∧ w = w' := by
  by_cases h1 : lo ≤ n
  · have e : decide (lo ≤ n ∧ n ≤ hi) = decide (n ≤ hi) := by simp [h1]
    rw [e]
    clear e
    go_enter Tryd.func71, Tryd.ntmps71
    go_wp2
    go_returns
    exact ⟨rfl, rfl⟩
  · have e : decide (lo ≤ n ∧ n ≤ hi) = false := by simp [h1]
    rw [e]
    clear e
    go_enter Tryd.func71, Tryd.ntmps71
    go_wp2
    go_returns
    exact ⟨rfl, rfl⟩

end Go.Proofs.YtnpnhnkpnhcebaaDoor
