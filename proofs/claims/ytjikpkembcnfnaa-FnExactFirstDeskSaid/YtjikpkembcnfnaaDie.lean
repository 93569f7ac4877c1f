/- Contracts of the small functions of chapter 1: the faces of a die, good dice, rolls of a die. No condition. -/
import Derived.Test.YtjikpkembcnfnaaBase
namespace Go.Proofs.Ytjikpkembcnfnaa
set_option maxRecDepth 100000
set_option linter.all false
open Go.RowKit

theorem facesOf_any (d : D) (w : World) :
    Calls Try.prog 13 #[D.v d] w fun e w' => e = .returned (D.v d) ∧ Below w.heap.size w w' := by
  go_enter Try.func13, Try.ntmps13
  go_wp2
  go_returns
  exact ⟨rfl, by go_grown⟩

theorem eqDie_any (d e : D) (w : World) :
    Calls Try.prog 12 #[D.v d, D.v e] w fun x w' => x = .returned (.bool (decide (d = e))) ∧ Below w.heap.size w w' := by
  have key : ∀ x : Bool, (x = decide (d.t = e.t ∧ d.n = e.n ∧ d.e = e.e ∧ d.s = e.s ∧ d.w = e.w ∧ d.b = e.b)) → x = decide (d = e) := by
    intro x h
    rw [h]
    by_cases hh : d.t = e.t ∧ d.n = e.n ∧ d.e = e.e ∧ d.s = e.s ∧ d.w = e.w ∧ d.b = e.b
    · rw [decide_eq_true hh, decide_eq_true (D.ext' hh.1 hh.2.1 hh.2.2.1 hh.2.2.2.1 hh.2.2.2.2.1 hh.2.2.2.2.2)]
    · rw [decide_eq_false hh, decide_eq_false (fun x => hh (by subst x; simp))]
  go_enter Try.func12, Try.ntmps12
  go_wp2
  all_goals
    go_returns
    refine ⟨?_, by go_grown⟩
    rw [← key _ rfl]
    simp_all

theorem isDie_any (d : D) (w : World) :
    Calls Try.prog 11 #[D.v d] w fun e w' => e = .returned (.bool (goodB d)) ∧ Below w.heap.size w w' := by
  have i0 : ∀ w : World, (Instr.index 36 (D.v d) (.int .i64 0)).run Try.prog w = .ok (.int .i64 d.t) w := fun _ => by kernel_rfl
  have i1 : ∀ w : World, (Instr.index 36 (D.v d) (.int .i64 1)).run Try.prog w = .ok (.int .i64 d.n) w := fun _ => by kernel_rfl
  have i2 : ∀ w : World, (Instr.index 36 (D.v d) (.int .i64 2)).run Try.prog w = .ok (.int .i64 d.e) w := fun _ => by kernel_rfl
  have i3 : ∀ w : World, (Instr.index 36 (D.v d) (.int .i64 3)).run Try.prog w = .ok (.int .i64 d.s) w := fun _ => by kernel_rfl
  have i4 : ∀ w : World, (Instr.index 36 (D.v d) (.int .i64 4)).run Try.prog w = .ok (.int .i64 d.w) w := fun _ => by kernel_rfl
  have i5 : ∀ w : World, (Instr.index 36 (D.v d) (.int .i64 5)).run Try.prog w = .ok (.int .i64 d.b) w := fun _ => by kernel_rfl
  go_enter Try.func11, Try.ntmps11
  go_wp2_with (go_at_call 13; refine (facesOf_any _ _).mono ?_; rintro e w' ⟨rfl, hb⟩)
  go_rounds 7
  all_goals
    go_returns
    first
    | exact ⟨ret_bool (a := true) (show goodB d = true from by unfold goodB; apply decide_eq_true; omega).symm, below_after (by go_grown) hb (by simp)⟩
    | exact ⟨ret_bool (a := false) (show goodB d = false from by unfold goodB; apply decide_eq_false; omega).symm, below_after (by go_grown) hb (by simp)⟩

end Go.Proofs.Ytjikpkembcnfnaa
