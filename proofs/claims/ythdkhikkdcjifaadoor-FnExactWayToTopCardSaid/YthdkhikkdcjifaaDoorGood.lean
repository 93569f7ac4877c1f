/- Contracts of the model's faces of a die and its good dice. No condition. -/
import Derived.Test.YthdkhikkdcjifaaDoorDie
namespace Go.Proofs.YthdkhikkdcjifaaDoor
set_option maxRecDepth 100000
set_option linter.all false
open Go.RowKit

theorem diFaces_any (d : D) (w : World) :
    Calls Tryd.prog 97 #[D.v d] w fun e w' => e = .returned (.slice (some ⟨w.heap.size + 1, 0, none⟩) 6 6) ∧
      (w.alloc (.cells #[.int .i64 d.t, .int .i64 d.n, .int .i64 d.e, .int .i64 d.s, .int .i64 d.w, .int .i64 d.b] 28)).alloc (.cells #[.int .i64 d.t, .int .i64 d.n, .int .i64 d.e, .int .i64 d.s, .int .i64 d.w, .int .i64 d.b] 3) = w' := by
  go_enter Tryd.func97, Tryd.ntmps97
  go_wp2
  go_returns
  exact ⟨rfl, rfl⟩

theorem diGood_any (d : D) (w : World) :
    Calls Tryd.prog 96 #[D.v d] w fun e w' => e = .returned (.bool (goodB d)) ∧ Below w.heap.size w w' := by
  go_enter Tryd.func96, Tryd.ntmps96
  go_wp2_with (first | (go_at_call 97; refine (diFaces_any _ _).mono ?_; rintro e w' ⟨rfl, rfl⟩) | go_in)
  go_rounds 7
  all_goals
    go_returns
    simp only [Bool.not_eq_true', Bool.not_eq_false', decide_eq_true_eq, decide_eq_false_iff_not, Int.not_le] at *
    first
    | exact ⟨ret_bool (a := true) (show goodB d = true from by unfold goodB; apply decide_eq_true; omega).symm, by go_grown⟩
    | exact ⟨ret_bool (a := false) (show goodB d = false from by unfold goodB; apply decide_eq_false; omega).symm, by go_grown⟩

end Go.Proofs.YthdkhikkdcjifaaDoor
