/- FnExactMatchesHere's walk. -/
import Derived.Test.YtmlfkcmmjmdhmaaDoorUnder
namespace Go.Proofs.YtmlfkcmmjmdhmaaDoor
set_option maxRecDepth 100000
set_option linter.all false
open Go.RowKit

/-- Is there a state on a labelled board? -/
def onL (l : List UInt8) (t : St) : Bool := isLab l && stL (unlab l) t
/-- Does a state match? -/
def mhB (l : List UInt8) (t : St) : Bool := onL l t && hitB (cellI (splitP l) t.x t.y) t.d.t
theorem st_floor {l : List UInt8} {t : St} (h : stL l t = true) : floorL l t.x t.y = true ∧ goodB t.d = true := by
  unfold stL at h
  rwa [Bool.and_eq_true] at h
theorem good_top {d : D} (h : goodB d = true) : 0 ≤ d.t ∧ d.t ≤ 9 := by
  unfold goodB at h
  have := of_decide_eq_true h
  exact ⟨this.1, this.2.1⟩
theorem onL_no {l : List UInt8} {t : St} (h : isLab l = false) : onL l t = false := by unfold onL; rw [h]; rfl
theorem onL_eq {l : List UInt8} {t : St} (h : isLab l = true) : onL l t = stL (unlab l) t := by unfold onL; rw [h]; rfl

end Go.Proofs.YtmlfkcmmjmdhmaaDoor
