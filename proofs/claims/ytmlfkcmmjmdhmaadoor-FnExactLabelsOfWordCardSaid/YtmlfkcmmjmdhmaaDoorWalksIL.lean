/- FnExactIsLabelled's walk. -/
import Derived.Test.YtmlfkcmmjmdhmaaDoorPrRead
import Derived.Test.YtmlfkcmmjmdhmaaDoorWalksP
namespace Go.Proofs.YtmlfkcmmjmdhmaaDoor
set_option maxRecDepth 100000
set_option linter.all false
open Go.RowKit

theorem floor_text (s : ByteArray) (hs : s.size ≤ 1048576) : ∃ t : ByteArray, t = ⟨(unlab s.data.toList).toArray⟩ ∧ t.data.toList = unlab s.data.toList ∧ t.size ≤ 1048576 := by
  refine ⟨_, rfl, by simp, ?_⟩
  show (unlab s.data.toList).toArray.size ≤ _
  rw [List.size_toArray, unlab_len]
  simpa using hs
end Go.Proofs.YtmlfkcmmjmdhmaaDoor
