/- FnExactTurnBoard's walk. -/
import Derived.Test.YtgehcjmhgfhkdaaDoorWalksTS
import Derived.Test.YtgehcjmhgfhkdaaDoorWalksTI
namespace Go.Proofs.YtgehcjmhgfhkdaaDoor
set_option maxRecDepth 100000
set_option linter.all false
open Go.RowKit

set_option maxHeartbeats 400000 in
theorem implTB_no (s : ByteArray) (w : World) (hs : s.size ≤ 1048576) (hg : Glob w) (h : isBd s.data.toList = false) : Calls Tryd.prog 49 #[.string s] w fun e w' => e = .returned (.tuple #[.string (tbS s.data.toList), .bool false]) ∧ Below w.heap.size w w' := by
  have HG := hide hg
  have H := hide h
  have HE := hide (show tbS s.data.toList = ⟨#[]⟩ from by unfold tbS; rw [h]; rfl)
  rw [HE.out]
  clear hg h
  go_enter Tryd.func49, Tryd.ntmps49
  go_wp2_with fail
  refine (rowsOf_no s _ hs HG.out H.out).mono ?_
  rintro e w1 ⟨rfl, hb⟩
  go_wp2
  go_returns
  exact ⟨rfl, hb⟩
theorem implTB_any (s : ByteArray) (w : World) (hs : s.size ≤ 1048576) (hg : Glob w) : Calls Tryd.prog 49 #[.string s] w fun e w' => e = .returned (.tuple #[.string (tbS s.data.toList), .bool (isBd s.data.toList)]) ∧ Below w.heap.size w w' := by
  cases h : isBd s.data.toList
  · exact implTB_no s w hs hg h
  · exact implTB_yes s w hs hg h
end Go.Proofs.YtgehcjmhgfhkdaaDoor
