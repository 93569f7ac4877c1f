/- The walks of the laws of IsBoard and BoardSize. -/
import Derived.Test.YtnpnhnkpnhcebaaDoorCells
namespace Go.Proofs.YtnpnhnkpnhcebaaDoor
set_option maxRecDepth 100000
set_option linter.all false
open Go.RowKit

theorem implIsBoard_any (s : ByteArray) (w : World) (hs : s.size ≤ 1048576) (hg : Glob w) : Calls Tryd.prog 25 #[.string s] w fun e w' => e = .returned (.bool (isBd s.data.toList)) ∧ Below w.heap.size w w' := by
  have HG := hide hg
  clear hg
  cases h : isBd s.data.toList
  · have H := hide h
    clear h
    go_enter Tryd.func25, Tryd.ntmps25
    go_wp2_with fail
    refine (rowsOf_no s _ hs HG.out H.out).mono ?_
    rintro e w1 ⟨rfl, hb⟩
    go_wp2
    go_returns
    exact ⟨rfl, hb⟩
  · have H := hide h
    clear h
    go_enter Tryd.func25, Tryd.ntmps25
    go_wp2_with fail
    refine (rowsOf_yes s _ hs HG.out H.out).mono ?_
    rintro e w1 ⟨rfl, _, hb⟩
    go_wp2
    go_returns
    exact ⟨rfl, hb⟩

end Go.Proofs.YtnpnhnkpnhcebaaDoor
