/- FnExactTurnBoard's walk. -/
import Derived.Test.YtnpnhnkpnhcebaaDoorWalksTS
import Derived.Test.YtnpnhnkpnhcebaaDoorWalksTI
namespace Go.Proofs.YtnpnhnkpnhcebaaDoor
set_option maxRecDepth 100000
set_option linter.all false
open Go.RowKit

set_option maxHeartbeats 400000 in
theorem implTB_no (s : ByteArray) (w : World) (hs : s.size ≤ 1048576) (hg : Glob w) (h : isBd s.data.toList = false) : Calls Tryd.prog 9 #[.string s] w fun e w' => e = .returned (.tuple #[.string (tbS s.data.toList), .bool false]) ∧ Below w.heap.size w w' := by
  have HG := hide hg
  have H := hide h
  have HE := hide (show tbS s.data.toList = ⟨#[]⟩ from by unfold tbS; rw [h]; rfl)
  rw [HE.out]
  clear hg h
  go_enter Tryd.func9, Tryd.ntmps9
  go_wp2_with fail
  refine (rowsOf_no s _ hs HG.out H.out).mono ?_
  rintro e w1 ⟨rfl, hb⟩
  go_wp2
  go_returns
  exact ⟨rfl, hb⟩
theorem specTB_any (s : ByteArray) (w : World) (hs : s.size ≤ 1048576) : Calls Tryd.prog 8 #[.string s] w fun e w' => e = .returned (.tuple #[.string (tbS s.data.toList), .bool (isBd s.data.toList)]) ∧ Below w.heap.size w w' := by
  cases h : isBd s.data.toList
  · exact specTB_no s w hs h
  · exact specTB_yes s w hs h
theorem implTB_any (s : ByteArray) (w : World) (hs : s.size ≤ 1048576) (hg : Glob w) : Calls Tryd.prog 9 #[.string s] w fun e w' => e = .returned (.tuple #[.string (tbS s.data.toList), .bool (isBd s.data.toList)]) ∧ Below w.heap.size w w' := by
  cases h : isBd s.data.toList
  · exact implTB_no s w hs hg h
  · exact implTB_yes s w hs hg h
set_option maxHeartbeats 800000 in
theorem walk_TurnBoard (v : ByteArray) (hv : v.size ≤ maxLen) (w : World) (hg : Glob w) : Calls Tryd.prog 3 #[.string v] w fun e w' => e = .returned (.bool true) ∧ Below w.heap.size w w' := by
  have HGL := hide hg
  clear hg
  by_cases h1 : v.size ≤ 1048576
  · have HS := hide h1
    go_enter Tryd.func3, Tryd.ntmps3
    go_wp2_with fail
    refine (specTB_any v _ HS.out).mono ?_
    rintro e w1 ⟨rfl, hb1⟩
    generalize hx : tbS v.data.toList = x
    generalize hy : isBd v.data.toList = g
    have HX := hide hx
    have HY := hide hy
    clear hx hy
    have hg1 := hide (glob_to hb1 HGL.out rfl)
    go_wp2_with fail
    refine (implTB_any v _ HS.out hg1.out).mono ?_
    rintro e w2 ⟨rfl, hb2⟩
    rw [HX.out, HY.out]
    have e1 : (x.toList != x.toList) = false := by simp
    have e2 : (g != g) = false := by simp
    go_wp2
    go_returns
    exact ⟨rfl, below_after hb1 hb2 hb1.size⟩
  · go_enter Tryd.func3, Tryd.ntmps3
    go_wp2
    go_returns
    exact ⟨rfl, Below.refl _ _⟩
end Go.Proofs.YtnpnhnkpnhcebaaDoor
