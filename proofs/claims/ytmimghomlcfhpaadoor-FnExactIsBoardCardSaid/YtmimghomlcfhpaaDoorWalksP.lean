/- The walks of the laws of IsBoard and BoardSize. -/
import Derived.Test.YtmimghomlcfhpaaDoorCells
namespace Go.Proofs.YtmimghomlcfhpaaDoor
set_option maxRecDepth 100000
set_option linter.all false
open Go.RowKit

theorem specIsBoard_any (s : ByteArray) (w : World) (hs : s.size ≤ 1048576) : Calls Tryd.prog 8 #[.string s] w fun e w' => e = .returned (.bool (isBd s.data.toList)) ∧ Below w.heap.size w w' := by
  cases h : isBd s.data.toList
  · have H := hide h
    clear h
    go_enter Tryd.func8, Tryd.ntmps8
    go_wp2_with fail
    refine (boRead_no s _ hs H.out).mono ?_
    rintro e w1 ⟨rfl, hb⟩
    go_wp2
    go_returns
    exact ⟨rfl, hb.alloc hb.size _⟩
  · have H := hide h
    clear h
    go_enter Tryd.func8, Tryd.ntmps8
    go_wp2_with fail
    refine (boRead_yes s _ hs H.out).mono ?_
    rintro e w1 ⟨W, H, n, g, cap, _, rfl, _, hb⟩
    go_wp2
    go_returns
    exact ⟨rfl, hb.alloc hb.size _⟩
theorem implIsBoard_any (s : ByteArray) (w : World) (hs : s.size ≤ 1048576) (hg : Glob w) : Calls Tryd.prog 9 #[.string s] w fun e w' => e = .returned (.bool (isBd s.data.toList)) ∧ Below w.heap.size w w' := by
  have HG := hide hg
  clear hg
  cases h : isBd s.data.toList
  · have H := hide h
    clear h
    go_enter Tryd.func9, Tryd.ntmps9
    go_wp2_with fail
    refine (rowsOf_no s _ hs HG.out H.out).mono ?_
    rintro e w1 ⟨rfl, hb⟩
    go_wp2
    go_returns
    exact ⟨rfl, hb⟩
  · have H := hide h
    clear h
    go_enter Tryd.func9, Tryd.ntmps9
    go_wp2_with fail
    refine (rowsOf_yes s _ hs HG.out H.out).mono ?_
    rintro e w1 ⟨rfl, _, hb⟩
    go_wp2
    go_returns
    exact ⟨rfl, hb⟩

set_option maxHeartbeats 400000 in
theorem walk_IsBoard (v : ByteArray) (hv : v.size ≤ maxLen) (w : World) (hg : Glob w) : Calls Tryd.prog 3 #[.string v] w fun e w' => e = .returned (.bool true) ∧ Below w.heap.size w w' := by
  have HGL := hide hg
  clear hg
  by_cases h1 : v.size ≤ 1048576
  · have HS := hide h1
    go_enter Tryd.func3, Tryd.ntmps3
    go_wp2_with fail
    refine (specIsBoard_any v _ HS.out).mono ?_
    rintro e w1 ⟨rfl, hb1⟩
    generalize hx : isBd v.data.toList = x
    have HX := hide hx
    clear hx
    have hg1 := hide (glob_to hb1 HGL.out rfl)
    go_wp2_with fail
    refine (implIsBoard_any v _ HS.out hg1.out).mono ?_
    rintro e w2 ⟨rfl, hb2⟩
    rw [HX.out]
    have e1 : (x != x) = false := by simp
    go_wp2
    go_returns
    exact ⟨rfl, below_after hb1 hb2 hb1.size⟩
  · go_enter Tryd.func3, Tryd.ntmps3
    go_wp2
    go_returns
    exact ⟨rfl, Below.refl _ _⟩
end Go.Proofs.YtmimghomlcfhpaaDoor
