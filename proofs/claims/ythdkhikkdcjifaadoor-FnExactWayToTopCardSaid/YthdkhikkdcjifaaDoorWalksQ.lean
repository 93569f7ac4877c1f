/- The walks of the laws of BoardSize, IsFloor and CountFloor. -/
import Derived.Test.YthdkhikkdcjifaaDoorWalksP
namespace Go.Proofs.YthdkhikkdcjifaaDoor
set_option maxRecDepth 100000
set_option linter.all false
open Go.RowKit

theorem below_drewN {B : Nat} {a w : World} (h : Below B a w) (n : Nat) : Below B a (w.drewN n) := ⟨h.os, h.tape, h.output, h.size, h.block⟩

/-! ### BoardSize -/
def bsW (l : List UInt8) : Int := if isBd l = true then (width l : Int) else 0
def bsH (l : List UInt8) : Int := if isBd l = true then ((splitP l).length : Int) else 0
/-! ### IsFloor -/
def ifF (l : List UInt8) (x y : Int) : Bool := isBd l && inL l x y
def ifX (l : List UInt8) (x y : Int) : Bool := isBd l && floorL l x y
theorem floorL_out {l : List UInt8} (h : isBd l = true) {x y : Int} (hi : inL l x y = false) : floorL l x y = false := by unfold floorL; rw [cellI_out h hi]; rfl
theorem eq46 {c : UInt8} {b : Bool} (h : decide ((c.toNat : Int) = 46) = b) : (((c.toNat : Nat) : Int) == 46) = b := by
  rw [← h, Bool.eq_iff_iff]; simp
set_option maxHeartbeats 800000 in
theorem implIsFloor_any (s : ByteArray) (x y : Int) (w : World) (hs : s.size ≤ 1048576) (hg : Glob w) : Calls Tryd.prog 82 #[.string s, .int .i64 x, .int .i64 y] w fun e w' => e = .returned (.tuple #[.bool (ifX s.data.toList x y), .bool (ifF s.data.toList x y)]) ∧ Below w.heap.size w w' := by
  have HG := hide hg
  clear hg
  cases h : isBd s.data.toList
  · have H := hide h
    have HX := hide (show ifX s.data.toList x y = false from by unfold ifX; rw [h]; rfl)
    have HF := hide (show ifF s.data.toList x y = false from by unfold ifF; rw [h]; rfl)
    rw [HX.out, HF.out]
    clear h
    go_enter Tryd.func82, Tryd.ntmps82
    go_wp2_with fail
    refine (rowsOf_no s _ hs HG.out H.out).mono ?_
    rintro e w1 ⟨rfl, hb⟩
    go_wp2
    go_returns
    exact ⟨rfl, hb⟩
  · cases hin : inL s.data.toList x y
    · have H := hide h
      have HX := hide (show ifX s.data.toList x y = false from by unfold ifX; rw [floorL_out h hin, h]; rfl)
      have HF := hide (show ifF s.data.toList x y = false from by unfold ifF; rw [hin, h]; rfl)
      have HI := hide hin
      rw [HX.out, HF.out]
      clear h hin
      go_enter Tryd.func82, Tryd.ntmps82
      go_wp2_with fail
      refine (rowsOf_yes s _ hs HG.out H.out).mono ?_
      rintro e w1 ⟨rfl, ha, hb⟩
      go_wp2_with fail
      refine (hasCellL_any s _ x y _ hs H.out ha).mono ?_
      rintro e w2 ⟨rfl, rfl⟩
      rw [HI.out]
      go_wp2
      go_returns
      exact ⟨rfl, hb⟩
    · have H := hide h
      have HX := hide (show ifX s.data.toList x y = floorL s.data.toList x y from by unfold ifX; rw [h]; rfl)
      have HF := hide (show ifF s.data.toList x y = true from by unfold ifF; rw [hin, h]; rfl)
      have HI := hide hin
      rw [HX.out, HF.out]
      have hcl : floorL s.data.toList x y = decide (((cellI (splitP s.data.toList) x y).toNat : Int) = 46) := rfl
      rw [hcl]
      clear h hin hcl
      generalize hc : cellI (splitP s.data.toList) x y = c
      have HC := hide hc
      clear hc
      generalize hfl : decide ((c.toNat : Int) = 46) = fl
      have hq := eq46 hfl
      clear hfl
      go_enter Tryd.func82, Tryd.ntmps82
      go_wp2_with fail
      refine (rowsOf_yes s _ hs HG.out H.out).mono ?_
      rintro e w1 ⟨rfl, ha, hb⟩
      go_wp2_with fail
      refine (hasCellL_any s _ x y _ hs H.out ha).mono ?_
      rintro e w2 ⟨rfl, rfl⟩
      rw [HI.out]
      go_wp2_with fail
      refine (cellAtL_any s _ x y _ hs H.out ha).mono ?_
      rintro e w2 ⟨rfl, rfl⟩
      rw [HC.out]
      go_wp2
      go_returns
      exact ⟨rfl, hb⟩

end Go.Proofs.YthdkhikkdcjifaaDoor
