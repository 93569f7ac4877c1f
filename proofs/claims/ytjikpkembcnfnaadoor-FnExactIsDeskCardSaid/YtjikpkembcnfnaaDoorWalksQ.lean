/- The walks of the laws of BoardSize, IsFloor and CountFloor. -/
import Derived.Test.YtjikpkembcnfnaaDoorWalksP
namespace Go.Proofs.YtjikpkembcnfnaaDoor
set_option maxRecDepth 100000
set_option linter.all false
open Go.RowKit

theorem below_drewN {B : Nat} {a w : World} (h : Below B a w) (n : Nat) : Below B a (w.drewN n) := ⟨h.os, h.tape, h.output, h.size, h.block⟩

/-! ### BoardSize -/
def bsW (l : List UInt8) : Int := if isBd l = true then (width l : Int) else 0
def bsH (l : List UInt8) : Int := if isBd l = true then ((splitP l).length : Int) else 0
/-! ### IsFloor -/
def ifF (l : List UInt8) (x y : Int) : Bool := isBd l && inL l x y
def ifX (l : List UInt8) (x y : Int) : Bool := isBd l && floorL l x y
theorem floorL_out {l : List UInt8} (h : isBd l = true) {x y : Int} (hi : inL l x y = false) : floorL l x y = false := by unfold floorL; rw [cellI_out h hi]; rfl
theorem eq46 {c : UInt8} {b : Bool} (h : decide ((c.toNat : Int) = 46) = b) : (((c.toNat : Nat) : Int) == 46) = b := by
  rw [← h, Bool.eq_iff_iff]; simp
end Go.Proofs.YtjikpkembcnfnaaDoor
