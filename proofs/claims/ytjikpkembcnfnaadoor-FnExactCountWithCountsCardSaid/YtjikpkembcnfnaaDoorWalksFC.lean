/- The walks of the laws of FaceCycles, CountKept, ColorsOf. -/
import Derived.Test.YtjikpkembcnfnaaDoorCycS
import Derived.Test.YtjikpkembcnfnaaDoorRun
import Derived.Test.YtjikpkembcnfnaaDoorWalksA
import Derived.Test.YtjikpkembcnfnaaDoorDieS
namespace Go.Proofs.YtjikpkembcnfnaaDoor
set_option maxRecDepth 100000
set_option linter.all false
open Go.RowKit

/-- What FaceCycles answers. -/
def fcL (l : List UInt8) : List Int := if isWord l = true then cycL (runC unitD l) else []
theorem cycL_le (l : List UInt8) : (cycL (runC unitD l)).length ≤ 6 := (cyc_facts _ (run_ways l)).2.2.2.1
theorem fcL_len (l : List UInt8) : (fcL l).length ≤ 100000 := by
  unfold fcL
  split
  · have := cycL_le l
    omega
  · simp
def FcPost (l : List UInt8) (w : World) (e : Ending) (w' : World) : Prop := ∃ v, e = .returned (.tuple #[v, .bool (isWord l)]) ∧ w'.ownsRow w.heap.size 3 1 v (fcL l).length (ints (fcL l)) ∧ Below w.heap.size w w'
end Go.Proofs.YtjikpkembcnfnaaDoor
