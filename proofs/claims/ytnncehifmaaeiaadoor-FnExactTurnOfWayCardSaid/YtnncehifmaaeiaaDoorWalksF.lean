/- The walk of the law of AreSameRolls. -/
import Derived.Test.YtnncehifmaaeiaaDoorGood
import Derived.Test.YtnncehifmaaeiaaDoorFaces
import Derived.Test.YtnncehifmaaeiaaDoorRun
import Derived.Test.YtnncehifmaaeiaaDoorWalksA
import Derived.Test.YtnncehifmaaeiaaDoorPure
import Derived.Test.YtnncehifmaaeiaaDoorEql
import Derived.Test.YtnncehifmaaeiaaDoorState
import Derived.Deep.RegionHeld3
namespace Go.Proofs.YtnncehifmaaeiaaDoor
set_option maxRecDepth 100000
set_option linter.all false
open Go.RowKit

theorem ret_two {a b c d : Bool} (h : a = c) (h2 : b = d) : Ending.returned (.tuple #[.bool a, .bool b]) = .returned (.tuple #[.bool c, .bool d]) := by rw [h, h2]

/-- What both say. -/
def asS (v s : List UInt8) : Bool := if isWord v = true ∧ isWord s = true then decide (runC unitD v = runC unitD s) else false
def asF (v s : List UInt8) : Bool := isWord v && isWord s
end Go.Proofs.YtnncehifmaaeiaaDoor
