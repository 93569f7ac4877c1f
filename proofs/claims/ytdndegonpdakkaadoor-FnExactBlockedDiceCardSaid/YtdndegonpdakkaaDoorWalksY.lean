/- The contract of impl.StatesAlong, and the walks of the law of RollAlong. -/
import Derived.Test.YtdndegonpdakkaaDoorWalksX
namespace Go.Proofs.YtdndegonpdakkaaDoor
set_option maxRecDepth 100000
set_option linter.all false
open Go.RowKit

/-- What RollAlong answers. -/
def raB (l : List UInt8) (t : St) (L : List UInt8) : Bool := isBd l && (stL l t && (isWord L && decide (stopT l t L = L.length)))
def raV (l : List UInt8) (t : St) (L : List UInt8) : St := if raB l t L = true then atT t L L.length else ⟨0, 0, ⟨0, 0, 0, 0, 0, 0⟩⟩

end Go.Proofs.YtdndegonpdakkaaDoor
