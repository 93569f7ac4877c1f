/- Contracts of the model's small functions: units, turns, mirrored dice. No condition. -/
import Derived.Test.YthdkhikkdcjifaaDoorBase
import Derived.StillTailTactics
namespace Go.Proofs.YthdkhikkdcjifaaDoor
set_option maxRecDepth 100000
set_option linter.all false
open Go.RowKit

/-- The cells of a new die's variable. -/
def zeroV : Array Value := #[.int .i64 0, .int .i64 0, .int .i64 0, .int .i64 0, .int .i64 0, .int .i64 0]
end Go.Proofs.YthdkhikkdcjifaaDoor
