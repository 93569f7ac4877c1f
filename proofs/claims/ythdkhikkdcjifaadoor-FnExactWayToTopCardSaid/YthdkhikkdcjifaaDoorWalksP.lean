/- The walks of the laws of IsBoard and BoardSize. -/
import Derived.Test.YthdkhikkdcjifaaDoorCells
namespace Go.Proofs.YthdkhikkdcjifaaDoor
set_option maxRecDepth 100000
set_option linter.all false
open Go.RowKit

end Go.Proofs.YthdkhikkdcjifaaDoor
