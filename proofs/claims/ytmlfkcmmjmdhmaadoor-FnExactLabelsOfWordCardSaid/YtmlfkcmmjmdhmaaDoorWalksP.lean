/- The walks of the laws of IsBoard and BoardSize. -/
import Derived.Test.YtmlfkcmmjmdhmaaDoorCells
namespace Go.Proofs.YtmlfkcmmjmdhmaaDoor
set_option maxRecDepth 100000
set_option linter.all false
open Go.RowKit

end Go.Proofs.YtmlfkcmmjmdhmaaDoor
