/- The contract of spec.boWay. -/
import Derived.Test.YtdndegonpdakkaaDoorAlong
import Derived.Test.YtdndegonpdakkaaDoorWalksA
namespace Go.Proofs.YtdndegonpdakkaaDoor
set_option maxRecDepth 100000
set_option linter.all false
open Go.RowKit

end Go.Proofs.YtdndegonpdakkaaDoor
