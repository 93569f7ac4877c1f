/- The walks of the laws of IsDie, MirrorDie, IsRolls, TurnDie. -/
import Derived.Test.YtdndegonpdakkaaDoorGood
import Derived.Test.YtdndegonpdakkaaDoorFaces
import Derived.Test.YtdndegonpdakkaaDoorWord
namespace Go.Proofs.YtdndegonpdakkaaDoor
set_option maxRecDepth 100000
set_option linter.all false
open Go.RowKit

end Go.Proofs.YtdndegonpdakkaaDoor
