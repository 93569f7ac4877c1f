/- The walks of the laws of IsDie, MirrorDie, IsRolls, TurnDie. -/
import Derived.Test.YthdkhikkdcjifaaDoorGood
import Derived.Test.YthdkhikkdcjifaaDoorFaces
import Derived.Test.YthdkhikkdcjifaaDoorWord
namespace Go.Proofs.YthdkhikkdcjifaaDoor
set_option maxRecDepth 100000
set_option linter.all false
open Go.RowKit

end Go.Proofs.YthdkhikkdcjifaaDoor
