/- The walks of the laws of IsDie, MirrorDie, IsRolls, TurnDie. -/
import Derived.Test.YtkknjokacinlaaaDoorGood
import Derived.Test.YtkknjokacinlaaaDoorFaces
import Derived.Test.YtkknjokacinlaaaDoorWord
namespace Go.Proofs.YtkknjokacinlaaaDoor
set_option maxRecDepth 100000
set_option linter.all false
open Go.RowKit

end Go.Proofs.YtkknjokacinlaaaDoor
