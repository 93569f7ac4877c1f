/- The walks of the laws of IsDie, MirrorDie, IsRolls, TurnDie. -/
import Derived.Test.YtjikpkembcnfnaaDoorGood
import Derived.Test.YtjikpkembcnfnaaDoorFaces
import Derived.Test.YtjikpkembcnfnaaDoorWord
namespace Go.Proofs.YtjikpkembcnfnaaDoor
set_option maxRecDepth 100000
set_option linter.all false
open Go.RowKit

end Go.Proofs.YtjikpkembcnfnaaDoor
