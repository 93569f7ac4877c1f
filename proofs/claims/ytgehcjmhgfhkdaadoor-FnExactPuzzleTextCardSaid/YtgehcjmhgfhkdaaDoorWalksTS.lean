/- The model's TurnBoard. -/
import Derived.Test.YtgehcjmhgfhkdaaDoorWalksTB
namespace Go.Proofs.YtgehcjmhgfhkdaaDoor
set_option maxRecDepth 100000
set_option linter.all false
open Go.RowKit

end Go.Proofs.YtgehcjmhgfhkdaaDoor
