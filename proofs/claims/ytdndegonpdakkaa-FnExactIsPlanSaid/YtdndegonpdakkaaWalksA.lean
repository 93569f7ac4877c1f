/- The walks of the laws of IsDie, MirrorDie, IsRolls, TurnDie. -/
import Derived.Test.YtdndegonpdakkaaGood
import Derived.Test.YtdndegonpdakkaaFaces
import Derived.Test.YtdndegonpdakkaaWord
namespace Go.Proofs.Ytdndegonpdakkaa
set_option maxRecDepth 100000
set_option linter.all false
open Go.RowKit

end Go.Proofs.Ytdndegonpdakkaa
