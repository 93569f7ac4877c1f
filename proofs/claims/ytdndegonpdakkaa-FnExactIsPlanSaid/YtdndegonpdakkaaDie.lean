/- Contracts of the small functions of chapter 1: the faces of a die, good dice, rolls of a die. No condition. -/
import Derived.Test.YtdndegonpdakkaaBase
namespace Go.Proofs.Ytdndegonpdakkaa
set_option maxRecDepth 100000
set_option linter.all false
open Go.RowKit

end Go.Proofs.Ytdndegonpdakkaa
