/- The walks of the law of IsClosedWay. -/
import Derived.Test.YtdndegonpdakkaaWalksA
import Derived.Test.YtdndegonpdakkaaWords
import Derived.Test.YtdndegonpdakkaaNext
import Derived.Deep.QuietTactic
import Derived.BigQuiet
namespace Go.Proofs.Ytdndegonpdakkaa
set_option maxRecDepth 100000
set_option linter.all false
open Go.RowKit

end Go.Proofs.Ytdndegonpdakkaa
