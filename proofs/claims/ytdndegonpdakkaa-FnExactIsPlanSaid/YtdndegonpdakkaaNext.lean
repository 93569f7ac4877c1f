/- The model's next place in a direction. -/
import Derived.Test.YtdndegonpdakkaaBase
import Derived.Test.YtdndegonpdakkaaWords
import Derived.Deep.QuietTactic
import Derived.BigQuiet
namespace Go.Proofs.Ytdndegonpdakkaa
set_option maxRecDepth 100000
set_option linter.all false
open Go.RowKit

end Go.Proofs.Ytdndegonpdakkaa
