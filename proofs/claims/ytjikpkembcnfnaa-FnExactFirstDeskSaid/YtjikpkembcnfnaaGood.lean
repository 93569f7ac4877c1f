/- Contracts of the model's faces of a die and its good dice. No condition. -/
import Derived.Test.YtjikpkembcnfnaaDie
namespace Go.Proofs.Ytjikpkembcnfnaa
set_option maxRecDepth 100000
set_option linter.all false
open Go.RowKit

end Go.Proofs.Ytjikpkembcnfnaa
