/- How many labels? -/
import Derived.Test.YtbfclnigjijkbaaLabel
namespace Go.Proofs.Ytbfclnigjijkbaa
set_option maxRecDepth 100000
set_option linter.all false
open Go

/-- How many labels a text has. -/
def cntD (L : List UInt8) : Nat := L.countP isDig
end Go.Proofs.Ytbfclnigjijkbaa
