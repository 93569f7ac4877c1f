/- The walks of the law of FirstStop. -/
import Derived.Test.YtgehcjmhgfhkdaaDoorWay
import Derived.Test.YtgehcjmhgfhkdaaDoorWayI
namespace Go.Proofs.YtgehcjmhgfhkdaaDoor
set_option maxRecDepth 100000
set_option linter.all false
open Go.RowKit

def fsB (l : List UInt8) (t : St) (L : List UInt8) : Bool := isBd l && (stL l t && isWord L)
def fsV (l : List UInt8) (t : St) (L : List UInt8) : Int := if fsB l t L = true then (stopT l t L : Int) else 0
theorem stop_le (l : List UInt8) : ∀ (L : List UInt8) (s : St), stopT l s L ≤ L.length
  | [], _ => Nat.le_refl _
  | c :: cs, s => by
    unfold stopT
    split
    · have := stop_le l cs (stepT s c)
      simp
      omega
    · omega
theorem bigLen {v : ByteArray} (h : v.size ≤ 1048576) : v.size ≤ maxLen := by unfold maxLen; omega

end Go.Proofs.YtgehcjmhgfhkdaaDoor
