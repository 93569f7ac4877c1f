/- A state rolled. -/
import Derived.Test.YthdkhikkdcjifaaDoorState
import Derived.Test.YthdkhikkdcjifaaDoorWords
namespace Go.Proofs.YthdkhikkdcjifaaDoor
set_option maxRecDepth 100000
set_option linter.all false
open Go.RowKit

/-- A state rolled, floor or not, by the number of the direction. -/
def rollT (s : St) (k : Int) : St := ⟨nextX s.x k, nextY s.y k, rollK k s.d⟩
/-- The sign of a direction. -/
def dirC (k : Nat) : UInt8 := if k = 0 then 110 else if k = 1 then 101 else if k = 2 then 115 else 119
theorem dirC_ix (k : Nat) (hk : k < 4) : dirIx (dirC k).toNat = (k : Int) := by
  match k, hk with
  | 0, _ => rfl
  | 1, _ => rfl
  | 2, _ => rfl
  | 3, _ => rfl
end Go.Proofs.YthdkhikkdcjifaaDoor
