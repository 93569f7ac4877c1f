/- Contracts of the model's small functions: units, turns, mirrored dice. No condition. -/
import Derived.Test.YtballmdcalfdnaaDoorBase
import Derived.StillTailTactics
namespace Go.Proofs.YtballmdcalfdnaaDoor
set_option maxRecDepth 100000
set_option linter.all false
open Go.RowKit

theorem diTurn_any (d : D) (w : World) :
    Calls Tryd.prog 42 #[D.v d] w fun e w' => e = .returned (D.v (turnD d)) ∧ Below w.heap.size w w' := by
  go_enter Tryd.func42, Tryd.ntmps42
  go_wp2
  go_returns
  exact ⟨rfl, by go_grown⟩

/-- The cells of a new die's variable. -/
def zeroV : Array Value := #[.int .i64 0, .int .i64 0, .int .i64 0, .int .i64 0, .int .i64 0, .int .i64 0]
end Go.Proofs.YtballmdcalfdnaaDoor
