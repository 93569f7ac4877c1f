/- The contracts of the program's matching: hasCell, cellAt over signs, labelOf, hasItsLabel, matches. -/
import Derived.Test.YtmlfkcmmjmdhmaaDoorMatchC
import Derived.Test.YtmlfkcmmjmdhmaaDoorPrRead
import Derived.Test.YtmlfkcmmjmdhmaaDoorStates
namespace Go.Proofs.YtmlfkcmmjmdhmaaDoor
set_option maxRecDepth 100000
set_option linter.all false
open Go.RowKit

theorem u8_lab {t : Int} (h0 : 0 ≤ t) (h9 : t ≤ 9) : IntKind.u8.wrap t = t ∧ IntKind.u8.wrap (48 + t) = 48 + t := by
  constructor <;> (simp [IntKind.wrap, IntKind.signed, IntKind.bits]; omega)
theorem labelOf_any (t : Int) (h0 : 0 ≤ t) (h9 : t ≤ 9) (w : World) : Calls Tryd.prog 22 #[.int .i64 t] w fun e w' => e = .returned (.int .u8 (48 + t)) ∧ w' = w := by
  obtain ⟨e1, e2⟩ := u8_lab h0 h9
  go_enter Tryd.func22, Tryd.ntmps22
  go_wp2
  go_returns
  exact ⟨rfl, rfl⟩
end Go.Proofs.YtmlfkcmmjmdhmaaDoor
