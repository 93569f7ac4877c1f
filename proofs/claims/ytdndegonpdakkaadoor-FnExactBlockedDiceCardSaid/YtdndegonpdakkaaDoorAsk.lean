/- The contracts of asked states: boAsked, rowsUnder. -/
import Derived.Test.YtdndegonpdakkaaDoorStates
import Derived.Deep.RegionHeld3
import Derived.StillTailTactics
namespace Go.Proofs.YtdndegonpdakkaaDoor
set_option maxRecDepth 100000
set_option linter.all false
open Go.RowKit

theorem cell_set3 {w : World} {b c o : Nat} {u0 u1 u2 : Value} (h : b ≠ c) : (((w.setCell ⟨b, 0, none⟩ u0).setCell ⟨b, 1, none⟩ u1).setCell ⟨b, 2, none⟩ u2).cell? ⟨c, o, none⟩ = w.cell? ⟨c, o, none⟩ := by
  have hd : ∀ j, (⟨b, j, none⟩ : Addr) ≠ ⟨c, o, none⟩ := fun j e => h (by injection e)
  rw [World.cell?_setCell_other _ _ _ _ (hd 2), World.cell?_setCell_other _ _ _ _ (hd 1), World.cell?_setCell_other _ _ _ _ (hd 0)]

/-! ### rowsUnder -/
end Go.Proofs.YtdndegonpdakkaaDoor
