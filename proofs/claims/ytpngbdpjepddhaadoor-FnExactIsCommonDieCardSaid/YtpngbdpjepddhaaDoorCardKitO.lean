/- What the cards over the program's own table share. -/
import Derived.Test.YtpngbdpjepddhaaDoorCards
import Derived.Test.YtpngbdpjepddhaaDoorTie
import Derived.Test.YtpngbdpjepddhaaDoorOpen
import Derived.Test.YtpngbdpjepddhaaDoorWalksOP
import Derived.WalkKit
import Derived.ProofKit
import Derived.OpenShut
import Derived.Deep.DeepHandedRow
import Derived.SevenTiedAt
import Derived.Lib.LaidTab
namespace Go.Proofs.YtpngbdpjepddhaaDoor
set_option maxRecDepth 100000
set_option linter.all false
open Go.Joins Go.ChangeShapes Go.WideShapes Go.ChangeAt Go.RowKit Go.Deep

theorem gTab : Tryd.prog.globalNamed "loop.example/g01207/impl.oppositePlaces" = some 0 := by kernel_rfl
theorem gTabType : (Tryd.prog.globals[0]?).map (·.type) = some 37 := by kernel_rfl
theorem cellsTab : Tryd.prog.cellsOf 37 = 6 := by kernel_rfl
theorem cellsInt : Tryd.prog.cellsOf 3 = 1 := by kernel_rfl
/-- What the row's list gives: the table's cells. -/
theorem tab_of {W : World} {rest : List (String × DataW Unit)} (h : laidMet Tryd.prog (("loop.example/g01207/impl.oppositePlaces", Lib.tabData .i64 [5, 3, 4, 1, 2, 0]) :: rest) W) : Tab W := by
  have T := Lib.tabIs_of_head (P := Tryd.prog) (W := W) (rest := rest) gTab gTabType Tryd.underlying37 Tryd.underlying3 cellsInt cellsTab h
  have c0 := T.cell gTab 0 (by decide)
  have c1 := T.cell gTab 1 (by decide)
  have c2 := T.cell gTab 2 (by decide)
  have c3 := T.cell gTab 3 (by decide)
  have c4 := T.cell gTab 4 (by decide)
  have c5 := T.cell gTab 5 (by decide)
  refine ⟨?_, c0, c1, c2, c3, c4, c5⟩
  rcases Nat.lt_or_ge 0 W.heap.size with hl | hl
  · exact hl
  · simp [World.cell?, Array.getElem?_eq_none hl] at c0
/-- A world for the witness: the table holds what its initialiser lays. -/
noncomputable def laidWorld (os : Os) : World :=
  { World.holding Tryd.prog os ⟨#[], #[], []⟩ with heap := (World.holding Tryd.prog os ⟨#[], #[], []⟩).heap.modify 0 fun
      | .cells _ t frozen => .cells #[.int .i64 5, .int .i64 3, .int .i64 4, .int .i64 1, .int .i64 2, .int .i64 0] t frozen
      | o => o }
end Go.Proofs.YtpngbdpjepddhaaDoor
