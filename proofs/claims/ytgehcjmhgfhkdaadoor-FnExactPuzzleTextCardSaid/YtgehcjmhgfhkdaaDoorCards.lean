/-
  DERIVED. GIVEN WITH THE SEED: THE CARDS: each row of YtgehcjmhgfhkdaaDoorRows.lean that lists a variable, with what it lists TIED to the program's text (the seventh form; the later family's looks); each row that meets fmt, with fmt's text TOLD by the authors' own Lean function (tested against real Go, not proved from fmt's source: count such statements apart). THE CARD IS WHAT COUNTS. Prove the row's statement (the work); the ties are given (YtgehcjmhgfhkdaaDoorTie.lean); close each card by the builder's one call (the guide's Derived/Test/ToyasCard.lean, 'card_holds'). Laid BY PROGRAM, IN A SANDBOX (cutbox-door.mjs). By AI agents, Wed Nov 11 2026. No macro, syntax, notation, axiom, sorry.
-/
import Derived.Test.YtgehcjmhgfhkdaaDoorRows
import GoSem.ClaimSeven
namespace Go.Proofs.YtgehcjmhgfhkdaaDoor
namespace Rows

/-- THE TIED CARD OF 'laws.FnExactIsPuzzle'. -/
def fnExactIsPuzzleCard : Claim7 := { stood := { row := fnExactIsPuzzleRow, standIns := [], harness := (true, "d7f1ad9943fcd307db8d829b389940f6b88462ac37d94315f4da25a3cd23bc99"), looks := true }, kinds := [], alts := [], laidByText := true, laidKinds := [.data, .pinned], laidTests := true, laidLooks := .later }
def FnExactIsPuzzleCardSaid : Prop := Claim7.holds Tryd.pinned (.plain (OpenSpec.ofChange fnExactIsPuzzleSpec)) fnExactIsPuzzleCard

/-- THE TIED CARD OF 'laws.FnExactIsSolvedBy'. -/
def fnExactIsSolvedByCard : Claim7 := { stood := { row := fnExactIsSolvedByRow, standIns := [], harness := (true, "d7f1ad9943fcd307db8d829b389940f6b88462ac37d94315f4da25a3cd23bc99"), looks := true }, kinds := [], alts := [], laidByText := true, laidKinds := [.data, .pinned], laidTests := true, laidLooks := .later }
def FnExactIsSolvedByCardSaid : Prop := Claim7.holds Tryd.pinned (.plain (OpenSpec.ofChange fnExactIsSolvedBySpec)) fnExactIsSolvedByCard

/-- THE TIED CARD OF 'laws.FnExactReplayOf'. -/
def fnExactReplayOfCard : Claim7 := { stood := { row := fnExactReplayOfRow, standIns := [], harness := (true, "d7f1ad9943fcd307db8d829b389940f6b88462ac37d94315f4da25a3cd23bc99"), looks := true }, kinds := [], alts := [], laidByText := true, laidKinds := [.data, .pinned], laidTests := true, laidLooks := .later }
def FnExactReplayOfCardSaid : Prop := Claim7.holds Tryd.pinned (.plain (OpenSpec.ofChange fnExactReplayOfSpec)) fnExactReplayOfCard

/-- THE TIED CARD OF 'laws.FnExactFirstSolved'. -/
def fnExactFirstSolvedCard : Claim7 := { stood := { row := fnExactFirstSolvedRow, standIns := [], harness := (true, "d7f1ad9943fcd307db8d829b389940f6b88462ac37d94315f4da25a3cd23bc99"), looks := true }, kinds := [], alts := [], laidByText := true, laidKinds := [.data, .pinned], laidTests := true, laidLooks := .later }
def FnExactFirstSolvedCardSaid : Prop := Claim7.holds Tryd.pinned (.plain (OpenSpec.ofChange fnExactFirstSolvedSpec)) fnExactFirstSolvedCard

/-- THE TIED CARD OF 'laws.FnExactTurnPuzzle'. -/
def fnExactTurnPuzzleCard : Claim7 := { stood := { row := fnExactTurnPuzzleRow, standIns := [], harness := (true, "d7f1ad9943fcd307db8d829b389940f6b88462ac37d94315f4da25a3cd23bc99"), looks := true }, kinds := [], alts := [], laidByText := true, laidKinds := [.data, .pinned], laidTests := true, laidLooks := .later }
def FnExactTurnPuzzleCardSaid : Prop := Claim7.holds Tryd.pinned (.plain (OpenSpec.ofChange fnExactTurnPuzzleSpec)) fnExactTurnPuzzleCard

/-- THE TIED CARD OF 'laws.FnExactPuzzleText'. -/
def fnExactPuzzleTextCard : Claim7 := { stood := { row := fnExactPuzzleTextRow, standIns := [], harness := (true, "d7f1ad9943fcd307db8d829b389940f6b88462ac37d94315f4da25a3cd23bc99"), looks := true }, kinds := [], alts := [], laidByText := true, laidKinds := [.data, .data, .data, .data, .pinned], laidTests := true, laidLooks := .later }
def FnExactPuzzleTextCardSaid : Prop := Claim7.holds Tryd.pinned (.plain (OpenSpec.ofChange fnExactPuzzleTextSpec)) fnExactPuzzleTextCard

/-- THE TIED CARD OF 'laws.FnExactParsePuzzle'. -/
def fnExactParsePuzzleCard : Claim7 := { stood := { row := fnExactParsePuzzleRow, standIns := [], harness := (true, "d7f1ad9943fcd307db8d829b389940f6b88462ac37d94315f4da25a3cd23bc99"), looks := true }, kinds := [], alts := [], laidByText := true, laidKinds := [.data, .data, .data, .data, .sentinel, .sentinel, .pinned], laidTests := true, laidLooks := .later }
def FnExactParsePuzzleCardSaid : Prop := Claim7.holds Tryd.pinned (.plain (OpenSpec.ofChange fnExactParsePuzzleSpec)) fnExactParsePuzzleCard

/-- THE SECOND FORM's CARD OF 'laws.FnExactIsPuzzle'. -/
def fnExactIsPuzzleUptoCard : Claim7 := { stood := { row := fnExactIsPuzzleUptoRow, standIns := [], harness := (true, "d7f1ad9943fcd307db8d829b389940f6b88462ac37d94315f4da25a3cd23bc99"), looks := true }, kinds := [], alts := [], laidByText := true, laidKinds := [.data, .pinned], laidTests := true, laidLooks := .later }
def FnExactIsPuzzleUptoCardSaid : Prop := Claim7.holds Tryd.pinned (.plain (OpenSpec.upto fnExactIsPuzzleSpec)) fnExactIsPuzzleUptoCard

/-- THE SECOND FORM's CARD OF 'laws.FnExactIsSolvedBy'. -/
def fnExactIsSolvedByUptoCard : Claim7 := { stood := { row := fnExactIsSolvedByUptoRow, standIns := [], harness := (true, "d7f1ad9943fcd307db8d829b389940f6b88462ac37d94315f4da25a3cd23bc99"), looks := true }, kinds := [], alts := [], laidByText := true, laidKinds := [.data, .pinned], laidTests := true, laidLooks := .later }
def FnExactIsSolvedByUptoCardSaid : Prop := Claim7.holds Tryd.pinned (.plain (OpenSpec.upto fnExactIsSolvedBySpec)) fnExactIsSolvedByUptoCard

/-- THE SECOND FORM's CARD OF 'laws.FnExactReplayOf'. -/
def fnExactReplayOfUptoCard : Claim7 := { stood := { row := fnExactReplayOfUptoRow, standIns := [], harness := (true, "d7f1ad9943fcd307db8d829b389940f6b88462ac37d94315f4da25a3cd23bc99"), looks := true }, kinds := [], alts := [], laidByText := true, laidKinds := [.data, .pinned], laidTests := true, laidLooks := .later }
def FnExactReplayOfUptoCardSaid : Prop := Claim7.holds Tryd.pinned (.plain (OpenSpec.upto fnExactReplayOfSpec)) fnExactReplayOfUptoCard

/-- THE SECOND FORM's CARD OF 'laws.FnExactFirstSolved'. -/
def fnExactFirstSolvedUptoCard : Claim7 := { stood := { row := fnExactFirstSolvedUptoRow, standIns := [], harness := (true, "d7f1ad9943fcd307db8d829b389940f6b88462ac37d94315f4da25a3cd23bc99"), looks := true }, kinds := [], alts := [], laidByText := true, laidKinds := [.data, .pinned], laidTests := true, laidLooks := .later }
def FnExactFirstSolvedUptoCardSaid : Prop := Claim7.holds Tryd.pinned (.plain (OpenSpec.upto fnExactFirstSolvedSpec)) fnExactFirstSolvedUptoCard

/-- THE SECOND FORM's CARD OF 'laws.FnExactTurnPuzzle'. -/
def fnExactTurnPuzzleUptoCard : Claim7 := { stood := { row := fnExactTurnPuzzleUptoRow, standIns := [], harness := (true, "d7f1ad9943fcd307db8d829b389940f6b88462ac37d94315f4da25a3cd23bc99"), looks := true }, kinds := [], alts := [], laidByText := true, laidKinds := [.data, .pinned], laidTests := true, laidLooks := .later }
def FnExactTurnPuzzleUptoCardSaid : Prop := Claim7.holds Tryd.pinned (.plain (OpenSpec.upto fnExactTurnPuzzleSpec)) fnExactTurnPuzzleUptoCard

/-- THE SECOND FORM's CARD OF 'laws.FnExactPuzzleText'. -/
def fnExactPuzzleTextUptoCard : Claim7 := { stood := { row := fnExactPuzzleTextUptoRow, standIns := [], harness := (true, "d7f1ad9943fcd307db8d829b389940f6b88462ac37d94315f4da25a3cd23bc99"), looks := true }, kinds := [], alts := [], laidByText := true, laidKinds := [.data, .data, .data, .data, .pinned], laidTests := true, laidLooks := .later }
def FnExactPuzzleTextUptoCardSaid : Prop := Claim7.holds Tryd.pinned (.plain (OpenSpec.upto fnExactPuzzleTextSpec)) fnExactPuzzleTextUptoCard

/-- THE SECOND FORM's CARD OF 'laws.FnExactParsePuzzle'. -/
def fnExactParsePuzzleUptoCard : Claim7 := { stood := { row := fnExactParsePuzzleUptoRow, standIns := [], harness := (true, "d7f1ad9943fcd307db8d829b389940f6b88462ac37d94315f4da25a3cd23bc99"), looks := true }, kinds := [], alts := [], laidByText := true, laidKinds := [.data, .data, .data, .data, .sentinel, .sentinel, .pinned], laidTests := true, laidLooks := .later }
def FnExactParsePuzzleUptoCardSaid : Prop := Claim7.holds Tryd.pinned (.plain (OpenSpec.upto fnExactParsePuzzleSpec)) fnExactParsePuzzleUptoCard
end Rows
end Go.Proofs.YtgehcjmhgfhkdaaDoor
