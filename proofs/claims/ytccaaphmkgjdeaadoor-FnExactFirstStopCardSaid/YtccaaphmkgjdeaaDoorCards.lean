/-
  DERIVED. GIVEN WITH THE SEED: THE CARDS: each row of YtccaaphmkgjdeaaDoorRows.lean that lists a variable, with what it lists TIED to the program's text (the seventh form; the later family's looks); each row that meets fmt, with fmt's text TOLD by the authors' own Lean function (tested against real Go, not proved from fmt's source: count such statements apart). THE CARD IS WHAT COUNTS. Prove the row's statement (the work); the ties are given (YtccaaphmkgjdeaaDoorTie.lean); close each card by the builder's one call (the guide's Derived/Test/ToyasCard.lean, 'card_holds'). Laid BY PROGRAM, IN A SANDBOX (cutbox-door.mjs). By AI agents, Wed Nov 11 2026. No macro, syntax, notation, axiom, sorry.
-/
import Derived.Test.YtccaaphmkgjdeaaDoorRows
import GoSem.ClaimSeven
namespace Go.Proofs.YtccaaphmkgjdeaaDoor
namespace Rows

/-- THE TIED CARD OF 'laws.FnExactIsBoard'. -/
def fnExactIsBoardCard : Claim7 := { stood := { row := fnExactIsBoardRow, standIns := [], harness := (true, "8028c824f3bdc861c08669a7f743674941ea1b0602a753b57ef77794d59c3fba"), looks := false }, kinds := [], alts := [], laidByText := true, laidKinds := [.data, .pinned], laidTests := true, laidLooks := .later }
def FnExactIsBoardCardSaid : Prop := Claim7.holds Tryd.pinned (.plain (OpenSpec.ofChange fnExactIsBoardSpec)) fnExactIsBoardCard

/-- THE TIED CARD OF 'laws.FnExactBoardSize'. -/
def fnExactBoardSizeCard : Claim7 := { stood := { row := fnExactBoardSizeRow, standIns := [], harness := (true, "8028c824f3bdc861c08669a7f743674941ea1b0602a753b57ef77794d59c3fba"), looks := false }, kinds := [], alts := [], laidByText := true, laidKinds := [.data, .pinned], laidTests := true, laidLooks := .later }
def FnExactBoardSizeCardSaid : Prop := Claim7.holds Tryd.pinned (.plain (OpenSpec.ofChange fnExactBoardSizeSpec)) fnExactBoardSizeCard

/-- THE TIED CARD OF 'laws.FnExactIsFloor'. -/
def fnExactIsFloorCard : Claim7 := { stood := { row := fnExactIsFloorRow, standIns := [], harness := (true, "8028c824f3bdc861c08669a7f743674941ea1b0602a753b57ef77794d59c3fba"), looks := false }, kinds := [], alts := [], laidByText := true, laidKinds := [.data, .pinned], laidTests := true, laidLooks := .later }
def FnExactIsFloorCardSaid : Prop := Claim7.holds Tryd.pinned (.plain (OpenSpec.ofChange fnExactIsFloorSpec)) fnExactIsFloorCard

/-- THE TIED CARD OF 'laws.FnExactCountFloor'. -/
def fnExactCountFloorCard : Claim7 := { stood := { row := fnExactCountFloorRow, standIns := [], harness := (true, "8028c824f3bdc861c08669a7f743674941ea1b0602a753b57ef77794d59c3fba"), looks := false }, kinds := [], alts := [], laidByText := true, laidKinds := [.data, .pinned], laidTests := true, laidLooks := .later }
def FnExactCountFloorCardSaid : Prop := Claim7.holds Tryd.pinned (.plain (OpenSpec.ofChange fnExactCountFloorSpec)) fnExactCountFloorCard

/-- THE TIED CARD OF 'laws.FnExactIsState'. -/
def fnExactIsStateCard : Claim7 := { stood := { row := fnExactIsStateRow, standIns := [], harness := (true, "8028c824f3bdc861c08669a7f743674941ea1b0602a753b57ef77794d59c3fba"), looks := false }, kinds := [], alts := [], laidByText := true, laidKinds := [.data, .pinned], laidTests := true, laidLooks := .later }
def FnExactIsStateCardSaid : Prop := Claim7.holds Tryd.pinned (.plain (OpenSpec.ofChange fnExactIsStateSpec)) fnExactIsStateCard

/-- THE TIED CARD OF 'laws.FnExactRollState'. -/
def fnExactRollStateCard : Claim7 := { stood := { row := fnExactRollStateRow, standIns := [], harness := (true, "8028c824f3bdc861c08669a7f743674941ea1b0602a753b57ef77794d59c3fba"), looks := false }, kinds := [], alts := [], laidByText := true, laidKinds := [.data, .pinned], laidTests := true, laidLooks := .later }
def FnExactRollStateCardSaid : Prop := Claim7.holds Tryd.pinned (.plain (OpenSpec.ofChange fnExactRollStateSpec)) fnExactRollStateCard

/-- THE TIED CARD OF 'laws.FnExactCanRoll'. -/
def fnExactCanRollCard : Claim7 := { stood := { row := fnExactCanRollRow, standIns := [], harness := (true, "8028c824f3bdc861c08669a7f743674941ea1b0602a753b57ef77794d59c3fba"), looks := false }, kinds := [], alts := [], laidByText := true, laidKinds := [.data, .pinned], laidTests := true, laidLooks := .later }
def FnExactCanRollCardSaid : Prop := Claim7.holds Tryd.pinned (.plain (OpenSpec.ofChange fnExactCanRollSpec)) fnExactCanRollCard

/-- THE TIED CARD OF 'laws.FnExactRollAlong'. -/
def fnExactRollAlongCard : Claim7 := { stood := { row := fnExactRollAlongRow, standIns := [], harness := (true, "8028c824f3bdc861c08669a7f743674941ea1b0602a753b57ef77794d59c3fba"), looks := false }, kinds := [], alts := [], laidByText := true, laidKinds := [.data, .pinned], laidTests := true, laidLooks := .later }
def FnExactRollAlongCardSaid : Prop := Claim7.holds Tryd.pinned (.plain (OpenSpec.ofChange fnExactRollAlongSpec)) fnExactRollAlongCard

/-- THE TIED CARD OF 'laws.FnExactTopsAlong'. -/
def fnExactTopsAlongCard : Claim7 := { stood := { row := fnExactTopsAlongRow, standIns := [], harness := (true, "8028c824f3bdc861c08669a7f743674941ea1b0602a753b57ef77794d59c3fba"), looks := false }, kinds := [], alts := [], laidByText := true, laidKinds := [.data, .pinned], laidTests := true, laidLooks := .later }
def FnExactTopsAlongCardSaid : Prop := Claim7.holds Tryd.pinned (.plain (OpenSpec.ofChange fnExactTopsAlongSpec)) fnExactTopsAlongCard

/-- THE TIED CARD OF 'laws.FnExactSumOfTops'. -/
def fnExactSumOfTopsCard : Claim7 := { stood := { row := fnExactSumOfTopsRow, standIns := [], harness := (true, "8028c824f3bdc861c08669a7f743674941ea1b0602a753b57ef77794d59c3fba"), looks := false }, kinds := [], alts := [], laidByText := true, laidKinds := [.data, .pinned], laidTests := true, laidLooks := .later }
def FnExactSumOfTopsCardSaid : Prop := Claim7.holds Tryd.pinned (.plain (OpenSpec.ofChange fnExactSumOfTopsSpec)) fnExactSumOfTopsCard

/-- THE TIED CARD OF 'laws.FnExactStatesAlong'. -/
def fnExactStatesAlongCard : Claim7 := { stood := { row := fnExactStatesAlongRow, standIns := [], harness := (true, "8028c824f3bdc861c08669a7f743674941ea1b0602a753b57ef77794d59c3fba"), looks := false }, kinds := [], alts := [], laidByText := true, laidKinds := [.data, .pinned], laidTests := true, laidLooks := .later }
def FnExactStatesAlongCardSaid : Prop := Claim7.holds Tryd.pinned (.plain (OpenSpec.ofChange fnExactStatesAlongSpec)) fnExactStatesAlongCard

/-- THE TIED CARD OF 'laws.FnExactFirstStop'. -/
def fnExactFirstStopCard : Claim7 := { stood := { row := fnExactFirstStopRow, standIns := [], harness := (true, "8028c824f3bdc861c08669a7f743674941ea1b0602a753b57ef77794d59c3fba"), looks := false }, kinds := [], alts := [], laidByText := true, laidKinds := [.data, .pinned], laidTests := true, laidLooks := .later }
def FnExactFirstStopCardSaid : Prop := Claim7.holds Tryd.pinned (.plain (OpenSpec.ofChange fnExactFirstStopSpec)) fnExactFirstStopCard

/-- THE SECOND FORM's CARD OF 'laws.FnExactIsBoard'. -/
def fnExactIsBoardUptoCard : Claim7 := { stood := { row := fnExactIsBoardUptoRow, standIns := [], harness := (true, "8028c824f3bdc861c08669a7f743674941ea1b0602a753b57ef77794d59c3fba"), looks := false }, kinds := [], alts := [], laidByText := true, laidKinds := [.data, .pinned], laidTests := true, laidLooks := .later }
def FnExactIsBoardUptoCardSaid : Prop := Claim7.holds Tryd.pinned (.plain (OpenSpec.upto fnExactIsBoardSpec)) fnExactIsBoardUptoCard

/-- THE SECOND FORM's CARD OF 'laws.FnExactBoardSize'. -/
def fnExactBoardSizeUptoCard : Claim7 := { stood := { row := fnExactBoardSizeUptoRow, standIns := [], harness := (true, "8028c824f3bdc861c08669a7f743674941ea1b0602a753b57ef77794d59c3fba"), looks := false }, kinds := [], alts := [], laidByText := true, laidKinds := [.data, .pinned], laidTests := true, laidLooks := .later }
def FnExactBoardSizeUptoCardSaid : Prop := Claim7.holds Tryd.pinned (.plain (OpenSpec.upto fnExactBoardSizeSpec)) fnExactBoardSizeUptoCard

/-- THE SECOND FORM's CARD OF 'laws.FnExactIsFloor'. -/
def fnExactIsFloorUptoCard : Claim7 := { stood := { row := fnExactIsFloorUptoRow, standIns := [], harness := (true, "8028c824f3bdc861c08669a7f743674941ea1b0602a753b57ef77794d59c3fba"), looks := false }, kinds := [], alts := [], laidByText := true, laidKinds := [.data, .pinned], laidTests := true, laidLooks := .later }
def FnExactIsFloorUptoCardSaid : Prop := Claim7.holds Tryd.pinned (.plain (OpenSpec.upto fnExactIsFloorSpec)) fnExactIsFloorUptoCard

/-- THE SECOND FORM's CARD OF 'laws.FnExactCountFloor'. -/
def fnExactCountFloorUptoCard : Claim7 := { stood := { row := fnExactCountFloorUptoRow, standIns := [], harness := (true, "8028c824f3bdc861c08669a7f743674941ea1b0602a753b57ef77794d59c3fba"), looks := false }, kinds := [], alts := [], laidByText := true, laidKinds := [.data, .pinned], laidTests := true, laidLooks := .later }
def FnExactCountFloorUptoCardSaid : Prop := Claim7.holds Tryd.pinned (.plain (OpenSpec.upto fnExactCountFloorSpec)) fnExactCountFloorUptoCard

/-- THE SECOND FORM's CARD OF 'laws.FnExactIsState'. -/
def fnExactIsStateUptoCard : Claim7 := { stood := { row := fnExactIsStateUptoRow, standIns := [], harness := (true, "8028c824f3bdc861c08669a7f743674941ea1b0602a753b57ef77794d59c3fba"), looks := false }, kinds := [], alts := [], laidByText := true, laidKinds := [.data, .pinned], laidTests := true, laidLooks := .later }
def FnExactIsStateUptoCardSaid : Prop := Claim7.holds Tryd.pinned (.plain (OpenSpec.upto fnExactIsStateSpec)) fnExactIsStateUptoCard

/-- THE SECOND FORM's CARD OF 'laws.FnExactRollState'. -/
def fnExactRollStateUptoCard : Claim7 := { stood := { row := fnExactRollStateUptoRow, standIns := [], harness := (true, "8028c824f3bdc861c08669a7f743674941ea1b0602a753b57ef77794d59c3fba"), looks := false }, kinds := [], alts := [], laidByText := true, laidKinds := [.data, .pinned], laidTests := true, laidLooks := .later }
def FnExactRollStateUptoCardSaid : Prop := Claim7.holds Tryd.pinned (.plain (OpenSpec.upto fnExactRollStateSpec)) fnExactRollStateUptoCard

/-- THE SECOND FORM's CARD OF 'laws.FnExactCanRoll'. -/
def fnExactCanRollUptoCard : Claim7 := { stood := { row := fnExactCanRollUptoRow, standIns := [], harness := (true, "8028c824f3bdc861c08669a7f743674941ea1b0602a753b57ef77794d59c3fba"), looks := false }, kinds := [], alts := [], laidByText := true, laidKinds := [.data, .pinned], laidTests := true, laidLooks := .later }
def FnExactCanRollUptoCardSaid : Prop := Claim7.holds Tryd.pinned (.plain (OpenSpec.upto fnExactCanRollSpec)) fnExactCanRollUptoCard

/-- THE SECOND FORM's CARD OF 'laws.FnExactRollAlong'. -/
def fnExactRollAlongUptoCard : Claim7 := { stood := { row := fnExactRollAlongUptoRow, standIns := [], harness := (true, "8028c824f3bdc861c08669a7f743674941ea1b0602a753b57ef77794d59c3fba"), looks := false }, kinds := [], alts := [], laidByText := true, laidKinds := [.data, .pinned], laidTests := true, laidLooks := .later }
def FnExactRollAlongUptoCardSaid : Prop := Claim7.holds Tryd.pinned (.plain (OpenSpec.upto fnExactRollAlongSpec)) fnExactRollAlongUptoCard

/-- THE SECOND FORM's CARD OF 'laws.FnExactTopsAlong'. -/
def fnExactTopsAlongUptoCard : Claim7 := { stood := { row := fnExactTopsAlongUptoRow, standIns := [], harness := (true, "8028c824f3bdc861c08669a7f743674941ea1b0602a753b57ef77794d59c3fba"), looks := false }, kinds := [], alts := [], laidByText := true, laidKinds := [.data, .pinned], laidTests := true, laidLooks := .later }
def FnExactTopsAlongUptoCardSaid : Prop := Claim7.holds Tryd.pinned (.plain (OpenSpec.upto fnExactTopsAlongSpec)) fnExactTopsAlongUptoCard

/-- THE SECOND FORM's CARD OF 'laws.FnExactSumOfTops'. -/
def fnExactSumOfTopsUptoCard : Claim7 := { stood := { row := fnExactSumOfTopsUptoRow, standIns := [], harness := (true, "8028c824f3bdc861c08669a7f743674941ea1b0602a753b57ef77794d59c3fba"), looks := false }, kinds := [], alts := [], laidByText := true, laidKinds := [.data, .pinned], laidTests := true, laidLooks := .later }
def FnExactSumOfTopsUptoCardSaid : Prop := Claim7.holds Tryd.pinned (.plain (OpenSpec.upto fnExactSumOfTopsSpec)) fnExactSumOfTopsUptoCard

/-- THE SECOND FORM's CARD OF 'laws.FnExactStatesAlong'. -/
def fnExactStatesAlongUptoCard : Claim7 := { stood := { row := fnExactStatesAlongUptoRow, standIns := [], harness := (true, "8028c824f3bdc861c08669a7f743674941ea1b0602a753b57ef77794d59c3fba"), looks := false }, kinds := [], alts := [], laidByText := true, laidKinds := [.data, .pinned], laidTests := true, laidLooks := .later }
def FnExactStatesAlongUptoCardSaid : Prop := Claim7.holds Tryd.pinned (.plain (OpenSpec.upto fnExactStatesAlongSpec)) fnExactStatesAlongUptoCard

/-- THE SECOND FORM's CARD OF 'laws.FnExactFirstStop'. -/
def fnExactFirstStopUptoCard : Claim7 := { stood := { row := fnExactFirstStopUptoRow, standIns := [], harness := (true, "8028c824f3bdc861c08669a7f743674941ea1b0602a753b57ef77794d59c3fba"), looks := false }, kinds := [], alts := [], laidByText := true, laidKinds := [.data, .pinned], laidTests := true, laidLooks := .later }
def FnExactFirstStopUptoCardSaid : Prop := Claim7.holds Tryd.pinned (.plain (OpenSpec.upto fnExactFirstStopSpec)) fnExactFirstStopUptoCard
end Rows
end Go.Proofs.YtccaaphmkgjdeaaDoor
