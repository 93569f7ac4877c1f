/-
  DERIVED. GIVEN WITH THE SEED: THE CARDS: each row of YtlbhlnhhiacbnaaDoorRows.lean that lists a variable, with what it lists TIED to the program's text (the seventh form; the later family's looks); each row that meets fmt, with fmt's text TOLD by the authors' own Lean function (tested against real Go, not proved from fmt's source: count such statements apart). THE CARD IS WHAT COUNTS. Prove the row's statement (the work); the ties are given (YtlbhlnhhiacbnaaDoorTie.lean); close each card by the builder's one call (the guide's Derived/Test/ToyasCard.lean, 'card_holds'). Laid BY PROGRAM, IN A SANDBOX (cutbox-door.mjs). By AI agents, Wed Nov 11 2026. No macro, syntax, notation, axiom, sorry.
-/
import Derived.Test.YtlbhlnhhiacbnaaDoorRows
import GoSem.ClaimSeven
namespace Go.Proofs.YtlbhlnhhiacbnaaDoor
namespace Rows

/-- THE TIED CARD OF 'laws.FnExactIsFloor'. -/
def fnExactIsFloorCard : Claim7 := { stood := { row := fnExactIsFloorRow, standIns := [], harness := (true, "0082aa62ebebf4092f3822d033dc774b8c561d9df371f4027e139ecc2f281425"), looks := false }, kinds := [], alts := [], laidByText := true, laidKinds := [.data, .pinned], laidTests := true, laidLooks := .later }
def FnExactIsFloorCardSaid : Prop := Claim7.holds Tryd.pinned (.plain (OpenSpec.ofChange fnExactIsFloorSpec)) fnExactIsFloorCard

/-- THE TIED CARD OF 'laws.FnExactIsState'. -/
def fnExactIsStateCard : Claim7 := { stood := { row := fnExactIsStateRow, standIns := [], harness := (true, "0082aa62ebebf4092f3822d033dc774b8c561d9df371f4027e139ecc2f281425"), looks := false }, kinds := [], alts := [], laidByText := true, laidKinds := [.data, .pinned], laidTests := true, laidLooks := .later }
def FnExactIsStateCardSaid : Prop := Claim7.holds Tryd.pinned (.plain (OpenSpec.ofChange fnExactIsStateSpec)) fnExactIsStateCard

/-- THE TIED CARD OF 'laws.FnExactRollState'. -/
def fnExactRollStateCard : Claim7 := { stood := { row := fnExactRollStateRow, standIns := [], harness := (true, "0082aa62ebebf4092f3822d033dc774b8c561d9df371f4027e139ecc2f281425"), looks := false }, kinds := [], alts := [], laidByText := true, laidKinds := [.data, .pinned], laidTests := true, laidLooks := .later }
def FnExactRollStateCardSaid : Prop := Claim7.holds Tryd.pinned (.plain (OpenSpec.ofChange fnExactRollStateSpec)) fnExactRollStateCard

/-- THE TIED CARD OF 'laws.FnExactCanRoll'. -/
def fnExactCanRollCard : Claim7 := { stood := { row := fnExactCanRollRow, standIns := [], harness := (true, "0082aa62ebebf4092f3822d033dc774b8c561d9df371f4027e139ecc2f281425"), looks := false }, kinds := [], alts := [], laidByText := true, laidKinds := [.data, .pinned], laidTests := true, laidLooks := .later }
def FnExactCanRollCardSaid : Prop := Claim7.holds Tryd.pinned (.plain (OpenSpec.ofChange fnExactCanRollSpec)) fnExactCanRollCard

/-- THE TIED CARD OF 'laws.FnExactRollAlong'. -/
def fnExactRollAlongCard : Claim7 := { stood := { row := fnExactRollAlongRow, standIns := [], harness := (true, "0082aa62ebebf4092f3822d033dc774b8c561d9df371f4027e139ecc2f281425"), looks := false }, kinds := [], alts := [], laidByText := true, laidKinds := [.data, .pinned], laidTests := true, laidLooks := .later }
def FnExactRollAlongCardSaid : Prop := Claim7.holds Tryd.pinned (.plain (OpenSpec.ofChange fnExactRollAlongSpec)) fnExactRollAlongCard

/-- THE TIED CARD OF 'laws.FnExactTopsAlong'. -/
def fnExactTopsAlongCard : Claim7 := { stood := { row := fnExactTopsAlongRow, standIns := [], harness := (true, "0082aa62ebebf4092f3822d033dc774b8c561d9df371f4027e139ecc2f281425"), looks := false }, kinds := [], alts := [], laidByText := true, laidKinds := [.data, .pinned], laidTests := true, laidLooks := .later }
def FnExactTopsAlongCardSaid : Prop := Claim7.holds Tryd.pinned (.plain (OpenSpec.ofChange fnExactTopsAlongSpec)) fnExactTopsAlongCard

/-- THE TIED CARD OF 'laws.FnExactSumOfTops'. -/
def fnExactSumOfTopsCard : Claim7 := { stood := { row := fnExactSumOfTopsRow, standIns := [], harness := (true, "0082aa62ebebf4092f3822d033dc774b8c561d9df371f4027e139ecc2f281425"), looks := false }, kinds := [], alts := [], laidByText := true, laidKinds := [.data, .pinned], laidTests := true, laidLooks := .later }
def FnExactSumOfTopsCardSaid : Prop := Claim7.holds Tryd.pinned (.plain (OpenSpec.ofChange fnExactSumOfTopsSpec)) fnExactSumOfTopsCard

/-- THE TIED CARD OF 'laws.FnExactStatesAlong'. -/
def fnExactStatesAlongCard : Claim7 := { stood := { row := fnExactStatesAlongRow, standIns := [], harness := (true, "0082aa62ebebf4092f3822d033dc774b8c561d9df371f4027e139ecc2f281425"), looks := false }, kinds := [], alts := [], laidByText := true, laidKinds := [.data, .pinned], laidTests := true, laidLooks := .later }
def FnExactStatesAlongCardSaid : Prop := Claim7.holds Tryd.pinned (.plain (OpenSpec.ofChange fnExactStatesAlongSpec)) fnExactStatesAlongCard

/-- THE TIED CARD OF 'laws.FnExactFirstStop'. -/
def fnExactFirstStopCard : Claim7 := { stood := { row := fnExactFirstStopRow, standIns := [], harness := (true, "0082aa62ebebf4092f3822d033dc774b8c561d9df371f4027e139ecc2f281425"), looks := false }, kinds := [], alts := [], laidByText := true, laidKinds := [.data, .pinned], laidTests := true, laidLooks := .later }
def FnExactFirstStopCardSaid : Prop := Claim7.holds Tryd.pinned (.plain (OpenSpec.ofChange fnExactFirstStopSpec)) fnExactFirstStopCard

/-- THE TIED CARD OF 'laws.FnExactTurnState'. -/
def fnExactTurnStateCard : Claim7 := { stood := { row := fnExactTurnStateRow, standIns := [], harness := (true, "0082aa62ebebf4092f3822d033dc774b8c561d9df371f4027e139ecc2f281425"), looks := false }, kinds := [], alts := [], laidByText := true, laidKinds := [.data, .pinned], laidTests := true, laidLooks := .later }
def FnExactTurnStateCardSaid : Prop := Claim7.holds Tryd.pinned (.plain (OpenSpec.ofChange fnExactTurnStateSpec)) fnExactTurnStateCard

/-- THE TIED CARD OF 'laws.FnExactTurnBoard'. -/
def fnExactTurnBoardCard : Claim7 := { stood := { row := fnExactTurnBoardRow, standIns := [], harness := (true, "0082aa62ebebf4092f3822d033dc774b8c561d9df371f4027e139ecc2f281425"), looks := false }, kinds := [], alts := [], laidByText := true, laidKinds := [.data, .pinned], laidTests := true, laidLooks := .later }
def FnExactTurnBoardCardSaid : Prop := Claim7.holds Tryd.pinned (.plain (OpenSpec.ofChange fnExactTurnBoardSpec)) fnExactTurnBoardCard

/-- THE SECOND FORM's CARD OF 'laws.FnExactIsFloor'. -/
def fnExactIsFloorUptoCard : Claim7 := { stood := { row := fnExactIsFloorUptoRow, standIns := [], harness := (true, "0082aa62ebebf4092f3822d033dc774b8c561d9df371f4027e139ecc2f281425"), looks := false }, kinds := [], alts := [], laidByText := true, laidKinds := [.data, .pinned], laidTests := true, laidLooks := .later }
def FnExactIsFloorUptoCardSaid : Prop := Claim7.holds Tryd.pinned (.plain (OpenSpec.upto fnExactIsFloorSpec)) fnExactIsFloorUptoCard

/-- THE SECOND FORM's CARD OF 'laws.FnExactIsState'. -/
def fnExactIsStateUptoCard : Claim7 := { stood := { row := fnExactIsStateUptoRow, standIns := [], harness := (true, "0082aa62ebebf4092f3822d033dc774b8c561d9df371f4027e139ecc2f281425"), looks := false }, kinds := [], alts := [], laidByText := true, laidKinds := [.data, .pinned], laidTests := true, laidLooks := .later }
def FnExactIsStateUptoCardSaid : Prop := Claim7.holds Tryd.pinned (.plain (OpenSpec.upto fnExactIsStateSpec)) fnExactIsStateUptoCard

/-- THE SECOND FORM's CARD OF 'laws.FnExactRollState'. -/
def fnExactRollStateUptoCard : Claim7 := { stood := { row := fnExactRollStateUptoRow, standIns := [], harness := (true, "0082aa62ebebf4092f3822d033dc774b8c561d9df371f4027e139ecc2f281425"), looks := false }, kinds := [], alts := [], laidByText := true, laidKinds := [.data, .pinned], laidTests := true, laidLooks := .later }
def FnExactRollStateUptoCardSaid : Prop := Claim7.holds Tryd.pinned (.plain (OpenSpec.upto fnExactRollStateSpec)) fnExactRollStateUptoCard

/-- THE SECOND FORM's CARD OF 'laws.FnExactCanRoll'. -/
def fnExactCanRollUptoCard : Claim7 := { stood := { row := fnExactCanRollUptoRow, standIns := [], harness := (true, "0082aa62ebebf4092f3822d033dc774b8c561d9df371f4027e139ecc2f281425"), looks := false }, kinds := [], alts := [], laidByText := true, laidKinds := [.data, .pinned], laidTests := true, laidLooks := .later }
def FnExactCanRollUptoCardSaid : Prop := Claim7.holds Tryd.pinned (.plain (OpenSpec.upto fnExactCanRollSpec)) fnExactCanRollUptoCard

/-- THE SECOND FORM's CARD OF 'laws.FnExactRollAlong'. -/
def fnExactRollAlongUptoCard : Claim7 := { stood := { row := fnExactRollAlongUptoRow, standIns := [], harness := (true, "0082aa62ebebf4092f3822d033dc774b8c561d9df371f4027e139ecc2f281425"), looks := false }, kinds := [], alts := [], laidByText := true, laidKinds := [.data, .pinned], laidTests := true, laidLooks := .later }
def FnExactRollAlongUptoCardSaid : Prop := Claim7.holds Tryd.pinned (.plain (OpenSpec.upto fnExactRollAlongSpec)) fnExactRollAlongUptoCard

/-- THE SECOND FORM's CARD OF 'laws.FnExactTopsAlong'. -/
def fnExactTopsAlongUptoCard : Claim7 := { stood := { row := fnExactTopsAlongUptoRow, standIns := [], harness := (true, "0082aa62ebebf4092f3822d033dc774b8c561d9df371f4027e139ecc2f281425"), looks := false }, kinds := [], alts := [], laidByText := true, laidKinds := [.data, .pinned], laidTests := true, laidLooks := .later }
def FnExactTopsAlongUptoCardSaid : Prop := Claim7.holds Tryd.pinned (.plain (OpenSpec.upto fnExactTopsAlongSpec)) fnExactTopsAlongUptoCard

/-- THE SECOND FORM's CARD OF 'laws.FnExactSumOfTops'. -/
def fnExactSumOfTopsUptoCard : Claim7 := { stood := { row := fnExactSumOfTopsUptoRow, standIns := [], harness := (true, "0082aa62ebebf4092f3822d033dc774b8c561d9df371f4027e139ecc2f281425"), looks := false }, kinds := [], alts := [], laidByText := true, laidKinds := [.data, .pinned], laidTests := true, laidLooks := .later }
def FnExactSumOfTopsUptoCardSaid : Prop := Claim7.holds Tryd.pinned (.plain (OpenSpec.upto fnExactSumOfTopsSpec)) fnExactSumOfTopsUptoCard

/-- THE SECOND FORM's CARD OF 'laws.FnExactStatesAlong'. -/
def fnExactStatesAlongUptoCard : Claim7 := { stood := { row := fnExactStatesAlongUptoRow, standIns := [], harness := (true, "0082aa62ebebf4092f3822d033dc774b8c561d9df371f4027e139ecc2f281425"), looks := false }, kinds := [], alts := [], laidByText := true, laidKinds := [.data, .pinned], laidTests := true, laidLooks := .later }
def FnExactStatesAlongUptoCardSaid : Prop := Claim7.holds Tryd.pinned (.plain (OpenSpec.upto fnExactStatesAlongSpec)) fnExactStatesAlongUptoCard

/-- THE SECOND FORM's CARD OF 'laws.FnExactFirstStop'. -/
def fnExactFirstStopUptoCard : Claim7 := { stood := { row := fnExactFirstStopUptoRow, standIns := [], harness := (true, "0082aa62ebebf4092f3822d033dc774b8c561d9df371f4027e139ecc2f281425"), looks := false }, kinds := [], alts := [], laidByText := true, laidKinds := [.data, .pinned], laidTests := true, laidLooks := .later }
def FnExactFirstStopUptoCardSaid : Prop := Claim7.holds Tryd.pinned (.plain (OpenSpec.upto fnExactFirstStopSpec)) fnExactFirstStopUptoCard

/-- THE SECOND FORM's CARD OF 'laws.FnExactTurnState'. -/
def fnExactTurnStateUptoCard : Claim7 := { stood := { row := fnExactTurnStateUptoRow, standIns := [], harness := (true, "0082aa62ebebf4092f3822d033dc774b8c561d9df371f4027e139ecc2f281425"), looks := false }, kinds := [], alts := [], laidByText := true, laidKinds := [.data, .pinned], laidTests := true, laidLooks := .later }
def FnExactTurnStateUptoCardSaid : Prop := Claim7.holds Tryd.pinned (.plain (OpenSpec.upto fnExactTurnStateSpec)) fnExactTurnStateUptoCard

/-- THE SECOND FORM's CARD OF 'laws.FnExactTurnBoard'. -/
def fnExactTurnBoardUptoCard : Claim7 := { stood := { row := fnExactTurnBoardUptoRow, standIns := [], harness := (true, "0082aa62ebebf4092f3822d033dc774b8c561d9df371f4027e139ecc2f281425"), looks := false }, kinds := [], alts := [], laidByText := true, laidKinds := [.data, .pinned], laidTests := true, laidLooks := .later }
def FnExactTurnBoardUptoCardSaid : Prop := Claim7.holds Tryd.pinned (.plain (OpenSpec.upto fnExactTurnBoardSpec)) fnExactTurnBoardUptoCard
end Rows
end Go.Proofs.YtlbhlnhhiacbnaaDoor
