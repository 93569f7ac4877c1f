/-
  DERIVED. GIVEN WITH THE SEED: THE CARDS: each row of YtballmdcalfdnaaDoorRows.lean that lists a variable, with what it lists TIED to the program's text (the seventh form; the later family's looks); each row that meets fmt, with fmt's text TOLD by the authors' own Lean function (tested against real Go, not proved from fmt's source: count such statements apart). THE CARD IS WHAT COUNTS. Prove the row's statement (the work); the ties are given (YtballmdcalfdnaaDoorTie.lean); close each card by the builder's one call (the guide's Derived/Test/ToyasCard.lean, 'card_holds'). Laid BY PROGRAM, IN A SANDBOX (cutbox-door.mjs). By AI agents, Wed Nov 11 2026. No macro, syntax, notation, axiom, sorry.
-/
import Derived.Test.YtballmdcalfdnaaDoorRows
import GoSem.ClaimSeven
namespace Go.Proofs.YtballmdcalfdnaaDoor
namespace Rows

/-- THE TIED CARD OF 'laws.FnExactRollState'. -/
def fnExactRollStateCard : Claim7 := { stood := { row := fnExactRollStateRow, standIns := [], harness := (true, "2ad6fe7cebd9a9a1f831e3680f094a7762fbb8db27c38eebd9dc241b724d53e6"), looks := false }, kinds := [], alts := [], laidByText := true, laidKinds := [.data, .pinned], laidTests := true, laidLooks := .later }
def FnExactRollStateCardSaid : Prop := Claim7.holds Tryd.pinned (.plain (OpenSpec.ofChange fnExactRollStateSpec)) fnExactRollStateCard

/-- THE TIED CARD OF 'laws.FnExactRollAlong'. -/
def fnExactRollAlongCard : Claim7 := { stood := { row := fnExactRollAlongRow, standIns := [], harness := (true, "2ad6fe7cebd9a9a1f831e3680f094a7762fbb8db27c38eebd9dc241b724d53e6"), looks := false }, kinds := [], alts := [], laidByText := true, laidKinds := [.data, .pinned], laidTests := true, laidLooks := .later }
def FnExactRollAlongCardSaid : Prop := Claim7.holds Tryd.pinned (.plain (OpenSpec.ofChange fnExactRollAlongSpec)) fnExactRollAlongCard

/-- THE TIED CARD OF 'laws.FnExactTopsAlong'. -/
def fnExactTopsAlongCard : Claim7 := { stood := { row := fnExactTopsAlongRow, standIns := [], harness := (true, "2ad6fe7cebd9a9a1f831e3680f094a7762fbb8db27c38eebd9dc241b724d53e6"), looks := false }, kinds := [], alts := [], laidByText := true, laidKinds := [.data, .pinned], laidTests := true, laidLooks := .later }
def FnExactTopsAlongCardSaid : Prop := Claim7.holds Tryd.pinned (.plain (OpenSpec.ofChange fnExactTopsAlongSpec)) fnExactTopsAlongCard

/-- THE TIED CARD OF 'laws.FnExactSumOfTops'. -/
def fnExactSumOfTopsCard : Claim7 := { stood := { row := fnExactSumOfTopsRow, standIns := [], harness := (true, "2ad6fe7cebd9a9a1f831e3680f094a7762fbb8db27c38eebd9dc241b724d53e6"), looks := false }, kinds := [], alts := [], laidByText := true, laidKinds := [.data, .pinned], laidTests := true, laidLooks := .later }
def FnExactSumOfTopsCardSaid : Prop := Claim7.holds Tryd.pinned (.plain (OpenSpec.ofChange fnExactSumOfTopsSpec)) fnExactSumOfTopsCard

/-- THE TIED CARD OF 'laws.FnExactStatesAlong'. -/
def fnExactStatesAlongCard : Claim7 := { stood := { row := fnExactStatesAlongRow, standIns := [], harness := (true, "2ad6fe7cebd9a9a1f831e3680f094a7762fbb8db27c38eebd9dc241b724d53e6"), looks := false }, kinds := [], alts := [], laidByText := true, laidKinds := [.data, .pinned], laidTests := true, laidLooks := .later }
def FnExactStatesAlongCardSaid : Prop := Claim7.holds Tryd.pinned (.plain (OpenSpec.ofChange fnExactStatesAlongSpec)) fnExactStatesAlongCard

/-- THE TIED CARD OF 'laws.FnExactFirstStop'. -/
def fnExactFirstStopCard : Claim7 := { stood := { row := fnExactFirstStopRow, standIns := [], harness := (true, "2ad6fe7cebd9a9a1f831e3680f094a7762fbb8db27c38eebd9dc241b724d53e6"), looks := false }, kinds := [], alts := [], laidByText := true, laidKinds := [.data, .pinned], laidTests := true, laidLooks := .later }
def FnExactFirstStopCardSaid : Prop := Claim7.holds Tryd.pinned (.plain (OpenSpec.ofChange fnExactFirstStopSpec)) fnExactFirstStopCard

/-- THE TIED CARD OF 'laws.FnExactTurnState'. -/
def fnExactTurnStateCard : Claim7 := { stood := { row := fnExactTurnStateRow, standIns := [], harness := (true, "2ad6fe7cebd9a9a1f831e3680f094a7762fbb8db27c38eebd9dc241b724d53e6"), looks := false }, kinds := [], alts := [], laidByText := true, laidKinds := [.data, .pinned], laidTests := true, laidLooks := .later }
def FnExactTurnStateCardSaid : Prop := Claim7.holds Tryd.pinned (.plain (OpenSpec.ofChange fnExactTurnStateSpec)) fnExactTurnStateCard

/-- THE SECOND FORM's CARD OF 'laws.FnExactRollState'. -/
def fnExactRollStateUptoCard : Claim7 := { stood := { row := fnExactRollStateUptoRow, standIns := [], harness := (true, "2ad6fe7cebd9a9a1f831e3680f094a7762fbb8db27c38eebd9dc241b724d53e6"), looks := false }, kinds := [], alts := [], laidByText := true, laidKinds := [.data, .pinned], laidTests := true, laidLooks := .later }
def FnExactRollStateUptoCardSaid : Prop := Claim7.holds Tryd.pinned (.plain (OpenSpec.upto fnExactRollStateSpec)) fnExactRollStateUptoCard

/-- THE SECOND FORM's CARD OF 'laws.FnExactRollAlong'. -/
def fnExactRollAlongUptoCard : Claim7 := { stood := { row := fnExactRollAlongUptoRow, standIns := [], harness := (true, "2ad6fe7cebd9a9a1f831e3680f094a7762fbb8db27c38eebd9dc241b724d53e6"), looks := false }, kinds := [], alts := [], laidByText := true, laidKinds := [.data, .pinned], laidTests := true, laidLooks := .later }
def FnExactRollAlongUptoCardSaid : Prop := Claim7.holds Tryd.pinned (.plain (OpenSpec.upto fnExactRollAlongSpec)) fnExactRollAlongUptoCard

/-- THE SECOND FORM's CARD OF 'laws.FnExactTopsAlong'. -/
def fnExactTopsAlongUptoCard : Claim7 := { stood := { row := fnExactTopsAlongUptoRow, standIns := [], harness := (true, "2ad6fe7cebd9a9a1f831e3680f094a7762fbb8db27c38eebd9dc241b724d53e6"), looks := false }, kinds := [], alts := [], laidByText := true, laidKinds := [.data, .pinned], laidTests := true, laidLooks := .later }
def FnExactTopsAlongUptoCardSaid : Prop := Claim7.holds Tryd.pinned (.plain (OpenSpec.upto fnExactTopsAlongSpec)) fnExactTopsAlongUptoCard

/-- THE SECOND FORM's CARD OF 'laws.FnExactSumOfTops'. -/
def fnExactSumOfTopsUptoCard : Claim7 := { stood := { row := fnExactSumOfTopsUptoRow, standIns := [], harness := (true, "2ad6fe7cebd9a9a1f831e3680f094a7762fbb8db27c38eebd9dc241b724d53e6"), looks := false }, kinds := [], alts := [], laidByText := true, laidKinds := [.data, .pinned], laidTests := true, laidLooks := .later }
def FnExactSumOfTopsUptoCardSaid : Prop := Claim7.holds Tryd.pinned (.plain (OpenSpec.upto fnExactSumOfTopsSpec)) fnExactSumOfTopsUptoCard

/-- THE SECOND FORM's CARD OF 'laws.FnExactStatesAlong'. -/
def fnExactStatesAlongUptoCard : Claim7 := { stood := { row := fnExactStatesAlongUptoRow, standIns := [], harness := (true, "2ad6fe7cebd9a9a1f831e3680f094a7762fbb8db27c38eebd9dc241b724d53e6"), looks := false }, kinds := [], alts := [], laidByText := true, laidKinds := [.data, .pinned], laidTests := true, laidLooks := .later }
def FnExactStatesAlongUptoCardSaid : Prop := Claim7.holds Tryd.pinned (.plain (OpenSpec.upto fnExactStatesAlongSpec)) fnExactStatesAlongUptoCard

/-- THE SECOND FORM's CARD OF 'laws.FnExactFirstStop'. -/
def fnExactFirstStopUptoCard : Claim7 := { stood := { row := fnExactFirstStopUptoRow, standIns := [], harness := (true, "2ad6fe7cebd9a9a1f831e3680f094a7762fbb8db27c38eebd9dc241b724d53e6"), looks := false }, kinds := [], alts := [], laidByText := true, laidKinds := [.data, .pinned], laidTests := true, laidLooks := .later }
def FnExactFirstStopUptoCardSaid : Prop := Claim7.holds Tryd.pinned (.plain (OpenSpec.upto fnExactFirstStopSpec)) fnExactFirstStopUptoCard

/-- THE SECOND FORM's CARD OF 'laws.FnExactTurnState'. -/
def fnExactTurnStateUptoCard : Claim7 := { stood := { row := fnExactTurnStateUptoRow, standIns := [], harness := (true, "2ad6fe7cebd9a9a1f831e3680f094a7762fbb8db27c38eebd9dc241b724d53e6"), looks := false }, kinds := [], alts := [], laidByText := true, laidKinds := [.data, .pinned], laidTests := true, laidLooks := .later }
def FnExactTurnStateUptoCardSaid : Prop := Claim7.holds Tryd.pinned (.plain (OpenSpec.upto fnExactTurnStateSpec)) fnExactTurnStateUptoCard
end Rows
end Go.Proofs.YtballmdcalfdnaaDoor
