/-
  DERIVED. GIVEN WITH THE SEED: THE CARDS: each row of YtnpnhnkpnhcebaaDoorRows.lean that lists a variable, with what it lists TIED to the program's text (the seventh form; the later family's looks); each row that meets fmt, with fmt's text TOLD by the authors' own Lean function (tested against real Go, not proved from fmt's source: count such statements apart). THE CARD IS WHAT COUNTS. Prove the row's statement (the work); the ties are given (YtnpnhnkpnhcebaaDoorTie.lean); close each card by the builder's one call (the guide's Derived/Test/ToyasCard.lean, 'card_holds'). Laid BY PROGRAM, IN A SANDBOX (cutbox-door.mjs). By AI agents, Wed Nov 11 2026. No macro, syntax, notation, axiom, sorry.
-/
import Derived.Test.YtnpnhnkpnhcebaaDoorRows
import GoSem.ClaimSeven
namespace Go.Proofs.YtnpnhnkpnhcebaaDoor
namespace Rows

/-- THE TIED CARD OF 'laws.FnExactTurnBoard'. -/
def fnExactTurnBoardCard : Claim7 := { stood := { row := fnExactTurnBoardRow, standIns := [], harness := (true, "3d918da01afc0d774f8eaf81c61c329aad298a7eea634f9450d5dbc5aa5c3bd0"), looks := false }, kinds := [], alts := [], laidByText := true, laidKinds := [.data, .pinned], laidTests := true, laidLooks := .later }
def FnExactTurnBoardCardSaid : Prop := Claim7.holds Tryd.pinned (.plain (OpenSpec.ofChange fnExactTurnBoardSpec)) fnExactTurnBoardCard

/-- THE TIED CARD OF 'laws.FnExactIsLabelled'. -/
def fnExactIsLabelledCard : Claim7 := { stood := { row := fnExactIsLabelledRow, standIns := [], harness := (true, "3d918da01afc0d774f8eaf81c61c329aad298a7eea634f9450d5dbc5aa5c3bd0"), looks := false }, kinds := [], alts := [], laidByText := true, laidKinds := [.data, .pinned], laidTests := true, laidLooks := .later }
def FnExactIsLabelledCardSaid : Prop := Claim7.holds Tryd.pinned (.plain (OpenSpec.ofChange fnExactIsLabelledSpec)) fnExactIsLabelledCard

/-- THE TIED CARD OF 'laws.FnExactFloorOfLabels'. -/
def fnExactFloorOfLabelsCard : Claim7 := { stood := { row := fnExactFloorOfLabelsRow, standIns := [], harness := (true, "3d918da01afc0d774f8eaf81c61c329aad298a7eea634f9450d5dbc5aa5c3bd0"), looks := false }, kinds := [], alts := [], laidByText := true, laidKinds := [.data, .pinned], laidTests := true, laidLooks := .later }
def FnExactFloorOfLabelsCardSaid : Prop := Claim7.holds Tryd.pinned (.plain (OpenSpec.ofChange fnExactFloorOfLabelsSpec)) fnExactFloorOfLabelsCard

/-- THE TIED CARD OF 'laws.FnExactMatchesHere'. -/
def fnExactMatchesHereCard : Claim7 := { stood := { row := fnExactMatchesHereRow, standIns := [], harness := (true, "3d918da01afc0d774f8eaf81c61c329aad298a7eea634f9450d5dbc5aa5c3bd0"), looks := false }, kinds := [], alts := [], laidByText := true, laidKinds := [.data, .pinned], laidTests := true, laidLooks := .later }
def FnExactMatchesHereCardSaid : Prop := Claim7.holds Tryd.pinned (.plain (OpenSpec.ofChange fnExactMatchesHereSpec)) fnExactMatchesHereCard

/-- THE TIED CARD OF 'laws.FnExactTurnLabelled'. -/
def fnExactTurnLabelledCard : Claim7 := { stood := { row := fnExactTurnLabelledRow, standIns := [], harness := (true, "3d918da01afc0d774f8eaf81c61c329aad298a7eea634f9450d5dbc5aa5c3bd0"), looks := false }, kinds := [], alts := [], laidByText := true, laidKinds := [.data, .pinned], laidTests := true, laidLooks := .later }
def FnExactTurnLabelledCardSaid : Prop := Claim7.holds Tryd.pinned (.plain (OpenSpec.ofChange fnExactTurnLabelledSpec)) fnExactTurnLabelledCard

/-- THE SECOND FORM's CARD OF 'laws.FnExactTurnBoard'. -/
def fnExactTurnBoardUptoCard : Claim7 := { stood := { row := fnExactTurnBoardUptoRow, standIns := [], harness := (true, "3d918da01afc0d774f8eaf81c61c329aad298a7eea634f9450d5dbc5aa5c3bd0"), looks := false }, kinds := [], alts := [], laidByText := true, laidKinds := [.data, .pinned], laidTests := true, laidLooks := .later }
def FnExactTurnBoardUptoCardSaid : Prop := Claim7.holds Tryd.pinned (.plain (OpenSpec.upto fnExactTurnBoardSpec)) fnExactTurnBoardUptoCard

/-- THE SECOND FORM's CARD OF 'laws.FnExactIsLabelled'. -/
def fnExactIsLabelledUptoCard : Claim7 := { stood := { row := fnExactIsLabelledUptoRow, standIns := [], harness := (true, "3d918da01afc0d774f8eaf81c61c329aad298a7eea634f9450d5dbc5aa5c3bd0"), looks := false }, kinds := [], alts := [], laidByText := true, laidKinds := [.data, .pinned], laidTests := true, laidLooks := .later }
def FnExactIsLabelledUptoCardSaid : Prop := Claim7.holds Tryd.pinned (.plain (OpenSpec.upto fnExactIsLabelledSpec)) fnExactIsLabelledUptoCard

/-- THE SECOND FORM's CARD OF 'laws.FnExactFloorOfLabels'. -/
def fnExactFloorOfLabelsUptoCard : Claim7 := { stood := { row := fnExactFloorOfLabelsUptoRow, standIns := [], harness := (true, "3d918da01afc0d774f8eaf81c61c329aad298a7eea634f9450d5dbc5aa5c3bd0"), looks := false }, kinds := [], alts := [], laidByText := true, laidKinds := [.data, .pinned], laidTests := true, laidLooks := .later }
def FnExactFloorOfLabelsUptoCardSaid : Prop := Claim7.holds Tryd.pinned (.plain (OpenSpec.upto fnExactFloorOfLabelsSpec)) fnExactFloorOfLabelsUptoCard

/-- THE SECOND FORM's CARD OF 'laws.FnExactMatchesHere'. -/
def fnExactMatchesHereUptoCard : Claim7 := { stood := { row := fnExactMatchesHereUptoRow, standIns := [], harness := (true, "3d918da01afc0d774f8eaf81c61c329aad298a7eea634f9450d5dbc5aa5c3bd0"), looks := false }, kinds := [], alts := [], laidByText := true, laidKinds := [.data, .pinned], laidTests := true, laidLooks := .later }
def FnExactMatchesHereUptoCardSaid : Prop := Claim7.holds Tryd.pinned (.plain (OpenSpec.upto fnExactMatchesHereSpec)) fnExactMatchesHereUptoCard

/-- THE SECOND FORM's CARD OF 'laws.FnExactTurnLabelled'. -/
def fnExactTurnLabelledUptoCard : Claim7 := { stood := { row := fnExactTurnLabelledUptoRow, standIns := [], harness := (true, "3d918da01afc0d774f8eaf81c61c329aad298a7eea634f9450d5dbc5aa5c3bd0"), looks := false }, kinds := [], alts := [], laidByText := true, laidKinds := [.data, .pinned], laidTests := true, laidLooks := .later }
def FnExactTurnLabelledUptoCardSaid : Prop := Claim7.holds Tryd.pinned (.plain (OpenSpec.upto fnExactTurnLabelledSpec)) fnExactTurnLabelledUptoCard
end Rows
end Go.Proofs.YtnpnhnkpnhcebaaDoor
