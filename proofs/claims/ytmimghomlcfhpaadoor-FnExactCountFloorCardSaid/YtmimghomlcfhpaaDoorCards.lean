/-
  DERIVED. GIVEN WITH THE SEED: THE CARDS: each row of YtmimghomlcfhpaaDoorRows.lean that lists a variable, with what it lists TIED to the program's text (the seventh form; the later family's looks); each row that meets fmt, with fmt's text TOLD by the authors' own Lean function (tested against real Go, not proved from fmt's source: count such statements apart). THE CARD IS WHAT COUNTS. Prove the row's statement (the work); the ties are given (YtmimghomlcfhpaaDoorTie.lean); close each card by the builder's one call (the guide's Derived/Test/ToyasCard.lean, 'card_holds'). Laid BY PROGRAM, IN A SANDBOX (cutbox-door.mjs). By AI agents, Wed Nov 11 2026. No macro, syntax, notation, axiom, sorry.
-/
import Derived.Test.YtmimghomlcfhpaaDoorRows
import GoSem.ClaimSeven
namespace Go.Proofs.YtmimghomlcfhpaaDoor
namespace Rows

/-- THE TIED CARD OF 'laws.FnExactIsBoard'. -/
def fnExactIsBoardCard : Claim7 := { stood := { row := fnExactIsBoardRow, standIns := [], harness := (true, "25f5e9270e8e4bed266be7e7f72e19fb8c06bcd8668ab3a884dc842f7492c509"), looks := false }, kinds := [], alts := [], laidByText := true, laidKinds := [.data, .pinned], laidTests := true, laidLooks := .later }
def FnExactIsBoardCardSaid : Prop := Claim7.holds Tryd.pinned (.plain (OpenSpec.ofChange fnExactIsBoardSpec)) fnExactIsBoardCard

/-- THE TIED CARD OF 'laws.FnExactBoardSize'. -/
def fnExactBoardSizeCard : Claim7 := { stood := { row := fnExactBoardSizeRow, standIns := [], harness := (true, "25f5e9270e8e4bed266be7e7f72e19fb8c06bcd8668ab3a884dc842f7492c509"), looks := false }, kinds := [], alts := [], laidByText := true, laidKinds := [.data, .pinned], laidTests := true, laidLooks := .later }
def FnExactBoardSizeCardSaid : Prop := Claim7.holds Tryd.pinned (.plain (OpenSpec.ofChange fnExactBoardSizeSpec)) fnExactBoardSizeCard

/-- THE TIED CARD OF 'laws.FnExactIsFloor'. -/
def fnExactIsFloorCard : Claim7 := { stood := { row := fnExactIsFloorRow, standIns := [], harness := (true, "25f5e9270e8e4bed266be7e7f72e19fb8c06bcd8668ab3a884dc842f7492c509"), looks := false }, kinds := [], alts := [], laidByText := true, laidKinds := [.data, .pinned], laidTests := true, laidLooks := .later }
def FnExactIsFloorCardSaid : Prop := Claim7.holds Tryd.pinned (.plain (OpenSpec.ofChange fnExactIsFloorSpec)) fnExactIsFloorCard

/-- THE TIED CARD OF 'laws.FnExactCountFloor'. -/
def fnExactCountFloorCard : Claim7 := { stood := { row := fnExactCountFloorRow, standIns := [], harness := (true, "25f5e9270e8e4bed266be7e7f72e19fb8c06bcd8668ab3a884dc842f7492c509"), looks := false }, kinds := [], alts := [], laidByText := true, laidKinds := [.data, .pinned], laidTests := true, laidLooks := .later }
def FnExactCountFloorCardSaid : Prop := Claim7.holds Tryd.pinned (.plain (OpenSpec.ofChange fnExactCountFloorSpec)) fnExactCountFloorCard

/-- THE TIED CARD OF 'laws.FnExactIsState'. -/
def fnExactIsStateCard : Claim7 := { stood := { row := fnExactIsStateRow, standIns := [], harness := (true, "25f5e9270e8e4bed266be7e7f72e19fb8c06bcd8668ab3a884dc842f7492c509"), looks := false }, kinds := [], alts := [], laidByText := true, laidKinds := [.data, .pinned], laidTests := true, laidLooks := .later }
def FnExactIsStateCardSaid : Prop := Claim7.holds Tryd.pinned (.plain (OpenSpec.ofChange fnExactIsStateSpec)) fnExactIsStateCard

/-- THE SECOND FORM's CARD OF 'laws.FnExactIsBoard'. -/
def fnExactIsBoardUptoCard : Claim7 := { stood := { row := fnExactIsBoardUptoRow, standIns := [], harness := (true, "25f5e9270e8e4bed266be7e7f72e19fb8c06bcd8668ab3a884dc842f7492c509"), looks := false }, kinds := [], alts := [], laidByText := true, laidKinds := [.data, .pinned], laidTests := true, laidLooks := .later }
def FnExactIsBoardUptoCardSaid : Prop := Claim7.holds Tryd.pinned (.plain (OpenSpec.upto fnExactIsBoardSpec)) fnExactIsBoardUptoCard

/-- THE SECOND FORM's CARD OF 'laws.FnExactBoardSize'. -/
def fnExactBoardSizeUptoCard : Claim7 := { stood := { row := fnExactBoardSizeUptoRow, standIns := [], harness := (true, "25f5e9270e8e4bed266be7e7f72e19fb8c06bcd8668ab3a884dc842f7492c509"), looks := false }, kinds := [], alts := [], laidByText := true, laidKinds := [.data, .pinned], laidTests := true, laidLooks := .later }
def FnExactBoardSizeUptoCardSaid : Prop := Claim7.holds Tryd.pinned (.plain (OpenSpec.upto fnExactBoardSizeSpec)) fnExactBoardSizeUptoCard

/-- THE SECOND FORM's CARD OF 'laws.FnExactIsFloor'. -/
def fnExactIsFloorUptoCard : Claim7 := { stood := { row := fnExactIsFloorUptoRow, standIns := [], harness := (true, "25f5e9270e8e4bed266be7e7f72e19fb8c06bcd8668ab3a884dc842f7492c509"), looks := false }, kinds := [], alts := [], laidByText := true, laidKinds := [.data, .pinned], laidTests := true, laidLooks := .later }
def FnExactIsFloorUptoCardSaid : Prop := Claim7.holds Tryd.pinned (.plain (OpenSpec.upto fnExactIsFloorSpec)) fnExactIsFloorUptoCard

/-- THE SECOND FORM's CARD OF 'laws.FnExactCountFloor'. -/
def fnExactCountFloorUptoCard : Claim7 := { stood := { row := fnExactCountFloorUptoRow, standIns := [], harness := (true, "25f5e9270e8e4bed266be7e7f72e19fb8c06bcd8668ab3a884dc842f7492c509"), looks := false }, kinds := [], alts := [], laidByText := true, laidKinds := [.data, .pinned], laidTests := true, laidLooks := .later }
def FnExactCountFloorUptoCardSaid : Prop := Claim7.holds Tryd.pinned (.plain (OpenSpec.upto fnExactCountFloorSpec)) fnExactCountFloorUptoCard

/-- THE SECOND FORM's CARD OF 'laws.FnExactIsState'. -/
def fnExactIsStateUptoCard : Claim7 := { stood := { row := fnExactIsStateUptoRow, standIns := [], harness := (true, "25f5e9270e8e4bed266be7e7f72e19fb8c06bcd8668ab3a884dc842f7492c509"), looks := false }, kinds := [], alts := [], laidByText := true, laidKinds := [.data, .pinned], laidTests := true, laidLooks := .later }
def FnExactIsStateUptoCardSaid : Prop := Claim7.holds Tryd.pinned (.plain (OpenSpec.upto fnExactIsStateSpec)) fnExactIsStateUptoCard
end Rows
end Go.Proofs.YtmimghomlcfhpaaDoor
