/-
  DERIVED. GIVEN WITH THE SEED: THE CARDS: each row of YtoojoghgbmpbpaaDoorRows.lean that lists a variable, with what it lists TIED to the program's text (the seventh form; the later family's looks); each row that meets fmt, with fmt's text TOLD by the authors' own Lean function (tested against real Go, not proved from fmt's source: count such statements apart). THE CARD IS WHAT COUNTS. Prove the row's statement (the work); the ties are given (YtoojoghgbmpbpaaDoorTie.lean); close each card by the builder's one call (the guide's Derived/Test/ToyasCard.lean, 'card_holds'). Laid BY PROGRAM, IN A SANDBOX (cutbox-door.mjs). By AI agents, Wed Nov 11 2026. No macro, syntax, notation, axiom, sorry.
-/
import Derived.Test.YtoojoghgbmpbpaaDoorRows
import GoSem.ClaimSeven
namespace Go.Proofs.YtoojoghgbmpbpaaDoor
namespace Rows

/-- THE TIED CARD OF 'laws.FnExactIsGround'. -/
def fnExactIsGroundCard : Claim7 := { stood := { row := fnExactIsGroundRow, standIns := [], harness := (true, "f1d1689d01abcbcd0fdf577498d16e87e592e021d93f18e61ec175adb57e640d"), looks := false }, kinds := [], alts := [], laidByText := true, laidKinds := [.data, .pinned], laidTests := true, laidLooks := .later }
def FnExactIsGroundCardSaid : Prop := Claim7.holds Tryd.pinned (.plain (OpenSpec.ofChange fnExactIsGroundSpec)) fnExactIsGroundCard

/-- THE TIED CARD OF 'laws.FnExactIsBox'. -/
def fnExactIsBoxCard : Claim7 := { stood := { row := fnExactIsBoxRow, standIns := [], harness := (true, "f1d1689d01abcbcd0fdf577498d16e87e592e021d93f18e61ec175adb57e640d"), looks := false }, kinds := [], alts := [], laidByText := true, laidKinds := [.data, .pinned], laidTests := true, laidLooks := .later }
def FnExactIsBoxCardSaid : Prop := Claim7.holds Tryd.pinned (.plain (OpenSpec.ofChange fnExactIsBoxSpec)) fnExactIsBoxCard

/-- THE TIED CARD OF 'laws.FnExactRollBox'. -/
def fnExactRollBoxCard : Claim7 := { stood := { row := fnExactRollBoxRow, standIns := [], harness := (true, "f1d1689d01abcbcd0fdf577498d16e87e592e021d93f18e61ec175adb57e640d"), looks := false }, kinds := [], alts := [], laidByText := true, laidKinds := [.data, .pinned], laidTests := true, laidLooks := .later }
def FnExactRollBoxCardSaid : Prop := Claim7.holds Tryd.pinned (.plain (OpenSpec.ofChange fnExactRollBoxSpec)) fnExactRollBoxCard

/-- THE TIED CARD OF 'laws.FnExactBoxWays'. -/
def fnExactBoxWaysCard : Claim7 := { stood := { row := fnExactBoxWaysRow, standIns := [], harness := (true, "f1d1689d01abcbcd0fdf577498d16e87e592e021d93f18e61ec175adb57e640d"), looks := false }, kinds := [], alts := [], laidByText := true, laidKinds := [.data, .pinned], laidTests := true, laidLooks := .later }
def FnExactBoxWaysCardSaid : Prop := Claim7.holds Tryd.pinned (.plain (OpenSpec.ofChange fnExactBoxWaysSpec)) fnExactBoxWaysCard

/-- THE TIED CARD OF 'laws.FnExactRollBoxAlong'. -/
def fnExactRollBoxAlongCard : Claim7 := { stood := { row := fnExactRollBoxAlongRow, standIns := [], harness := (true, "f1d1689d01abcbcd0fdf577498d16e87e592e021d93f18e61ec175adb57e640d"), looks := false }, kinds := [], alts := [], laidByText := true, laidKinds := [.data, .pinned], laidTests := true, laidLooks := .later }
def FnExactRollBoxAlongCardSaid : Prop := Claim7.holds Tryd.pinned (.plain (OpenSpec.ofChange fnExactRollBoxAlongSpec)) fnExactRollBoxAlongCard

/-- THE TIED CARD OF 'laws.FnExactPosesAlong'. -/
def fnExactPosesAlongCard : Claim7 := { stood := { row := fnExactPosesAlongRow, standIns := [], harness := (true, "f1d1689d01abcbcd0fdf577498d16e87e592e021d93f18e61ec175adb57e640d"), looks := false }, kinds := [], alts := [], laidByText := true, laidKinds := [.data, .pinned], laidTests := true, laidLooks := .later }
def FnExactPosesAlongCardSaid : Prop := Claim7.holds Tryd.pinned (.plain (OpenSpec.ofChange fnExactPosesAlongSpec)) fnExactPosesAlongCard

/-- THE TIED CARD OF 'laws.FnExactCountBoxes'. -/
def fnExactCountBoxesCard : Claim7 := { stood := { row := fnExactCountBoxesRow, standIns := [], harness := (true, "f1d1689d01abcbcd0fdf577498d16e87e592e021d93f18e61ec175adb57e640d"), looks := false }, kinds := [], alts := [], laidByText := true, laidKinds := [.data, .pinned], laidTests := true, laidLooks := .later }
def FnExactCountBoxesCardSaid : Prop := Claim7.holds Tryd.pinned (.plain (OpenSpec.ofChange fnExactCountBoxesSpec)) fnExactCountBoxesCard

/-- THE TIED CARD OF 'laws.FnExactPlacesOnGround'. -/
def fnExactPlacesOnGroundCard : Claim7 := { stood := { row := fnExactPlacesOnGroundRow, standIns := [], harness := (true, "f1d1689d01abcbcd0fdf577498d16e87e592e021d93f18e61ec175adb57e640d"), looks := false }, kinds := [], alts := [], laidByText := true, laidKinds := [.data, .pinned], laidTests := true, laidLooks := .later }
def FnExactPlacesOnGroundCardSaid : Prop := Claim7.holds Tryd.pinned (.plain (OpenSpec.ofChange fnExactPlacesOnGroundSpec)) fnExactPlacesOnGroundCard

/-- THE TIED CARD OF 'laws.FnExactTurnBox'. -/
def fnExactTurnBoxCard : Claim7 := { stood := { row := fnExactTurnBoxRow, standIns := [], harness := (true, "f1d1689d01abcbcd0fdf577498d16e87e592e021d93f18e61ec175adb57e640d"), looks := false }, kinds := [], alts := [], laidByText := true, laidKinds := [.data, .pinned], laidTests := true, laidLooks := .later }
def FnExactTurnBoxCardSaid : Prop := Claim7.holds Tryd.pinned (.plain (OpenSpec.ofChange fnExactTurnBoxSpec)) fnExactTurnBoxCard

/-- THE TIED CARD OF 'laws.FnExactTurnGround'. -/
def fnExactTurnGroundCard : Claim7 := { stood := { row := fnExactTurnGroundRow, standIns := [], harness := (true, "f1d1689d01abcbcd0fdf577498d16e87e592e021d93f18e61ec175adb57e640d"), looks := false }, kinds := [], alts := [], laidByText := true, laidKinds := [.data, .pinned], laidTests := true, laidLooks := .later }
def FnExactTurnGroundCardSaid : Prop := Claim7.holds Tryd.pinned (.plain (OpenSpec.ofChange fnExactTurnGroundSpec)) fnExactTurnGroundCard

/-- THE SECOND FORM's CARD OF 'laws.FnExactIsGround'. -/
def fnExactIsGroundUptoCard : Claim7 := { stood := { row := fnExactIsGroundUptoRow, standIns := [], harness := (true, "f1d1689d01abcbcd0fdf577498d16e87e592e021d93f18e61ec175adb57e640d"), looks := false }, kinds := [], alts := [], laidByText := true, laidKinds := [.data, .pinned], laidTests := true, laidLooks := .later }
def FnExactIsGroundUptoCardSaid : Prop := Claim7.holds Tryd.pinned (.plain (OpenSpec.upto fnExactIsGroundSpec)) fnExactIsGroundUptoCard

/-- THE SECOND FORM's CARD OF 'laws.FnExactIsBox'. -/
def fnExactIsBoxUptoCard : Claim7 := { stood := { row := fnExactIsBoxUptoRow, standIns := [], harness := (true, "f1d1689d01abcbcd0fdf577498d16e87e592e021d93f18e61ec175adb57e640d"), looks := false }, kinds := [], alts := [], laidByText := true, laidKinds := [.data, .pinned], laidTests := true, laidLooks := .later }
def FnExactIsBoxUptoCardSaid : Prop := Claim7.holds Tryd.pinned (.plain (OpenSpec.upto fnExactIsBoxSpec)) fnExactIsBoxUptoCard

/-- THE SECOND FORM's CARD OF 'laws.FnExactRollBox'. -/
def fnExactRollBoxUptoCard : Claim7 := { stood := { row := fnExactRollBoxUptoRow, standIns := [], harness := (true, "f1d1689d01abcbcd0fdf577498d16e87e592e021d93f18e61ec175adb57e640d"), looks := false }, kinds := [], alts := [], laidByText := true, laidKinds := [.data, .pinned], laidTests := true, laidLooks := .later }
def FnExactRollBoxUptoCardSaid : Prop := Claim7.holds Tryd.pinned (.plain (OpenSpec.upto fnExactRollBoxSpec)) fnExactRollBoxUptoCard

/-- THE SECOND FORM's CARD OF 'laws.FnExactBoxWays'. -/
def fnExactBoxWaysUptoCard : Claim7 := { stood := { row := fnExactBoxWaysUptoRow, standIns := [], harness := (true, "f1d1689d01abcbcd0fdf577498d16e87e592e021d93f18e61ec175adb57e640d"), looks := false }, kinds := [], alts := [], laidByText := true, laidKinds := [.data, .pinned], laidTests := true, laidLooks := .later }
def FnExactBoxWaysUptoCardSaid : Prop := Claim7.holds Tryd.pinned (.plain (OpenSpec.upto fnExactBoxWaysSpec)) fnExactBoxWaysUptoCard

/-- THE SECOND FORM's CARD OF 'laws.FnExactRollBoxAlong'. -/
def fnExactRollBoxAlongUptoCard : Claim7 := { stood := { row := fnExactRollBoxAlongUptoRow, standIns := [], harness := (true, "f1d1689d01abcbcd0fdf577498d16e87e592e021d93f18e61ec175adb57e640d"), looks := false }, kinds := [], alts := [], laidByText := true, laidKinds := [.data, .pinned], laidTests := true, laidLooks := .later }
def FnExactRollBoxAlongUptoCardSaid : Prop := Claim7.holds Tryd.pinned (.plain (OpenSpec.upto fnExactRollBoxAlongSpec)) fnExactRollBoxAlongUptoCard

/-- THE SECOND FORM's CARD OF 'laws.FnExactPosesAlong'. -/
def fnExactPosesAlongUptoCard : Claim7 := { stood := { row := fnExactPosesAlongUptoRow, standIns := [], harness := (true, "f1d1689d01abcbcd0fdf577498d16e87e592e021d93f18e61ec175adb57e640d"), looks := false }, kinds := [], alts := [], laidByText := true, laidKinds := [.data, .pinned], laidTests := true, laidLooks := .later }
def FnExactPosesAlongUptoCardSaid : Prop := Claim7.holds Tryd.pinned (.plain (OpenSpec.upto fnExactPosesAlongSpec)) fnExactPosesAlongUptoCard

/-- THE SECOND FORM's CARD OF 'laws.FnExactCountBoxes'. -/
def fnExactCountBoxesUptoCard : Claim7 := { stood := { row := fnExactCountBoxesUptoRow, standIns := [], harness := (true, "f1d1689d01abcbcd0fdf577498d16e87e592e021d93f18e61ec175adb57e640d"), looks := false }, kinds := [], alts := [], laidByText := true, laidKinds := [.data, .pinned], laidTests := true, laidLooks := .later }
def FnExactCountBoxesUptoCardSaid : Prop := Claim7.holds Tryd.pinned (.plain (OpenSpec.upto fnExactCountBoxesSpec)) fnExactCountBoxesUptoCard

/-- THE SECOND FORM's CARD OF 'laws.FnExactPlacesOnGround'. -/
def fnExactPlacesOnGroundUptoCard : Claim7 := { stood := { row := fnExactPlacesOnGroundUptoRow, standIns := [], harness := (true, "f1d1689d01abcbcd0fdf577498d16e87e592e021d93f18e61ec175adb57e640d"), looks := false }, kinds := [], alts := [], laidByText := true, laidKinds := [.data, .pinned], laidTests := true, laidLooks := .later }
def FnExactPlacesOnGroundUptoCardSaid : Prop := Claim7.holds Tryd.pinned (.plain (OpenSpec.upto fnExactPlacesOnGroundSpec)) fnExactPlacesOnGroundUptoCard

/-- THE SECOND FORM's CARD OF 'laws.FnExactTurnBox'. -/
def fnExactTurnBoxUptoCard : Claim7 := { stood := { row := fnExactTurnBoxUptoRow, standIns := [], harness := (true, "f1d1689d01abcbcd0fdf577498d16e87e592e021d93f18e61ec175adb57e640d"), looks := false }, kinds := [], alts := [], laidByText := true, laidKinds := [.data, .pinned], laidTests := true, laidLooks := .later }
def FnExactTurnBoxUptoCardSaid : Prop := Claim7.holds Tryd.pinned (.plain (OpenSpec.upto fnExactTurnBoxSpec)) fnExactTurnBoxUptoCard

/-- THE SECOND FORM's CARD OF 'laws.FnExactTurnGround'. -/
def fnExactTurnGroundUptoCard : Claim7 := { stood := { row := fnExactTurnGroundUptoRow, standIns := [], harness := (true, "f1d1689d01abcbcd0fdf577498d16e87e592e021d93f18e61ec175adb57e640d"), looks := false }, kinds := [], alts := [], laidByText := true, laidKinds := [.data, .pinned], laidTests := true, laidLooks := .later }
def FnExactTurnGroundUptoCardSaid : Prop := Claim7.holds Tryd.pinned (.plain (OpenSpec.upto fnExactTurnGroundSpec)) fnExactTurnGroundUptoCard
end Rows
end Go.Proofs.YtoojoghgbmpbpaaDoor
