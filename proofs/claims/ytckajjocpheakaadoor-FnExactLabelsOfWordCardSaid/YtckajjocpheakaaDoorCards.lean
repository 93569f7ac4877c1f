/-
  DERIVED. GIVEN WITH THE SEED: THE CARDS: each row of YtckajjocpheakaaDoorRows.lean that lists a variable, with what it lists TIED to the program's text (the seventh form; the later family's looks); each row that meets fmt, with fmt's text TOLD by the authors' own Lean function (tested against real Go, not proved from fmt's source: count such statements apart). THE CARD IS WHAT COUNTS. Prove the row's statement (the work); the ties are given (YtckajjocpheakaaDoorTie.lean); close each card by the builder's one call (the guide's Derived/Test/ToyasCard.lean, 'card_holds'). Laid BY PROGRAM, IN A SANDBOX (cutbox-door.mjs). By AI agents, Wed Nov 11 2026. No macro, syntax, notation, axiom, sorry.
-/
import Derived.Test.YtckajjocpheakaaDoorRows
import GoSem.ClaimSeven
namespace Go.Proofs.YtckajjocpheakaaDoor
namespace Rows

/-- THE TIED CARD OF 'laws.FnExactCanRoll'. -/
def fnExactCanRollCard : Claim7 := { stood := { row := fnExactCanRollRow, standIns := [], harness := (true, "ee12326f6596a0073da1e3292d745faa2be012dec51c674174ff8ecb978b833d"), looks := false }, kinds := [], alts := [], laidByText := true, laidKinds := [.data, .pinned], laidTests := true, laidLooks := .later }
def FnExactCanRollCardSaid : Prop := Claim7.holds Tryd.pinned (.plain (OpenSpec.ofChange fnExactCanRollSpec)) fnExactCanRollCard

/-- THE TIED CARD OF 'laws.FnExactTurnBoard'. -/
def fnExactTurnBoardCard : Claim7 := { stood := { row := fnExactTurnBoardRow, standIns := [], harness := (true, "ee12326f6596a0073da1e3292d745faa2be012dec51c674174ff8ecb978b833d"), looks := false }, kinds := [], alts := [], laidByText := true, laidKinds := [.data, .pinned], laidTests := true, laidLooks := .later }
def FnExactTurnBoardCardSaid : Prop := Claim7.holds Tryd.pinned (.plain (OpenSpec.ofChange fnExactTurnBoardSpec)) fnExactTurnBoardCard

/-- THE TIED CARD OF 'laws.FnExactIsLabelled'. -/
def fnExactIsLabelledCard : Claim7 := { stood := { row := fnExactIsLabelledRow, standIns := [], harness := (true, "ee12326f6596a0073da1e3292d745faa2be012dec51c674174ff8ecb978b833d"), looks := false }, kinds := [], alts := [], laidByText := true, laidKinds := [.data, .pinned], laidTests := true, laidLooks := .later }
def FnExactIsLabelledCardSaid : Prop := Claim7.holds Tryd.pinned (.plain (OpenSpec.ofChange fnExactIsLabelledSpec)) fnExactIsLabelledCard

/-- THE TIED CARD OF 'laws.FnExactPrintsAlong'. -/
def fnExactPrintsAlongCard : Claim7 := { stood := { row := fnExactPrintsAlongRow, standIns := [], harness := (true, "ee12326f6596a0073da1e3292d745faa2be012dec51c674174ff8ecb978b833d"), looks := false }, kinds := [], alts := [], laidByText := true, laidKinds := [.data, .pinned], laidTests := true, laidLooks := .later }
def FnExactPrintsAlongCardSaid : Prop := Claim7.holds Tryd.pinned (.plain (OpenSpec.ofChange fnExactPrintsAlongSpec)) fnExactPrintsAlongCard

/-- THE TIED CARD OF 'laws.FnExactLabelsOfWord'. -/
def fnExactLabelsOfWordCard : Claim7 := { stood := { row := fnExactLabelsOfWordRow, standIns := [], harness := (true, "ee12326f6596a0073da1e3292d745faa2be012dec51c674174ff8ecb978b833d"), looks := false }, kinds := [], alts := [], laidByText := true, laidKinds := [.data, .pinned], laidTests := true, laidLooks := .later }
def FnExactLabelsOfWordCardSaid : Prop := Claim7.holds Tryd.pinned (.plain (OpenSpec.ofChange fnExactLabelsOfWordSpec)) fnExactLabelsOfWordCard

/-- THE TIED CARD OF 'laws.FnExactFloorOfLabels'. -/
def fnExactFloorOfLabelsCard : Claim7 := { stood := { row := fnExactFloorOfLabelsRow, standIns := [], harness := (true, "ee12326f6596a0073da1e3292d745faa2be012dec51c674174ff8ecb978b833d"), looks := false }, kinds := [], alts := [], laidByText := true, laidKinds := [.data, .pinned], laidTests := true, laidLooks := .later }
def FnExactFloorOfLabelsCardSaid : Prop := Claim7.holds Tryd.pinned (.plain (OpenSpec.ofChange fnExactFloorOfLabelsSpec)) fnExactFloorOfLabelsCard

/-- THE TIED CARD OF 'laws.FnExactMatchesHere'. -/
def fnExactMatchesHereCard : Claim7 := { stood := { row := fnExactMatchesHereRow, standIns := [], harness := (true, "ee12326f6596a0073da1e3292d745faa2be012dec51c674174ff8ecb978b833d"), looks := false }, kinds := [], alts := [], laidByText := true, laidKinds := [.data, .pinned], laidTests := true, laidLooks := .later }
def FnExactMatchesHereCardSaid : Prop := Claim7.holds Tryd.pinned (.plain (OpenSpec.ofChange fnExactMatchesHereSpec)) fnExactMatchesHereCard

/-- THE TIED CARD OF 'laws.FnExactLabelMoves'. -/
def fnExactLabelMovesCard : Claim7 := { stood := { row := fnExactLabelMovesRow, standIns := [], harness := (true, "ee12326f6596a0073da1e3292d745faa2be012dec51c674174ff8ecb978b833d"), looks := false }, kinds := [], alts := [], laidByText := true, laidKinds := [.data, .pinned], laidTests := true, laidLooks := .later }
def FnExactLabelMovesCardSaid : Prop := Claim7.holds Tryd.pinned (.plain (OpenSpec.ofChange fnExactLabelMovesSpec)) fnExactLabelMovesCard

/-- THE TIED CARD OF 'laws.FnExactRollOverLabels'. -/
def fnExactRollOverLabelsCard : Claim7 := { stood := { row := fnExactRollOverLabelsRow, standIns := [], harness := (true, "ee12326f6596a0073da1e3292d745faa2be012dec51c674174ff8ecb978b833d"), looks := false }, kinds := [], alts := [], laidByText := true, laidKinds := [.data, .pinned], laidTests := true, laidLooks := .later }
def FnExactRollOverLabelsCardSaid : Prop := Claim7.holds Tryd.pinned (.plain (OpenSpec.ofChange fnExactRollOverLabelsSpec)) fnExactRollOverLabelsCard

/-- THE TIED CARD OF 'laws.FnExactTurnLabelled'. -/
def fnExactTurnLabelledCard : Claim7 := { stood := { row := fnExactTurnLabelledRow, standIns := [], harness := (true, "ee12326f6596a0073da1e3292d745faa2be012dec51c674174ff8ecb978b833d"), looks := false }, kinds := [], alts := [], laidByText := true, laidKinds := [.data, .pinned], laidTests := true, laidLooks := .later }
def FnExactTurnLabelledCardSaid : Prop := Claim7.holds Tryd.pinned (.plain (OpenSpec.ofChange fnExactTurnLabelledSpec)) fnExactTurnLabelledCard

/-- THE SECOND FORM's CARD OF 'laws.FnExactCanRoll'. -/
def fnExactCanRollUptoCard : Claim7 := { stood := { row := fnExactCanRollUptoRow, standIns := [], harness := (true, "ee12326f6596a0073da1e3292d745faa2be012dec51c674174ff8ecb978b833d"), looks := false }, kinds := [], alts := [], laidByText := true, laidKinds := [.data, .pinned], laidTests := true, laidLooks := .later }
def FnExactCanRollUptoCardSaid : Prop := Claim7.holds Tryd.pinned (.plain (OpenSpec.upto fnExactCanRollSpec)) fnExactCanRollUptoCard

/-- THE SECOND FORM's CARD OF 'laws.FnExactTurnBoard'. -/
def fnExactTurnBoardUptoCard : Claim7 := { stood := { row := fnExactTurnBoardUptoRow, standIns := [], harness := (true, "ee12326f6596a0073da1e3292d745faa2be012dec51c674174ff8ecb978b833d"), looks := false }, kinds := [], alts := [], laidByText := true, laidKinds := [.data, .pinned], laidTests := true, laidLooks := .later }
def FnExactTurnBoardUptoCardSaid : Prop := Claim7.holds Tryd.pinned (.plain (OpenSpec.upto fnExactTurnBoardSpec)) fnExactTurnBoardUptoCard

/-- THE SECOND FORM's CARD OF 'laws.FnExactIsLabelled'. -/
def fnExactIsLabelledUptoCard : Claim7 := { stood := { row := fnExactIsLabelledUptoRow, standIns := [], harness := (true, "ee12326f6596a0073da1e3292d745faa2be012dec51c674174ff8ecb978b833d"), looks := false }, kinds := [], alts := [], laidByText := true, laidKinds := [.data, .pinned], laidTests := true, laidLooks := .later }
def FnExactIsLabelledUptoCardSaid : Prop := Claim7.holds Tryd.pinned (.plain (OpenSpec.upto fnExactIsLabelledSpec)) fnExactIsLabelledUptoCard

/-- THE SECOND FORM's CARD OF 'laws.FnExactPrintsAlong'. -/
def fnExactPrintsAlongUptoCard : Claim7 := { stood := { row := fnExactPrintsAlongUptoRow, standIns := [], harness := (true, "ee12326f6596a0073da1e3292d745faa2be012dec51c674174ff8ecb978b833d"), looks := false }, kinds := [], alts := [], laidByText := true, laidKinds := [.data, .pinned], laidTests := true, laidLooks := .later }
def FnExactPrintsAlongUptoCardSaid : Prop := Claim7.holds Tryd.pinned (.plain (OpenSpec.upto fnExactPrintsAlongSpec)) fnExactPrintsAlongUptoCard

/-- THE SECOND FORM's CARD OF 'laws.FnExactLabelsOfWord'. -/
def fnExactLabelsOfWordUptoCard : Claim7 := { stood := { row := fnExactLabelsOfWordUptoRow, standIns := [], harness := (true, "ee12326f6596a0073da1e3292d745faa2be012dec51c674174ff8ecb978b833d"), looks := false }, kinds := [], alts := [], laidByText := true, laidKinds := [.data, .pinned], laidTests := true, laidLooks := .later }
def FnExactLabelsOfWordUptoCardSaid : Prop := Claim7.holds Tryd.pinned (.plain (OpenSpec.upto fnExactLabelsOfWordSpec)) fnExactLabelsOfWordUptoCard

/-- THE SECOND FORM's CARD OF 'laws.FnExactFloorOfLabels'. -/
def fnExactFloorOfLabelsUptoCard : Claim7 := { stood := { row := fnExactFloorOfLabelsUptoRow, standIns := [], harness := (true, "ee12326f6596a0073da1e3292d745faa2be012dec51c674174ff8ecb978b833d"), looks := false }, kinds := [], alts := [], laidByText := true, laidKinds := [.data, .pinned], laidTests := true, laidLooks := .later }
def FnExactFloorOfLabelsUptoCardSaid : Prop := Claim7.holds Tryd.pinned (.plain (OpenSpec.upto fnExactFloorOfLabelsSpec)) fnExactFloorOfLabelsUptoCard

/-- THE SECOND FORM's CARD OF 'laws.FnExactMatchesHere'. -/
def fnExactMatchesHereUptoCard : Claim7 := { stood := { row := fnExactMatchesHereUptoRow, standIns := [], harness := (true, "ee12326f6596a0073da1e3292d745faa2be012dec51c674174ff8ecb978b833d"), looks := false }, kinds := [], alts := [], laidByText := true, laidKinds := [.data, .pinned], laidTests := true, laidLooks := .later }
def FnExactMatchesHereUptoCardSaid : Prop := Claim7.holds Tryd.pinned (.plain (OpenSpec.upto fnExactMatchesHereSpec)) fnExactMatchesHereUptoCard

/-- THE SECOND FORM's CARD OF 'laws.FnExactLabelMoves'. -/
def fnExactLabelMovesUptoCard : Claim7 := { stood := { row := fnExactLabelMovesUptoRow, standIns := [], harness := (true, "ee12326f6596a0073da1e3292d745faa2be012dec51c674174ff8ecb978b833d"), looks := false }, kinds := [], alts := [], laidByText := true, laidKinds := [.data, .pinned], laidTests := true, laidLooks := .later }
def FnExactLabelMovesUptoCardSaid : Prop := Claim7.holds Tryd.pinned (.plain (OpenSpec.upto fnExactLabelMovesSpec)) fnExactLabelMovesUptoCard

/-- THE SECOND FORM's CARD OF 'laws.FnExactRollOverLabels'. -/
def fnExactRollOverLabelsUptoCard : Claim7 := { stood := { row := fnExactRollOverLabelsUptoRow, standIns := [], harness := (true, "ee12326f6596a0073da1e3292d745faa2be012dec51c674174ff8ecb978b833d"), looks := false }, kinds := [], alts := [], laidByText := true, laidKinds := [.data, .pinned], laidTests := true, laidLooks := .later }
def FnExactRollOverLabelsUptoCardSaid : Prop := Claim7.holds Tryd.pinned (.plain (OpenSpec.upto fnExactRollOverLabelsSpec)) fnExactRollOverLabelsUptoCard

/-- THE SECOND FORM's CARD OF 'laws.FnExactTurnLabelled'. -/
def fnExactTurnLabelledUptoCard : Claim7 := { stood := { row := fnExactTurnLabelledUptoRow, standIns := [], harness := (true, "ee12326f6596a0073da1e3292d745faa2be012dec51c674174ff8ecb978b833d"), looks := false }, kinds := [], alts := [], laidByText := true, laidKinds := [.data, .pinned], laidTests := true, laidLooks := .later }
def FnExactTurnLabelledUptoCardSaid : Prop := Claim7.holds Tryd.pinned (.plain (OpenSpec.upto fnExactTurnLabelledSpec)) fnExactTurnLabelledUptoCard
end Rows
end Go.Proofs.YtckajjocpheakaaDoor
