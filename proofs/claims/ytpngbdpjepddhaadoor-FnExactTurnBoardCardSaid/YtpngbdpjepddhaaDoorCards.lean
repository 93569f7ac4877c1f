/-
  DERIVED. GIVEN WITH THE SEED: THE CARDS: each row of YtpngbdpjepddhaaDoorRows.lean that lists a variable, with what it lists TIED to the program's text (the seventh form; the later family's looks); each row that meets fmt, with fmt's text TOLD by the authors' own Lean function (tested against real Go, not proved from fmt's source: count such statements apart). THE CARD IS WHAT COUNTS. Prove the row's statement (the work); the ties are given (YtpngbdpjepddhaaDoorTie.lean); close each card by the builder's one call (the guide's Derived/Test/ToyasCard.lean, 'card_holds'). Laid BY PROGRAM, IN A SANDBOX (cutbox-door.mjs). By AI agents, Wed Nov 11 2026. No macro, syntax, notation, axiom, sorry.
-/
import Derived.Test.YtpngbdpjepddhaaDoorRows
import GoSem.ClaimSeven
namespace Go.Proofs.YtpngbdpjepddhaaDoor
namespace Rows

/-- THE TIED CARD OF 'laws.FnExactOppositeOf'. -/
def fnExactOppositeOfCard : Claim7 := { stood := { row := fnExactOppositeOfRow, standIns := [], harness := (true, "b33bf7437d205b3bfa8c44f0f6ff0741f5c4d5b26f3b171e162db7257fcf4e54"), looks := false }, kinds := [], alts := [], laidByText := true, laidKinds := [.data], laidTests := true, laidLooks := .later }
def FnExactOppositeOfCardSaid : Prop := Claim7.holds Tryd.pinned (.plain (OpenSpec.ofChange fnExactOppositeOfSpec)) fnExactOppositeOfCard

/-- THE TIED CARD OF 'laws.FnExactIsCommonDie'. -/
def fnExactIsCommonDieCard : Claim7 := { stood := { row := fnExactIsCommonDieRow, standIns := [], harness := (true, "b33bf7437d205b3bfa8c44f0f6ff0741f5c4d5b26f3b171e162db7257fcf4e54"), looks := false }, kinds := [], alts := [], laidByText := true, laidKinds := [.data], laidTests := true, laidLooks := .later }
def FnExactIsCommonDieCardSaid : Prop := Claim7.holds Tryd.pinned (.plain (OpenSpec.ofChange fnExactIsCommonDieSpec)) fnExactIsCommonDieCard

/-- THE TIED CARD OF 'laws.FnExactTurnBoard'. -/
def fnExactTurnBoardCard : Claim7 := { stood := { row := fnExactTurnBoardRow, standIns := [], harness := (true, "b33bf7437d205b3bfa8c44f0f6ff0741f5c4d5b26f3b171e162db7257fcf4e54"), looks := false }, kinds := [], alts := [], laidByText := true, laidKinds := [.data, .pinned], laidTests := true, laidLooks := .later }
def FnExactTurnBoardCardSaid : Prop := Claim7.holds Tryd.pinned (.plain (OpenSpec.ofChange fnExactTurnBoardSpec)) fnExactTurnBoardCard

/-- THE SECOND FORM's CARD OF 'laws.FnExactOppositeOf'. -/
def fnExactOppositeOfUptoCard : Claim7 := { stood := { row := fnExactOppositeOfUptoRow, standIns := [], harness := (true, "b33bf7437d205b3bfa8c44f0f6ff0741f5c4d5b26f3b171e162db7257fcf4e54"), looks := false }, kinds := [], alts := [], laidByText := true, laidKinds := [.data], laidTests := true, laidLooks := .later }
def FnExactOppositeOfUptoCardSaid : Prop := Claim7.holds Tryd.pinned (.plain (OpenSpec.upto fnExactOppositeOfSpec)) fnExactOppositeOfUptoCard

/-- THE SECOND FORM's CARD OF 'laws.FnExactIsCommonDie'. -/
def fnExactIsCommonDieUptoCard : Claim7 := { stood := { row := fnExactIsCommonDieUptoRow, standIns := [], harness := (true, "b33bf7437d205b3bfa8c44f0f6ff0741f5c4d5b26f3b171e162db7257fcf4e54"), looks := false }, kinds := [], alts := [], laidByText := true, laidKinds := [.data], laidTests := true, laidLooks := .later }
def FnExactIsCommonDieUptoCardSaid : Prop := Claim7.holds Tryd.pinned (.plain (OpenSpec.upto fnExactIsCommonDieSpec)) fnExactIsCommonDieUptoCard

/-- THE SECOND FORM's CARD OF 'laws.FnExactTurnBoard'. -/
def fnExactTurnBoardUptoCard : Claim7 := { stood := { row := fnExactTurnBoardUptoRow, standIns := [], harness := (true, "b33bf7437d205b3bfa8c44f0f6ff0741f5c4d5b26f3b171e162db7257fcf4e54"), looks := false }, kinds := [], alts := [], laidByText := true, laidKinds := [.data, .pinned], laidTests := true, laidLooks := .later }
def FnExactTurnBoardUptoCardSaid : Prop := Claim7.holds Tryd.pinned (.plain (OpenSpec.upto fnExactTurnBoardSpec)) fnExactTurnBoardUptoCard
end Rows
end Go.Proofs.YtpngbdpjepddhaaDoor
