/-
  DERIVED. GIVEN WITH THE SEED: THE CARDS: each row of YtdndegonpdakkaaDoorRows.lean that lists a variable, with what it lists TIED to the program's text (the seventh form; the later family's looks); each row that meets fmt, with fmt's text TOLD by the authors' own Lean function (tested against real Go, not proved from fmt's source: count such statements apart). THE CARD IS WHAT COUNTS. Prove the row's statement (the work); the ties are given (YtdndegonpdakkaaDoorTie.lean); close each card by the builder's one call (the guide's Derived/Test/ToyasCard.lean, 'card_holds'). Laid BY PROGRAM, IN A SANDBOX (cutbox-door.mjs). By AI agents, Wed Nov 11 2026. No macro, syntax, notation, axiom, sorry.
-/
import Derived.Test.YtdndegonpdakkaaDoorRows
import GoSem.ClaimSeven
namespace Go.Proofs.YtdndegonpdakkaaDoor
namespace Rows

/-- THE TIED CARD OF 'laws.FnExactAreDice'. -/
def fnExactAreDiceCard : Claim7 := { stood := { row := fnExactAreDiceRow, standIns := [], harness := (true, "e612d08a4dadd2d5f85362c59045f82973a466919ffcc33854bd6c125310a83f"), looks := false }, kinds := [], alts := [], laidByText := true, laidKinds := [.data, .pinned], laidTests := true, laidLooks := .later }
def FnExactAreDiceCardSaid : Prop := Claim7.holds Tryd.pinned (.plain (OpenSpec.ofChange fnExactAreDiceSpec)) fnExactAreDiceCard

/-- THE TIED CARD OF 'laws.FnExactDiceMoves'. -/
def fnExactDiceMovesCard : Claim7 := { stood := { row := fnExactDiceMovesRow, standIns := [], harness := (true, "e612d08a4dadd2d5f85362c59045f82973a466919ffcc33854bd6c125310a83f"), looks := false }, kinds := [], alts := [], laidByText := true, laidKinds := [.data, .pinned], laidTests := true, laidLooks := .later }
def FnExactDiceMovesCardSaid : Prop := Claim7.holds Tryd.pinned (.plain (OpenSpec.ofChange fnExactDiceMovesSpec)) fnExactDiceMovesCard

/-- THE TIED CARD OF 'laws.FnExactMoveOne'. -/
def fnExactMoveOneCard : Claim7 := { stood := { row := fnExactMoveOneRow, standIns := [], harness := (true, "e612d08a4dadd2d5f85362c59045f82973a466919ffcc33854bd6c125310a83f"), looks := false }, kinds := [], alts := [], laidByText := true, laidKinds := [.data, .pinned], laidTests := true, laidLooks := .later }
def FnExactMoveOneCardSaid : Prop := Claim7.holds Tryd.pinned (.plain (OpenSpec.ofChange fnExactMoveOneSpec)) fnExactMoveOneCard

/-- THE TIED CARD OF 'laws.FnExactMoveDice'. -/
def fnExactMoveDiceCard : Claim7 := { stood := { row := fnExactMoveDiceRow, standIns := [], harness := (true, "e612d08a4dadd2d5f85362c59045f82973a466919ffcc33854bd6c125310a83f"), looks := false }, kinds := [], alts := [], laidByText := true, laidKinds := [.data, .pinned], laidTests := true, laidLooks := .later }
def FnExactMoveDiceCardSaid : Prop := Claim7.holds Tryd.pinned (.plain (OpenSpec.ofChange fnExactMoveDiceSpec)) fnExactMoveDiceCard

/-- THE TIED CARD OF 'laws.FnExactBlockedDice'. -/
def fnExactBlockedDiceCard : Claim7 := { stood := { row := fnExactBlockedDiceRow, standIns := [], harness := (true, "e612d08a4dadd2d5f85362c59045f82973a466919ffcc33854bd6c125310a83f"), looks := false }, kinds := [], alts := [], laidByText := true, laidKinds := [.data, .pinned], laidTests := true, laidLooks := .later }
def FnExactBlockedDiceCardSaid : Prop := Claim7.holds Tryd.pinned (.plain (OpenSpec.ofChange fnExactBlockedDiceSpec)) fnExactBlockedDiceCard

/-- THE TIED CARD OF 'laws.FnExactTouchingPairs'. -/
def fnExactTouchingPairsCard : Claim7 := { stood := { row := fnExactTouchingPairsRow, standIns := [], harness := (true, "e612d08a4dadd2d5f85362c59045f82973a466919ffcc33854bd6c125310a83f"), looks := false }, kinds := [], alts := [], laidByText := true, laidKinds := [.data, .pinned], laidTests := true, laidLooks := .later }
def FnExactTouchingPairsCardSaid : Prop := Claim7.holds Tryd.pinned (.plain (OpenSpec.ofChange fnExactTouchingPairsSpec)) fnExactTouchingPairsCard

/-- THE TIED CARD OF 'laws.FnExactSumOfDice'. -/
def fnExactSumOfDiceCard : Claim7 := { stood := { row := fnExactSumOfDiceRow, standIns := [], harness := (true, "e612d08a4dadd2d5f85362c59045f82973a466919ffcc33854bd6c125310a83f"), looks := false }, kinds := [], alts := [], laidByText := true, laidKinds := [.data, .pinned], laidTests := true, laidLooks := .later }
def FnExactSumOfDiceCardSaid : Prop := Claim7.holds Tryd.pinned (.plain (OpenSpec.ofChange fnExactSumOfDiceSpec)) fnExactSumOfDiceCard

/-- THE SECOND FORM's CARD OF 'laws.FnExactAreDice'. -/
def fnExactAreDiceUptoCard : Claim7 := { stood := { row := fnExactAreDiceUptoRow, standIns := [], harness := (true, "e612d08a4dadd2d5f85362c59045f82973a466919ffcc33854bd6c125310a83f"), looks := false }, kinds := [], alts := [], laidByText := true, laidKinds := [.data, .pinned], laidTests := true, laidLooks := .later }
def FnExactAreDiceUptoCardSaid : Prop := Claim7.holds Tryd.pinned (.plain (OpenSpec.upto fnExactAreDiceSpec)) fnExactAreDiceUptoCard

/-- THE SECOND FORM's CARD OF 'laws.FnExactDiceMoves'. -/
def fnExactDiceMovesUptoCard : Claim7 := { stood := { row := fnExactDiceMovesUptoRow, standIns := [], harness := (true, "e612d08a4dadd2d5f85362c59045f82973a466919ffcc33854bd6c125310a83f"), looks := false }, kinds := [], alts := [], laidByText := true, laidKinds := [.data, .pinned], laidTests := true, laidLooks := .later }
def FnExactDiceMovesUptoCardSaid : Prop := Claim7.holds Tryd.pinned (.plain (OpenSpec.upto fnExactDiceMovesSpec)) fnExactDiceMovesUptoCard

/-- THE SECOND FORM's CARD OF 'laws.FnExactMoveOne'. -/
def fnExactMoveOneUptoCard : Claim7 := { stood := { row := fnExactMoveOneUptoRow, standIns := [], harness := (true, "e612d08a4dadd2d5f85362c59045f82973a466919ffcc33854bd6c125310a83f"), looks := false }, kinds := [], alts := [], laidByText := true, laidKinds := [.data, .pinned], laidTests := true, laidLooks := .later }
def FnExactMoveOneUptoCardSaid : Prop := Claim7.holds Tryd.pinned (.plain (OpenSpec.upto fnExactMoveOneSpec)) fnExactMoveOneUptoCard

/-- THE SECOND FORM's CARD OF 'laws.FnExactMoveDice'. -/
def fnExactMoveDiceUptoCard : Claim7 := { stood := { row := fnExactMoveDiceUptoRow, standIns := [], harness := (true, "e612d08a4dadd2d5f85362c59045f82973a466919ffcc33854bd6c125310a83f"), looks := false }, kinds := [], alts := [], laidByText := true, laidKinds := [.data, .pinned], laidTests := true, laidLooks := .later }
def FnExactMoveDiceUptoCardSaid : Prop := Claim7.holds Tryd.pinned (.plain (OpenSpec.upto fnExactMoveDiceSpec)) fnExactMoveDiceUptoCard

/-- THE SECOND FORM's CARD OF 'laws.FnExactBlockedDice'. -/
def fnExactBlockedDiceUptoCard : Claim7 := { stood := { row := fnExactBlockedDiceUptoRow, standIns := [], harness := (true, "e612d08a4dadd2d5f85362c59045f82973a466919ffcc33854bd6c125310a83f"), looks := false }, kinds := [], alts := [], laidByText := true, laidKinds := [.data, .pinned], laidTests := true, laidLooks := .later }
def FnExactBlockedDiceUptoCardSaid : Prop := Claim7.holds Tryd.pinned (.plain (OpenSpec.upto fnExactBlockedDiceSpec)) fnExactBlockedDiceUptoCard

/-- THE SECOND FORM's CARD OF 'laws.FnExactTouchingPairs'. -/
def fnExactTouchingPairsUptoCard : Claim7 := { stood := { row := fnExactTouchingPairsUptoRow, standIns := [], harness := (true, "e612d08a4dadd2d5f85362c59045f82973a466919ffcc33854bd6c125310a83f"), looks := false }, kinds := [], alts := [], laidByText := true, laidKinds := [.data, .pinned], laidTests := true, laidLooks := .later }
def FnExactTouchingPairsUptoCardSaid : Prop := Claim7.holds Tryd.pinned (.plain (OpenSpec.upto fnExactTouchingPairsSpec)) fnExactTouchingPairsUptoCard

/-- THE SECOND FORM's CARD OF 'laws.FnExactSumOfDice'. -/
def fnExactSumOfDiceUptoCard : Claim7 := { stood := { row := fnExactSumOfDiceUptoRow, standIns := [], harness := (true, "e612d08a4dadd2d5f85362c59045f82973a466919ffcc33854bd6c125310a83f"), looks := false }, kinds := [], alts := [], laidByText := true, laidKinds := [.data, .pinned], laidTests := true, laidLooks := .later }
def FnExactSumOfDiceUptoCardSaid : Prop := Claim7.holds Tryd.pinned (.plain (OpenSpec.upto fnExactSumOfDiceSpec)) fnExactSumOfDiceUptoCard
end Rows
end Go.Proofs.YtdndegonpdakkaaDoor
