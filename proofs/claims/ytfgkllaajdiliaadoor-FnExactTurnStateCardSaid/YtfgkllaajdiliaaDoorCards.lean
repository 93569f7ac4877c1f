/-
  DERIVED. GIVEN WITH THE SEED: THE CARDS: each row of YtfgkllaajdiliaaDoorRows.lean that lists a variable, with what it lists TIED to the program's text (the seventh form; the later family's looks); each row that meets fmt, with fmt's text TOLD by the authors' own Lean function (tested against real Go, not proved from fmt's source: count such statements apart). THE CARD IS WHAT COUNTS. Prove the row's statement (the work); the ties are given (YtfgkllaajdiliaaDoorTie.lean); close each card by the builder's one call (the guide's Derived/Test/ToyasCard.lean, 'card_holds'). Laid BY PROGRAM, IN A SANDBOX (cutbox-door.mjs). By AI agents, Wed Nov 11 2026. No macro, syntax, notation, axiom, sorry.
-/
import Derived.Test.YtfgkllaajdiliaaDoorRows
import GoSem.ClaimSeven
namespace Go.Proofs.YtfgkllaajdiliaaDoor
namespace Rows

/-- THE TIED CARD OF 'laws.FnExactTurnBoard'. -/
def fnExactTurnBoardCard : Claim7 := { stood := { row := fnExactTurnBoardRow, standIns := [], harness := (true, "4ddd0e90fdb85e3abe52bf16245c566f995c0c630e91d63b9a06f9f3106ee61a"), looks := false }, kinds := [], alts := [], laidByText := true, laidKinds := [.data, .pinned], laidTests := true, laidLooks := .later }
def FnExactTurnBoardCardSaid : Prop := Claim7.holds Tryd.pinned (.plain (OpenSpec.ofChange fnExactTurnBoardSpec)) fnExactTurnBoardCard

/-- THE TIED CARD OF 'laws.FnExactTurnState'. -/
def fnExactTurnStateCard : Claim7 := { stood := { row := fnExactTurnStateRow, standIns := [], harness := (true, "4ddd0e90fdb85e3abe52bf16245c566f995c0c630e91d63b9a06f9f3106ee61a"), looks := false }, kinds := [], alts := [], laidByText := true, laidKinds := [.data, .pinned], laidTests := true, laidLooks := .later }
def FnExactTurnStateCardSaid : Prop := Claim7.holds Tryd.pinned (.plain (OpenSpec.ofChange fnExactTurnStateSpec)) fnExactTurnStateCard

/-- THE SECOND FORM's CARD OF 'laws.FnExactTurnBoard'. -/
def fnExactTurnBoardUptoCard : Claim7 := { stood := { row := fnExactTurnBoardUptoRow, standIns := [], harness := (true, "4ddd0e90fdb85e3abe52bf16245c566f995c0c630e91d63b9a06f9f3106ee61a"), looks := false }, kinds := [], alts := [], laidByText := true, laidKinds := [.data, .pinned], laidTests := true, laidLooks := .later }
def FnExactTurnBoardUptoCardSaid : Prop := Claim7.holds Tryd.pinned (.plain (OpenSpec.upto fnExactTurnBoardSpec)) fnExactTurnBoardUptoCard

/-- THE SECOND FORM's CARD OF 'laws.FnExactTurnState'. -/
def fnExactTurnStateUptoCard : Claim7 := { stood := { row := fnExactTurnStateUptoRow, standIns := [], harness := (true, "4ddd0e90fdb85e3abe52bf16245c566f995c0c630e91d63b9a06f9f3106ee61a"), looks := false }, kinds := [], alts := [], laidByText := true, laidKinds := [.data, .pinned], laidTests := true, laidLooks := .later }
def FnExactTurnStateUptoCardSaid : Prop := Claim7.holds Tryd.pinned (.plain (OpenSpec.upto fnExactTurnStateSpec)) fnExactTurnStateUptoCard
end Rows
end Go.Proofs.YtfgkllaajdiliaaDoor
