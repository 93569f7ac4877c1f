/-
  DERIVED. GIVEN WITH THE SEED: THE CARDS: each row of YtkknjokacinlaaaGreatDoorRows.lean that lists a variable, with what it lists TIED to the program's text (the seventh form; the later family's looks); each row that meets fmt, with fmt's text TOLD by the authors' own Lean function (tested against real Go, not proved from fmt's source: count such statements apart). THE CARD IS WHAT COUNTS. Prove the row's statement (the work); the ties are given (YtkknjokacinlaaaGreatDoorTie.lean); close each card by the builder's one call (the guide's Derived/Test/ToyasCard.lean, 'card_holds'). Laid BY PROGRAM, IN A SANDBOX (cutbox-door.mjs). By AI agents, Wed Nov 11 2026. No macro, syntax, notation, axiom, sorry.
-/
import Derived.Test.YtkknjokacinlaaaGreatDoorRows
import GoSem.ClaimSeven
namespace Go.Proofs.YtkknjokacinlaaaGreatDoor
namespace Rows

/-- THE TIED CARD OF 'laws.FnExactTurnNet'. -/
def fnExactTurnNetCard : Claim7 := { stood := { row := fnExactTurnNetRow, standIns := [], harness := (true, "14e304ebf6243290037117b5ddc29681c3b05c1d8060f3b28be397f9648658bd"), looks := false }, kinds := [], alts := [], laidByText := true, laidKinds := [.data, .pinned], laidTests := true, laidLooks := .later }
def FnExactTurnNetCardSaid : Prop := Claim7.holds Tryz.pinned (.plain (OpenSpec.ofChange fnExactTurnNetSpec)) fnExactTurnNetCard

/-- THE SECOND FORM's CARD OF 'laws.FnExactTurnNet'. -/
def fnExactTurnNetUptoCard : Claim7 := { stood := { row := fnExactTurnNetUptoRow, standIns := [], harness := (true, "14e304ebf6243290037117b5ddc29681c3b05c1d8060f3b28be397f9648658bd"), looks := false }, kinds := [], alts := [], laidByText := true, laidKinds := [.data, .pinned], laidTests := true, laidLooks := .later }
def FnExactTurnNetUptoCardSaid : Prop := Claim7.holds Tryz.pinned (.plain (OpenSpec.upto fnExactTurnNetSpec)) fnExactTurnNetUptoCard
end Rows
end Go.Proofs.YtkknjokacinlaaaGreatDoor
