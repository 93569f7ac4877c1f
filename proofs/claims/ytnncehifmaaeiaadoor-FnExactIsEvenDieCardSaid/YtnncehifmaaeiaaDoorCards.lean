/-
  DERIVED. GIVEN WITH THE SEED: THE CARDS: each row of YtnncehifmaaeiaaDoorRows.lean that lists a variable, with what it lists TIED to the program's text (the seventh form; the later family's looks); each row that meets fmt, with fmt's text TOLD by the authors' own Lean function (tested against real Go, not proved from fmt's source: count such statements apart). THE CARD IS WHAT COUNTS. Prove the row's statement (the work); the ties are given (YtnncehifmaaeiaaDoorTie.lean); close each card by the builder's one call (the guide's Derived/Test/ToyasCard.lean, 'card_holds'). Laid BY PROGRAM, IN A SANDBOX (cutbox-door.mjs). By AI agents, Wed Nov 11 2026. No macro, syntax, notation, axiom, sorry.
-/
import Derived.Test.YtnncehifmaaeiaaDoorRows
import GoSem.ClaimSeven
namespace Go.Proofs.YtnncehifmaaeiaaDoor
namespace Rows

/-- THE TIED CARD OF 'laws.FnExactTurnOfWay'. -/
def fnExactTurnOfWayCard : Claim7 := { stood := { row := fnExactTurnOfWayRow, standIns := [], harness := (true, "d83ce5d21f08ad43bf327ac2901856adf58dbf08cc7b29d04884baa7e78a4e83"), looks := false }, kinds := [], alts := [], laidByText := true, laidKinds := [.data, .pinned], laidTests := true, laidLooks := .later }
def FnExactTurnOfWayCardSaid : Prop := Claim7.holds Tryd.pinned (.plain (OpenSpec.ofChange fnExactTurnOfWaySpec)) fnExactTurnOfWayCard

/-- THE TIED CARD OF 'laws.FnExactIsEvenDie'. -/
def fnExactIsEvenDieCard : Claim7 := { stood := { row := fnExactIsEvenDieRow, standIns := [], harness := (true, "d83ce5d21f08ad43bf327ac2901856adf58dbf08cc7b29d04884baa7e78a4e83"), looks := false }, kinds := [], alts := [], laidByText := true, laidKinds := [.data, .pinned], laidTests := true, laidLooks := .later }
def FnExactIsEvenDieCardSaid : Prop := Claim7.holds Tryd.pinned (.plain (OpenSpec.ofChange fnExactIsEvenDieSpec)) fnExactIsEvenDieCard

/-- THE TIED CARD OF 'laws.FnExactParityOfState'. -/
def fnExactParityOfStateCard : Claim7 := { stood := { row := fnExactParityOfStateRow, standIns := [], harness := (true, "d83ce5d21f08ad43bf327ac2901856adf58dbf08cc7b29d04884baa7e78a4e83"), looks := false }, kinds := [], alts := [], laidByText := true, laidKinds := [.data, .pinned], laidTests := true, laidLooks := .later }
def FnExactParityOfStateCardSaid : Prop := Claim7.holds Tryd.pinned (.plain (OpenSpec.ofChange fnExactParityOfStateSpec)) fnExactParityOfStateCard

/-- THE SECOND FORM's CARD OF 'laws.FnExactTurnOfWay'. -/
def fnExactTurnOfWayUptoCard : Claim7 := { stood := { row := fnExactTurnOfWayUptoRow, standIns := [], harness := (true, "d83ce5d21f08ad43bf327ac2901856adf58dbf08cc7b29d04884baa7e78a4e83"), looks := false }, kinds := [], alts := [], laidByText := true, laidKinds := [.data, .pinned], laidTests := true, laidLooks := .later }
def FnExactTurnOfWayUptoCardSaid : Prop := Claim7.holds Tryd.pinned (.plain (OpenSpec.upto fnExactTurnOfWaySpec)) fnExactTurnOfWayUptoCard

/-- THE SECOND FORM's CARD OF 'laws.FnExactIsEvenDie'. -/
def fnExactIsEvenDieUptoCard : Claim7 := { stood := { row := fnExactIsEvenDieUptoRow, standIns := [], harness := (true, "d83ce5d21f08ad43bf327ac2901856adf58dbf08cc7b29d04884baa7e78a4e83"), looks := false }, kinds := [], alts := [], laidByText := true, laidKinds := [.data, .pinned], laidTests := true, laidLooks := .later }
def FnExactIsEvenDieUptoCardSaid : Prop := Claim7.holds Tryd.pinned (.plain (OpenSpec.upto fnExactIsEvenDieSpec)) fnExactIsEvenDieUptoCard

/-- THE SECOND FORM's CARD OF 'laws.FnExactParityOfState'. -/
def fnExactParityOfStateUptoCard : Claim7 := { stood := { row := fnExactParityOfStateUptoRow, standIns := [], harness := (true, "d83ce5d21f08ad43bf327ac2901856adf58dbf08cc7b29d04884baa7e78a4e83"), looks := false }, kinds := [], alts := [], laidByText := true, laidKinds := [.data, .pinned], laidTests := true, laidLooks := .later }
def FnExactParityOfStateUptoCardSaid : Prop := Claim7.holds Tryd.pinned (.plain (OpenSpec.upto fnExactParityOfStateSpec)) fnExactParityOfStateUptoCard
end Rows
end Go.Proofs.YtnncehifmaaeiaaDoor
