/-
  DERIVED. GIVEN WITH THE SEED: THE CARDS: each row of YtajabbbokhhekaaDoorRows.lean that lists a variable, with what it lists TIED to the program's text (the seventh form; the later family's looks); each row that meets fmt, with fmt's text TOLD by the authors' own Lean function (tested against real Go, not proved from fmt's source: count such statements apart). THE CARD IS WHAT COUNTS. Prove the row's statement (the work); the ties are given (YtajabbbokhhekaaDoorTie.lean); close each card by the builder's one call (the guide's Derived/Test/ToyasCard.lean, 'card_holds'). Laid BY PROGRAM, IN A SANDBOX (cutbox-door.mjs). By AI agents, Wed Nov 11 2026. No macro, syntax, notation, axiom, sorry.
-/
import Derived.Test.YtajabbbokhhekaaDoorRows
import GoSem.ClaimSeven
namespace Go.Proofs.YtajabbbokhhekaaDoor
namespace Rows

/-- THE TIED CARD OF 'laws.FnExactShortestRolls'. -/
def fnExactShortestRollsCard : Claim7 := { stood := { row := fnExactShortestRollsRow, standIns := [], harness := (true, "dbf24df229545a5e09bb155ede11d02b488be51778166691d995540b54f3a2c9"), looks := false }, kinds := [], alts := [], laidByText := true, laidKinds := [.data, .pinned], laidTests := true, laidLooks := .later }
def FnExactShortestRollsCardSaid : Prop := Claim7.holds Tryd.pinned (.plain (OpenSpec.ofChange fnExactShortestRollsSpec)) fnExactShortestRollsCard

/-- THE TIED CARD OF 'laws.FnExactWaysToLie'. -/
def fnExactWaysToLieCard : Claim7 := { stood := { row := fnExactWaysToLieRow, standIns := [], harness := (true, "dbf24df229545a5e09bb155ede11d02b488be51778166691d995540b54f3a2c9"), looks := false }, kinds := [], alts := [], laidByText := true, laidKinds := [.data, .pinned], laidTests := true, laidLooks := .later }
def FnExactWaysToLieCardSaid : Prop := Claim7.holds Tryd.pinned (.plain (OpenSpec.ofChange fnExactWaysToLieSpec)) fnExactWaysToLieCard

/-- THE TIED CARD OF 'laws.FnExactCountWays'. -/
def fnExactCountWaysCard : Claim7 := { stood := { row := fnExactCountWaysRow, standIns := [], harness := (true, "dbf24df229545a5e09bb155ede11d02b488be51778166691d995540b54f3a2c9"), looks := false }, kinds := [], alts := [], laidByText := true, laidKinds := [.data, .pinned], laidTests := true, laidLooks := .later }
def FnExactCountWaysCardSaid : Prop := Claim7.holds Tryd.pinned (.plain (OpenSpec.ofChange fnExactCountWaysSpec)) fnExactCountWaysCard

/-- THE TIED CARD OF 'laws.FnExactIsTurned'. -/
def fnExactIsTurnedCard : Claim7 := { stood := { row := fnExactIsTurnedRow, standIns := [], harness := (true, "dbf24df229545a5e09bb155ede11d02b488be51778166691d995540b54f3a2c9"), looks := false }, kinds := [], alts := [], laidByText := true, laidKinds := [.data, .pinned], laidTests := true, laidLooks := .later }
def FnExactIsTurnedCardSaid : Prop := Claim7.holds Tryd.pinned (.plain (OpenSpec.ofChange fnExactIsTurnedSpec)) fnExactIsTurnedCard

/-- THE TIED CARD OF 'laws.FnExactRollsBetween'. -/
def fnExactRollsBetweenCard : Claim7 := { stood := { row := fnExactRollsBetweenRow, standIns := [], harness := (true, "dbf24df229545a5e09bb155ede11d02b488be51778166691d995540b54f3a2c9"), looks := false }, kinds := [], alts := [], laidByText := true, laidKinds := [.data, .pinned], laidTests := true, laidLooks := .later }
def FnExactRollsBetweenCardSaid : Prop := Claim7.holds Tryd.pinned (.plain (OpenSpec.ofChange fnExactRollsBetweenSpec)) fnExactRollsBetweenCard

/-- THE TIED CARD OF 'laws.FnExactLeastDie'. -/
def fnExactLeastDieCard : Claim7 := { stood := { row := fnExactLeastDieRow, standIns := [], harness := (true, "dbf24df229545a5e09bb155ede11d02b488be51778166691d995540b54f3a2c9"), looks := false }, kinds := [], alts := [], laidByText := true, laidKinds := [.data, .pinned], laidTests := true, laidLooks := .later }
def FnExactLeastDieCardSaid : Prop := Claim7.holds Tryd.pinned (.plain (OpenSpec.ofChange fnExactLeastDieSpec)) fnExactLeastDieCard

/-- THE TIED CARD OF 'laws.FnExactIsHanded'. -/
def fnExactIsHandedCard : Claim7 := { stood := { row := fnExactIsHandedRow, standIns := [], harness := (true, "dbf24df229545a5e09bb155ede11d02b488be51778166691d995540b54f3a2c9"), looks := false }, kinds := [], alts := [], laidByText := true, laidKinds := [.data, .pinned], laidTests := true, laidLooks := .later }
def FnExactIsHandedCardSaid : Prop := Claim7.holds Tryd.pinned (.plain (OpenSpec.ofChange fnExactIsHandedSpec)) fnExactIsHandedCard

/-- THE SECOND FORM's CARD OF 'laws.FnExactShortestRolls'. -/
def fnExactShortestRollsUptoCard : Claim7 := { stood := { row := fnExactShortestRollsUptoRow, standIns := [], harness := (true, "dbf24df229545a5e09bb155ede11d02b488be51778166691d995540b54f3a2c9"), looks := false }, kinds := [], alts := [], laidByText := true, laidKinds := [.data, .pinned], laidTests := true, laidLooks := .later }
def FnExactShortestRollsUptoCardSaid : Prop := Claim7.holds Tryd.pinned (.plain (OpenSpec.upto fnExactShortestRollsSpec)) fnExactShortestRollsUptoCard

/-- THE SECOND FORM's CARD OF 'laws.FnExactWaysToLie'. -/
def fnExactWaysToLieUptoCard : Claim7 := { stood := { row := fnExactWaysToLieUptoRow, standIns := [], harness := (true, "dbf24df229545a5e09bb155ede11d02b488be51778166691d995540b54f3a2c9"), looks := false }, kinds := [], alts := [], laidByText := true, laidKinds := [.data, .pinned], laidTests := true, laidLooks := .later }
def FnExactWaysToLieUptoCardSaid : Prop := Claim7.holds Tryd.pinned (.plain (OpenSpec.upto fnExactWaysToLieSpec)) fnExactWaysToLieUptoCard

/-- THE SECOND FORM's CARD OF 'laws.FnExactCountWays'. -/
def fnExactCountWaysUptoCard : Claim7 := { stood := { row := fnExactCountWaysUptoRow, standIns := [], harness := (true, "dbf24df229545a5e09bb155ede11d02b488be51778166691d995540b54f3a2c9"), looks := false }, kinds := [], alts := [], laidByText := true, laidKinds := [.data, .pinned], laidTests := true, laidLooks := .later }
def FnExactCountWaysUptoCardSaid : Prop := Claim7.holds Tryd.pinned (.plain (OpenSpec.upto fnExactCountWaysSpec)) fnExactCountWaysUptoCard

/-- THE SECOND FORM's CARD OF 'laws.FnExactIsTurned'. -/
def fnExactIsTurnedUptoCard : Claim7 := { stood := { row := fnExactIsTurnedUptoRow, standIns := [], harness := (true, "dbf24df229545a5e09bb155ede11d02b488be51778166691d995540b54f3a2c9"), looks := false }, kinds := [], alts := [], laidByText := true, laidKinds := [.data, .pinned], laidTests := true, laidLooks := .later }
def FnExactIsTurnedUptoCardSaid : Prop := Claim7.holds Tryd.pinned (.plain (OpenSpec.upto fnExactIsTurnedSpec)) fnExactIsTurnedUptoCard

/-- THE SECOND FORM's CARD OF 'laws.FnExactRollsBetween'. -/
def fnExactRollsBetweenUptoCard : Claim7 := { stood := { row := fnExactRollsBetweenUptoRow, standIns := [], harness := (true, "dbf24df229545a5e09bb155ede11d02b488be51778166691d995540b54f3a2c9"), looks := false }, kinds := [], alts := [], laidByText := true, laidKinds := [.data, .pinned], laidTests := true, laidLooks := .later }
def FnExactRollsBetweenUptoCardSaid : Prop := Claim7.holds Tryd.pinned (.plain (OpenSpec.upto fnExactRollsBetweenSpec)) fnExactRollsBetweenUptoCard

/-- THE SECOND FORM's CARD OF 'laws.FnExactLeastDie'. -/
def fnExactLeastDieUptoCard : Claim7 := { stood := { row := fnExactLeastDieUptoRow, standIns := [], harness := (true, "dbf24df229545a5e09bb155ede11d02b488be51778166691d995540b54f3a2c9"), looks := false }, kinds := [], alts := [], laidByText := true, laidKinds := [.data, .pinned], laidTests := true, laidLooks := .later }
def FnExactLeastDieUptoCardSaid : Prop := Claim7.holds Tryd.pinned (.plain (OpenSpec.upto fnExactLeastDieSpec)) fnExactLeastDieUptoCard

/-- THE SECOND FORM's CARD OF 'laws.FnExactIsHanded'. -/
def fnExactIsHandedUptoCard : Claim7 := { stood := { row := fnExactIsHandedUptoRow, standIns := [], harness := (true, "dbf24df229545a5e09bb155ede11d02b488be51778166691d995540b54f3a2c9"), looks := false }, kinds := [], alts := [], laidByText := true, laidKinds := [.data, .pinned], laidTests := true, laidLooks := .later }
def FnExactIsHandedUptoCardSaid : Prop := Claim7.holds Tryd.pinned (.plain (OpenSpec.upto fnExactIsHandedSpec)) fnExactIsHandedUptoCard
end Rows
end Go.Proofs.YtajabbbokhhekaaDoor
