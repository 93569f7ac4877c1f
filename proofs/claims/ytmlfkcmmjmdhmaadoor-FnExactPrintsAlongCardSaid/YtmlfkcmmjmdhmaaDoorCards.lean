/-
  DERIVED. GIVEN WITH THE SEED: THE CARDS: each row of YtmlfkcmmjmdhmaaDoorRows.lean that lists a variable, with what it lists TIED to the program's text (the seventh form; the later family's looks); each row that meets fmt, with fmt's text TOLD by the authors' own Lean function (tested against real Go, not proved from fmt's source: count such statements apart). THE CARD IS WHAT COUNTS. Prove the row's statement (the work); the ties are given (YtmlfkcmmjmdhmaaDoorTie.lean); close each card by the builder's one call (the guide's Derived/Test/ToyasCard.lean, 'card_holds'). Laid BY PROGRAM, IN A SANDBOX (cutbox-door.mjs). By AI agents, Wed Nov 11 2026. No macro, syntax, notation, axiom, sorry.
-/
import Derived.Test.YtmlfkcmmjmdhmaaDoorRows
import GoSem.ClaimSeven
namespace Go.Proofs.YtmlfkcmmjmdhmaaDoor
namespace Rows

/-- THE TIED CARD OF 'laws.FnExactPrintsAlong'. -/
def fnExactPrintsAlongCard : Claim7 := { stood := { row := fnExactPrintsAlongRow, standIns := [], harness := (true, "cc9af4771de6bb35e5ce62cabdd64b5c187212d832a64582b77da3addfe794b3"), looks := false }, kinds := [], alts := [], laidByText := true, laidKinds := [.data, .pinned], laidTests := true, laidLooks := .later }
def FnExactPrintsAlongCardSaid : Prop := Claim7.holds Tryd.pinned (.plain (OpenSpec.ofChange fnExactPrintsAlongSpec)) fnExactPrintsAlongCard

/-- THE TIED CARD OF 'laws.FnExactPrintCounts'. -/
def fnExactPrintCountsCard : Claim7 := { stood := { row := fnExactPrintCountsRow, standIns := [], harness := (true, "cc9af4771de6bb35e5ce62cabdd64b5c187212d832a64582b77da3addfe794b3"), looks := false }, kinds := [], alts := [], laidByText := true, laidKinds := [.data, .pinned], laidTests := true, laidLooks := .later }
def FnExactPrintCountsCardSaid : Prop := Claim7.holds Tryd.pinned (.plain (OpenSpec.ofChange fnExactPrintCountsSpec)) fnExactPrintCountsCard

/-- THE TIED CARD OF 'laws.FnExactLabelsOfWord'. -/
def fnExactLabelsOfWordCard : Claim7 := { stood := { row := fnExactLabelsOfWordRow, standIns := [], harness := (true, "cc9af4771de6bb35e5ce62cabdd64b5c187212d832a64582b77da3addfe794b3"), looks := false }, kinds := [], alts := [], laidByText := true, laidKinds := [.data, .pinned], laidTests := true, laidLooks := .later }
def FnExactLabelsOfWordCardSaid : Prop := Claim7.holds Tryd.pinned (.plain (OpenSpec.ofChange fnExactLabelsOfWordSpec)) fnExactLabelsOfWordCard

/-- THE SECOND FORM's CARD OF 'laws.FnExactPrintsAlong'. -/
def fnExactPrintsAlongUptoCard : Claim7 := { stood := { row := fnExactPrintsAlongUptoRow, standIns := [], harness := (true, "cc9af4771de6bb35e5ce62cabdd64b5c187212d832a64582b77da3addfe794b3"), looks := false }, kinds := [], alts := [], laidByText := true, laidKinds := [.data, .pinned], laidTests := true, laidLooks := .later }
def FnExactPrintsAlongUptoCardSaid : Prop := Claim7.holds Tryd.pinned (.plain (OpenSpec.upto fnExactPrintsAlongSpec)) fnExactPrintsAlongUptoCard

/-- THE SECOND FORM's CARD OF 'laws.FnExactPrintCounts'. -/
def fnExactPrintCountsUptoCard : Claim7 := { stood := { row := fnExactPrintCountsUptoRow, standIns := [], harness := (true, "cc9af4771de6bb35e5ce62cabdd64b5c187212d832a64582b77da3addfe794b3"), looks := false }, kinds := [], alts := [], laidByText := true, laidKinds := [.data, .pinned], laidTests := true, laidLooks := .later }
def FnExactPrintCountsUptoCardSaid : Prop := Claim7.holds Tryd.pinned (.plain (OpenSpec.upto fnExactPrintCountsSpec)) fnExactPrintCountsUptoCard

/-- THE SECOND FORM's CARD OF 'laws.FnExactLabelsOfWord'. -/
def fnExactLabelsOfWordUptoCard : Claim7 := { stood := { row := fnExactLabelsOfWordUptoRow, standIns := [], harness := (true, "cc9af4771de6bb35e5ce62cabdd64b5c187212d832a64582b77da3addfe794b3"), looks := false }, kinds := [], alts := [], laidByText := true, laidKinds := [.data, .pinned], laidTests := true, laidLooks := .later }
def FnExactLabelsOfWordUptoCardSaid : Prop := Claim7.holds Tryd.pinned (.plain (OpenSpec.upto fnExactLabelsOfWordSpec)) fnExactLabelsOfWordUptoCard
end Rows
end Go.Proofs.YtmlfkcmmjmdhmaaDoor
