/-
  DERIVED. GIVEN WITH THE SEED: THE CARDS: each row of YtjikpkembcnfnaaDoorRows.lean that lists a variable, with what it lists TIED to the program's text (the seventh form; the later family's looks); each row that meets fmt, with fmt's text TOLD by the authors' own Lean function (tested against real Go, not proved from fmt's source: count such statements apart). THE CARD IS WHAT COUNTS. Prove the row's statement (the work); the ties are given (YtjikpkembcnfnaaDoorTie.lean); close each card by the builder's one call (the guide's Derived/Test/ToyasCard.lean, 'card_holds'). Laid BY PROGRAM, IN A SANDBOX (cutbox-door.mjs). By AI agents, Wed Nov 11 2026. No macro, syntax, notation, axiom, sorry.
-/
import Derived.Test.YtjikpkembcnfnaaDoorRows
import GoSem.ClaimSeven
namespace Go.Proofs.YtjikpkembcnfnaaDoor
namespace Rows

/-- THE TIED CARD OF 'laws.FnExactIsDesk'. -/
def fnExactIsDeskCard : Claim7 := { stood := { row := fnExactIsDeskRow, standIns := [], harness := (true, "acb5fa8ff45142241c6e7143bf1bfe6fb76060c9459b09df50d7a749b9865112"), looks := true }, kinds := [], alts := [], laidByText := true, laidKinds := [.data, .pinned], laidTests := true, laidLooks := .later }
def FnExactIsDeskCardSaid : Prop := Claim7.holds Tryd.pinned (.plain (OpenSpec.ofChange fnExactIsDeskSpec)) fnExactIsDeskCard

/-- THE TIED CARD OF 'laws.FnExactCountColorings'. -/
def fnExactCountColoringsCard : Claim7 := { stood := { row := fnExactCountColoringsRow, standIns := [], harness := (true, "acb5fa8ff45142241c6e7143bf1bfe6fb76060c9459b09df50d7a749b9865112"), looks := true }, kinds := [], alts := [], laidByText := true, laidKinds := [.data, .pinned], laidTests := true, laidLooks := .later }
def FnExactCountColoringsCardSaid : Prop := Claim7.holds Tryd.pinned (.plain (OpenSpec.ofChange fnExactCountColoringsSpec)) fnExactCountColoringsCard

/-- THE TIED CARD OF 'laws.FnExactCountMirrored'. -/
def fnExactCountMirroredCard : Claim7 := { stood := { row := fnExactCountMirroredRow, standIns := [], harness := (true, "acb5fa8ff45142241c6e7143bf1bfe6fb76060c9459b09df50d7a749b9865112"), looks := true }, kinds := [], alts := [], laidByText := true, laidKinds := [.data, .pinned], laidTests := true, laidLooks := .later }
def FnExactCountMirroredCardSaid : Prop := Claim7.holds Tryd.pinned (.plain (OpenSpec.ofChange fnExactCountMirroredSpec)) fnExactCountMirroredCard

/-- THE TIED CARD OF 'laws.FnExactListColorings'. -/
def fnExactListColoringsCard : Claim7 := { stood := { row := fnExactListColoringsRow, standIns := [], harness := (true, "acb5fa8ff45142241c6e7143bf1bfe6fb76060c9459b09df50d7a749b9865112"), looks := true }, kinds := [], alts := [], laidByText := true, laidKinds := [.data, .pinned], laidTests := true, laidLooks := .later }
def FnExactListColoringsCardSaid : Prop := Claim7.holds Tryd.pinned (.plain (OpenSpec.ofChange fnExactListColoringsSpec)) fnExactListColoringsCard

/-- THE TIED CARD OF 'laws.FnExactCountWithCounts'. -/
def fnExactCountWithCountsCard : Claim7 := { stood := { row := fnExactCountWithCountsRow, standIns := [], harness := (true, "acb5fa8ff45142241c6e7143bf1bfe6fb76060c9459b09df50d7a749b9865112"), looks := true }, kinds := [], alts := [], laidByText := true, laidKinds := [.data, .pinned], laidTests := true, laidLooks := .later }
def FnExactCountWithCountsCardSaid : Prop := Claim7.holds Tryd.pinned (.plain (OpenSpec.ofChange fnExactCountWithCountsSpec)) fnExactCountWithCountsCard

/-- THE TIED CARD OF 'laws.FnExactFirstTower'. -/
def fnExactFirstTowerCard : Claim7 := { stood := { row := fnExactFirstTowerRow, standIns := [], harness := (true, "acb5fa8ff45142241c6e7143bf1bfe6fb76060c9459b09df50d7a749b9865112"), looks := true }, kinds := [], alts := [], laidByText := true, laidKinds := [.data, .pinned], laidTests := true, laidLooks := .later }
def FnExactFirstTowerCardSaid : Prop := Claim7.holds Tryd.pinned (.plain (OpenSpec.ofChange fnExactFirstTowerSpec)) fnExactFirstTowerCard

/-- THE TIED CARD OF 'laws.FnExactCountTowers'. -/
def fnExactCountTowersCard : Claim7 := { stood := { row := fnExactCountTowersRow, standIns := [], harness := (true, "acb5fa8ff45142241c6e7143bf1bfe6fb76060c9459b09df50d7a749b9865112"), looks := true }, kinds := [], alts := [], laidByText := true, laidKinds := [.data, .pinned], laidTests := true, laidLooks := .later }
def FnExactCountTowersCardSaid : Prop := Claim7.holds Tryd.pinned (.plain (OpenSpec.ofChange fnExactCountTowersSpec)) fnExactCountTowersCard

/-- THE SECOND FORM's CARD OF 'laws.FnExactIsDesk'. -/
def fnExactIsDeskUptoCard : Claim7 := { stood := { row := fnExactIsDeskUptoRow, standIns := [], harness := (true, "acb5fa8ff45142241c6e7143bf1bfe6fb76060c9459b09df50d7a749b9865112"), looks := true }, kinds := [], alts := [], laidByText := true, laidKinds := [.data, .pinned], laidTests := true, laidLooks := .later }
def FnExactIsDeskUptoCardSaid : Prop := Claim7.holds Tryd.pinned (.plain (OpenSpec.upto fnExactIsDeskSpec)) fnExactIsDeskUptoCard

/-- THE SECOND FORM's CARD OF 'laws.FnExactCountColorings'. -/
def fnExactCountColoringsUptoCard : Claim7 := { stood := { row := fnExactCountColoringsUptoRow, standIns := [], harness := (true, "acb5fa8ff45142241c6e7143bf1bfe6fb76060c9459b09df50d7a749b9865112"), looks := true }, kinds := [], alts := [], laidByText := true, laidKinds := [.data, .pinned], laidTests := true, laidLooks := .later }
def FnExactCountColoringsUptoCardSaid : Prop := Claim7.holds Tryd.pinned (.plain (OpenSpec.upto fnExactCountColoringsSpec)) fnExactCountColoringsUptoCard

/-- THE SECOND FORM's CARD OF 'laws.FnExactCountMirrored'. -/
def fnExactCountMirroredUptoCard : Claim7 := { stood := { row := fnExactCountMirroredUptoRow, standIns := [], harness := (true, "acb5fa8ff45142241c6e7143bf1bfe6fb76060c9459b09df50d7a749b9865112"), looks := true }, kinds := [], alts := [], laidByText := true, laidKinds := [.data, .pinned], laidTests := true, laidLooks := .later }
def FnExactCountMirroredUptoCardSaid : Prop := Claim7.holds Tryd.pinned (.plain (OpenSpec.upto fnExactCountMirroredSpec)) fnExactCountMirroredUptoCard

/-- THE SECOND FORM's CARD OF 'laws.FnExactListColorings'. -/
def fnExactListColoringsUptoCard : Claim7 := { stood := { row := fnExactListColoringsUptoRow, standIns := [], harness := (true, "acb5fa8ff45142241c6e7143bf1bfe6fb76060c9459b09df50d7a749b9865112"), looks := true }, kinds := [], alts := [], laidByText := true, laidKinds := [.data, .pinned], laidTests := true, laidLooks := .later }
def FnExactListColoringsUptoCardSaid : Prop := Claim7.holds Tryd.pinned (.plain (OpenSpec.upto fnExactListColoringsSpec)) fnExactListColoringsUptoCard

/-- THE SECOND FORM's CARD OF 'laws.FnExactCountWithCounts'. -/
def fnExactCountWithCountsUptoCard : Claim7 := { stood := { row := fnExactCountWithCountsUptoRow, standIns := [], harness := (true, "acb5fa8ff45142241c6e7143bf1bfe6fb76060c9459b09df50d7a749b9865112"), looks := true }, kinds := [], alts := [], laidByText := true, laidKinds := [.data, .pinned], laidTests := true, laidLooks := .later }
def FnExactCountWithCountsUptoCardSaid : Prop := Claim7.holds Tryd.pinned (.plain (OpenSpec.upto fnExactCountWithCountsSpec)) fnExactCountWithCountsUptoCard

/-- THE SECOND FORM's CARD OF 'laws.FnExactFirstTower'. -/
def fnExactFirstTowerUptoCard : Claim7 := { stood := { row := fnExactFirstTowerUptoRow, standIns := [], harness := (true, "acb5fa8ff45142241c6e7143bf1bfe6fb76060c9459b09df50d7a749b9865112"), looks := true }, kinds := [], alts := [], laidByText := true, laidKinds := [.data, .pinned], laidTests := true, laidLooks := .later }
def FnExactFirstTowerUptoCardSaid : Prop := Claim7.holds Tryd.pinned (.plain (OpenSpec.upto fnExactFirstTowerSpec)) fnExactFirstTowerUptoCard

/-- THE SECOND FORM's CARD OF 'laws.FnExactCountTowers'. -/
def fnExactCountTowersUptoCard : Claim7 := { stood := { row := fnExactCountTowersUptoRow, standIns := [], harness := (true, "acb5fa8ff45142241c6e7143bf1bfe6fb76060c9459b09df50d7a749b9865112"), looks := true }, kinds := [], alts := [], laidByText := true, laidKinds := [.data, .pinned], laidTests := true, laidLooks := .later }
def FnExactCountTowersUptoCardSaid : Prop := Claim7.holds Tryd.pinned (.plain (OpenSpec.upto fnExactCountTowersSpec)) fnExactCountTowersUptoCard
end Rows
end Go.Proofs.YtjikpkembcnfnaaDoor
