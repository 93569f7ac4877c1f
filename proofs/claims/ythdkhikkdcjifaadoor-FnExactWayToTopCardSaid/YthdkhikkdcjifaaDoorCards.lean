/-
  DERIVED. GIVEN WITH THE SEED: THE CARDS: each row of YthdkhikkdcjifaaDoorRows.lean that lists a variable, with what it lists TIED to the program's text (the seventh form; the later family's looks); each row that meets fmt, with fmt's text TOLD by the authors' own Lean function (tested against real Go, not proved from fmt's source: count such statements apart). THE CARD IS WHAT COUNTS. Prove the row's statement (the work); the ties are given (YthdkhikkdcjifaaDoorTie.lean); close each card by the builder's one call (the guide's Derived/Test/ToyasCard.lean, 'card_holds'). Laid BY PROGRAM, IN A SANDBOX (cutbox-door.mjs). By AI agents, Wed Nov 11 2026. No macro, syntax, notation, axiom, sorry.
-/
import Derived.Test.YthdkhikkdcjifaaDoorRows
import GoSem.ClaimSeven
namespace Go.Proofs.YthdkhikkdcjifaaDoor
namespace Rows

/-- THE TIED CARD OF 'laws.FnExactCountReached'. -/
def fnExactCountReachedCard : Claim7 := { stood := { row := fnExactCountReachedRow, standIns := [], harness := (true, "17e3fdf96b6dfa106ca26a02ba5de3ccdb2435d3295792db908f76c8a3ac162a"), looks := false }, kinds := [], alts := [], laidByText := true, laidKinds := [.data, .pinned], laidTests := true, laidLooks := .later }
def FnExactCountReachedCardSaid : Prop := Claim7.holds Tryd.pinned (.plain (OpenSpec.ofChange fnExactCountReachedSpec)) fnExactCountReachedCard

/-- THE TIED CARD OF 'laws.FnExactIsReached'. -/
def fnExactIsReachedCard : Claim7 := { stood := { row := fnExactIsReachedRow, standIns := [], harness := (true, "17e3fdf96b6dfa106ca26a02ba5de3ccdb2435d3295792db908f76c8a3ac162a"), looks := false }, kinds := [], alts := [], laidByText := true, laidKinds := [.data, .pinned], laidTests := true, laidLooks := .later }
def FnExactIsReachedCardSaid : Prop := Claim7.holds Tryd.pinned (.plain (OpenSpec.ofChange fnExactIsReachedSpec)) fnExactIsReachedCard

/-- THE TIED CARD OF 'laws.FnExactDistanceTo'. -/
def fnExactDistanceToCard : Claim7 := { stood := { row := fnExactDistanceToRow, standIns := [], harness := (true, "17e3fdf96b6dfa106ca26a02ba5de3ccdb2435d3295792db908f76c8a3ac162a"), looks := false }, kinds := [], alts := [], laidByText := true, laidKinds := [.data, .pinned], laidTests := true, laidLooks := .later }
def FnExactDistanceToCardSaid : Prop := Claim7.holds Tryd.pinned (.plain (OpenSpec.ofChange fnExactDistanceToSpec)) fnExactDistanceToCard

/-- THE TIED CARD OF 'laws.FnExactShortestWay'. -/
def fnExactShortestWayCard : Claim7 := { stood := { row := fnExactShortestWayRow, standIns := [], harness := (true, "17e3fdf96b6dfa106ca26a02ba5de3ccdb2435d3295792db908f76c8a3ac162a"), looks := false }, kinds := [], alts := [], laidByText := true, laidKinds := [.data, .pinned], laidTests := true, laidLooks := .later }
def FnExactShortestWayCardSaid : Prop := Claim7.holds Tryd.pinned (.plain (OpenSpec.ofChange fnExactShortestWaySpec)) fnExactShortestWayCard

/-- THE TIED CARD OF 'laws.FnExactCountShortest'. -/
def fnExactCountShortestCard : Claim7 := { stood := { row := fnExactCountShortestRow, standIns := [], harness := (true, "17e3fdf96b6dfa106ca26a02ba5de3ccdb2435d3295792db908f76c8a3ac162a"), looks := false }, kinds := [], alts := [], laidByText := true, laidKinds := [.data, .pinned], laidTests := true, laidLooks := .later }
def FnExactCountShortestCardSaid : Prop := Claim7.holds Tryd.pinned (.plain (OpenSpec.ofChange fnExactCountShortestSpec)) fnExactCountShortestCard

/-- THE TIED CARD OF 'laws.FnExactWayToTop'. -/
def fnExactWayToTopCard : Claim7 := { stood := { row := fnExactWayToTopRow, standIns := [], harness := (true, "17e3fdf96b6dfa106ca26a02ba5de3ccdb2435d3295792db908f76c8a3ac162a"), looks := false }, kinds := [], alts := [], laidByText := true, laidKinds := [.data, .pinned], laidTests := true, laidLooks := .later }
def FnExactWayToTopCardSaid : Prop := Claim7.holds Tryd.pinned (.plain (OpenSpec.ofChange fnExactWayToTopSpec)) fnExactWayToTopCard

/-- THE TIED CARD OF 'laws.FnExactWayToCell'. -/
def fnExactWayToCellCard : Claim7 := { stood := { row := fnExactWayToCellRow, standIns := [], harness := (true, "17e3fdf96b6dfa106ca26a02ba5de3ccdb2435d3295792db908f76c8a3ac162a"), looks := false }, kinds := [], alts := [], laidByText := true, laidKinds := [.data, .pinned], laidTests := true, laidLooks := .later }
def FnExactWayToCellCardSaid : Prop := Claim7.holds Tryd.pinned (.plain (OpenSpec.ofChange fnExactWayToCellSpec)) fnExactWayToCellCard

/-- THE TIED CARD OF 'laws.FnExactDiceAt'. -/
def fnExactDiceAtCard : Claim7 := { stood := { row := fnExactDiceAtRow, standIns := [], harness := (true, "17e3fdf96b6dfa106ca26a02ba5de3ccdb2435d3295792db908f76c8a3ac162a"), looks := false }, kinds := [], alts := [], laidByText := true, laidKinds := [.data, .pinned], laidTests := true, laidLooks := .later }
def FnExactDiceAtCardSaid : Prop := Claim7.holds Tryd.pinned (.plain (OpenSpec.ofChange fnExactDiceAtSpec)) fnExactDiceAtCard

/-- THE TIED CARD OF 'laws.FnExactTopsAt'. -/
def fnExactTopsAtCard : Claim7 := { stood := { row := fnExactTopsAtRow, standIns := [], harness := (true, "17e3fdf96b6dfa106ca26a02ba5de3ccdb2435d3295792db908f76c8a3ac162a"), looks := false }, kinds := [], alts := [], laidByText := true, laidKinds := [.data, .pinned], laidTests := true, laidLooks := .later }
def FnExactTopsAtCardSaid : Prop := Claim7.holds Tryd.pinned (.plain (OpenSpec.ofChange fnExactTopsAtSpec)) fnExactTopsAtCard

/-- THE TIED CARD OF 'laws.FnExactLayersOf'. -/
def fnExactLayersOfCard : Claim7 := { stood := { row := fnExactLayersOfRow, standIns := [], harness := (true, "17e3fdf96b6dfa106ca26a02ba5de3ccdb2435d3295792db908f76c8a3ac162a"), looks := false }, kinds := [], alts := [], laidByText := true, laidKinds := [.data, .pinned], laidTests := true, laidLooks := .later }
def FnExactLayersOfCardSaid : Prop := Claim7.holds Tryd.pinned (.plain (OpenSpec.ofChange fnExactLayersOfSpec)) fnExactLayersOfCard

/-- THE TIED CARD OF 'laws.FnExactFarthestState'. -/
def fnExactFarthestStateCard : Claim7 := { stood := { row := fnExactFarthestStateRow, standIns := [], harness := (true, "17e3fdf96b6dfa106ca26a02ba5de3ccdb2435d3295792db908f76c8a3ac162a"), looks := false }, kinds := [], alts := [], laidByText := true, laidKinds := [.data, .pinned], laidTests := true, laidLooks := .later }
def FnExactFarthestStateCardSaid : Prop := Claim7.holds Tryd.pinned (.plain (OpenSpec.ofChange fnExactFarthestStateSpec)) fnExactFarthestStateCard

/-- THE SECOND FORM's CARD OF 'laws.FnExactCountReached'. -/
def fnExactCountReachedUptoCard : Claim7 := { stood := { row := fnExactCountReachedUptoRow, standIns := [], harness := (true, "17e3fdf96b6dfa106ca26a02ba5de3ccdb2435d3295792db908f76c8a3ac162a"), looks := false }, kinds := [], alts := [], laidByText := true, laidKinds := [.data, .pinned], laidTests := true, laidLooks := .later }
def FnExactCountReachedUptoCardSaid : Prop := Claim7.holds Tryd.pinned (.plain (OpenSpec.upto fnExactCountReachedSpec)) fnExactCountReachedUptoCard

/-- THE SECOND FORM's CARD OF 'laws.FnExactIsReached'. -/
def fnExactIsReachedUptoCard : Claim7 := { stood := { row := fnExactIsReachedUptoRow, standIns := [], harness := (true, "17e3fdf96b6dfa106ca26a02ba5de3ccdb2435d3295792db908f76c8a3ac162a"), looks := false }, kinds := [], alts := [], laidByText := true, laidKinds := [.data, .pinned], laidTests := true, laidLooks := .later }
def FnExactIsReachedUptoCardSaid : Prop := Claim7.holds Tryd.pinned (.plain (OpenSpec.upto fnExactIsReachedSpec)) fnExactIsReachedUptoCard

/-- THE SECOND FORM's CARD OF 'laws.FnExactDistanceTo'. -/
def fnExactDistanceToUptoCard : Claim7 := { stood := { row := fnExactDistanceToUptoRow, standIns := [], harness := (true, "17e3fdf96b6dfa106ca26a02ba5de3ccdb2435d3295792db908f76c8a3ac162a"), looks := false }, kinds := [], alts := [], laidByText := true, laidKinds := [.data, .pinned], laidTests := true, laidLooks := .later }
def FnExactDistanceToUptoCardSaid : Prop := Claim7.holds Tryd.pinned (.plain (OpenSpec.upto fnExactDistanceToSpec)) fnExactDistanceToUptoCard

/-- THE SECOND FORM's CARD OF 'laws.FnExactShortestWay'. -/
def fnExactShortestWayUptoCard : Claim7 := { stood := { row := fnExactShortestWayUptoRow, standIns := [], harness := (true, "17e3fdf96b6dfa106ca26a02ba5de3ccdb2435d3295792db908f76c8a3ac162a"), looks := false }, kinds := [], alts := [], laidByText := true, laidKinds := [.data, .pinned], laidTests := true, laidLooks := .later }
def FnExactShortestWayUptoCardSaid : Prop := Claim7.holds Tryd.pinned (.plain (OpenSpec.upto fnExactShortestWaySpec)) fnExactShortestWayUptoCard

/-- THE SECOND FORM's CARD OF 'laws.FnExactCountShortest'. -/
def fnExactCountShortestUptoCard : Claim7 := { stood := { row := fnExactCountShortestUptoRow, standIns := [], harness := (true, "17e3fdf96b6dfa106ca26a02ba5de3ccdb2435d3295792db908f76c8a3ac162a"), looks := false }, kinds := [], alts := [], laidByText := true, laidKinds := [.data, .pinned], laidTests := true, laidLooks := .later }
def FnExactCountShortestUptoCardSaid : Prop := Claim7.holds Tryd.pinned (.plain (OpenSpec.upto fnExactCountShortestSpec)) fnExactCountShortestUptoCard

/-- THE SECOND FORM's CARD OF 'laws.FnExactWayToTop'. -/
def fnExactWayToTopUptoCard : Claim7 := { stood := { row := fnExactWayToTopUptoRow, standIns := [], harness := (true, "17e3fdf96b6dfa106ca26a02ba5de3ccdb2435d3295792db908f76c8a3ac162a"), looks := false }, kinds := [], alts := [], laidByText := true, laidKinds := [.data, .pinned], laidTests := true, laidLooks := .later }
def FnExactWayToTopUptoCardSaid : Prop := Claim7.holds Tryd.pinned (.plain (OpenSpec.upto fnExactWayToTopSpec)) fnExactWayToTopUptoCard

/-- THE SECOND FORM's CARD OF 'laws.FnExactWayToCell'. -/
def fnExactWayToCellUptoCard : Claim7 := { stood := { row := fnExactWayToCellUptoRow, standIns := [], harness := (true, "17e3fdf96b6dfa106ca26a02ba5de3ccdb2435d3295792db908f76c8a3ac162a"), looks := false }, kinds := [], alts := [], laidByText := true, laidKinds := [.data, .pinned], laidTests := true, laidLooks := .later }
def FnExactWayToCellUptoCardSaid : Prop := Claim7.holds Tryd.pinned (.plain (OpenSpec.upto fnExactWayToCellSpec)) fnExactWayToCellUptoCard

/-- THE SECOND FORM's CARD OF 'laws.FnExactDiceAt'. -/
def fnExactDiceAtUptoCard : Claim7 := { stood := { row := fnExactDiceAtUptoRow, standIns := [], harness := (true, "17e3fdf96b6dfa106ca26a02ba5de3ccdb2435d3295792db908f76c8a3ac162a"), looks := false }, kinds := [], alts := [], laidByText := true, laidKinds := [.data, .pinned], laidTests := true, laidLooks := .later }
def FnExactDiceAtUptoCardSaid : Prop := Claim7.holds Tryd.pinned (.plain (OpenSpec.upto fnExactDiceAtSpec)) fnExactDiceAtUptoCard

/-- THE SECOND FORM's CARD OF 'laws.FnExactTopsAt'. -/
def fnExactTopsAtUptoCard : Claim7 := { stood := { row := fnExactTopsAtUptoRow, standIns := [], harness := (true, "17e3fdf96b6dfa106ca26a02ba5de3ccdb2435d3295792db908f76c8a3ac162a"), looks := false }, kinds := [], alts := [], laidByText := true, laidKinds := [.data, .pinned], laidTests := true, laidLooks := .later }
def FnExactTopsAtUptoCardSaid : Prop := Claim7.holds Tryd.pinned (.plain (OpenSpec.upto fnExactTopsAtSpec)) fnExactTopsAtUptoCard

/-- THE SECOND FORM's CARD OF 'laws.FnExactLayersOf'. -/
def fnExactLayersOfUptoCard : Claim7 := { stood := { row := fnExactLayersOfUptoRow, standIns := [], harness := (true, "17e3fdf96b6dfa106ca26a02ba5de3ccdb2435d3295792db908f76c8a3ac162a"), looks := false }, kinds := [], alts := [], laidByText := true, laidKinds := [.data, .pinned], laidTests := true, laidLooks := .later }
def FnExactLayersOfUptoCardSaid : Prop := Claim7.holds Tryd.pinned (.plain (OpenSpec.upto fnExactLayersOfSpec)) fnExactLayersOfUptoCard

/-- THE SECOND FORM's CARD OF 'laws.FnExactFarthestState'. -/
def fnExactFarthestStateUptoCard : Claim7 := { stood := { row := fnExactFarthestStateUptoRow, standIns := [], harness := (true, "17e3fdf96b6dfa106ca26a02ba5de3ccdb2435d3295792db908f76c8a3ac162a"), looks := false }, kinds := [], alts := [], laidByText := true, laidKinds := [.data, .pinned], laidTests := true, laidLooks := .later }
def FnExactFarthestStateUptoCardSaid : Prop := Claim7.holds Tryd.pinned (.plain (OpenSpec.upto fnExactFarthestStateSpec)) fnExactFarthestStateUptoCard
end Rows
end Go.Proofs.YthdkhikkdcjifaaDoor
