/-
  DERIVED. GIVEN WITH THE SEED: THE CARDS: each row of YtkknjokacinlaaaDoorRows.lean that lists a variable, with what it lists TIED to the program's text (the seventh form; the later family's looks); each row that meets fmt, with fmt's text TOLD by the authors' own Lean function (tested against real Go, not proved from fmt's source: count such statements apart). THE CARD IS WHAT COUNTS. Prove the row's statement (the work); the ties are given (YtkknjokacinlaaaDoorTie.lean); close each card by the builder's one call (the guide's Derived/Test/ToyasCard.lean, 'card_holds'). Laid BY PROGRAM, IN A SANDBOX (cutbox-door.mjs). By AI agents, Wed Nov 11 2026. No macro, syntax, notation, axiom, sorry.
-/
import Derived.Test.YtkknjokacinlaaaDoorRows
import GoSem.ClaimSeven
namespace Go.Proofs.YtkknjokacinlaaaDoor
namespace Rows

/-- THE TIED CARD OF 'laws.FnExactTourOf'. -/
def fnExactTourOfCard : Claim7 := { stood := { row := fnExactTourOfRow, standIns := [], harness := (true, "e0ce504e1123d0a8187600fbaa94d30647f88736bdf82f13cde5d462acb7ba55"), looks := false }, kinds := [], alts := [], laidByText := true, laidKinds := [.data, .pinned], laidTests := true, laidLooks := .later }
def FnExactTourOfCardSaid : Prop := Claim7.holds Tryd.pinned (.plain (OpenSpec.ofChange fnExactTourOfSpec)) fnExactTourOfCard

/-- THE TIED CARD OF 'laws.FnExactCountTours'. -/
def fnExactCountToursCard : Claim7 := { stood := { row := fnExactCountToursRow, standIns := [], harness := (true, "e0ce504e1123d0a8187600fbaa94d30647f88736bdf82f13cde5d462acb7ba55"), looks := false }, kinds := [], alts := [], laidByText := true, laidKinds := [.data, .pinned], laidTests := true, laidLooks := .later }
def FnExactCountToursCardSaid : Prop := Claim7.holds Tryd.pinned (.plain (OpenSpec.ofChange fnExactCountToursSpec)) fnExactCountToursCard

/-- THE TIED CARD OF 'laws.FnExactCountFaceTrees'. -/
def fnExactCountFaceTreesCard : Claim7 := { stood := { row := fnExactCountFaceTreesRow, standIns := [], harness := (true, "e0ce504e1123d0a8187600fbaa94d30647f88736bdf82f13cde5d462acb7ba55"), looks := false }, kinds := [], alts := [], laidByText := true, laidKinds := [.data], laidTests := true, laidLooks := .later }
def FnExactCountFaceTreesCardSaid : Prop := Claim7.holds Tryd.pinned (.plain (OpenSpec.ofChange fnExactCountFaceTreesSpec)) fnExactCountFaceTreesCard

/-- THE SECOND FORM's CARD OF 'laws.FnExactTourOf'. -/
def fnExactTourOfUptoCard : Claim7 := { stood := { row := fnExactTourOfUptoRow, standIns := [], harness := (true, "e0ce504e1123d0a8187600fbaa94d30647f88736bdf82f13cde5d462acb7ba55"), looks := false }, kinds := [], alts := [], laidByText := true, laidKinds := [.data, .pinned], laidTests := true, laidLooks := .later }
def FnExactTourOfUptoCardSaid : Prop := Claim7.holds Tryd.pinned (.plain (OpenSpec.upto fnExactTourOfSpec)) fnExactTourOfUptoCard

/-- THE SECOND FORM's CARD OF 'laws.FnExactCountTours'. -/
def fnExactCountToursUptoCard : Claim7 := { stood := { row := fnExactCountToursUptoRow, standIns := [], harness := (true, "e0ce504e1123d0a8187600fbaa94d30647f88736bdf82f13cde5d462acb7ba55"), looks := false }, kinds := [], alts := [], laidByText := true, laidKinds := [.data, .pinned], laidTests := true, laidLooks := .later }
def FnExactCountToursUptoCardSaid : Prop := Claim7.holds Tryd.pinned (.plain (OpenSpec.upto fnExactCountToursSpec)) fnExactCountToursUptoCard

/-- THE SECOND FORM's CARD OF 'laws.FnExactCountFaceTrees'. -/
def fnExactCountFaceTreesUptoCard : Claim7 := { stood := { row := fnExactCountFaceTreesUptoRow, standIns := [], harness := (true, "e0ce504e1123d0a8187600fbaa94d30647f88736bdf82f13cde5d462acb7ba55"), looks := false }, kinds := [], alts := [], laidByText := true, laidKinds := [.data], laidTests := true, laidLooks := .later }
def FnExactCountFaceTreesUptoCardSaid : Prop := Claim7.holds Tryd.pinned (.plain (OpenSpec.upto fnExactCountFaceTreesSpec)) fnExactCountFaceTreesUptoCard
end Rows
end Go.Proofs.YtkknjokacinlaaaDoor
