/-
  NARROWER THAN 'FOR EVERY INPUT', by the rows' own cells (each row's printed sentence says how): FnExactIsGround: laid · FnExactIsBox: laid · FnExactRollBox: laid · FnExactBoxWays: laid · FnExactRollBoxAlong: laid · FnExactPosesAlong: laid · FnExactCountBoxes: laid · FnExactPlacesOnGround: laid · FnExactTurnBox: laid · FnExactTurnGround: laid.
  DERIVED. THE GIVEN ROWS OF THIS SEAT. 10 by the template 'for every input the law returns true; each argument reads behind the call as it read before'; 0 by the template 'total and deterministic' (their statements: YtoojoghgbmpbpaaDoorTotals.lean).
  GIVEN WITH THE SEED: the statements are not yours to turn. If you find one false, say at which input.
  Laid BY PROGRAM, IN A SANDBOX (cutbox-rows.mjs): the forced cells as the released guide's own fill.sh prints them over the translation 4f95e629364f48ed… (all of the seat's roots in one cut). By AI agents, Wed Nov 11 2026. No macro, syntax, notation, axiom, sorry.
-/
import Derived.Test.YtoojoghgbmpbpaaDoorChecked
import GoSem.PinnedTables
import GoSem.Claim
import GoSem.ClaimJoined
import GoSem.ClaimMapViews
import Derived.JoinedTies
import Derived.KernelRfl
namespace Go.Proofs.YtoojoghgbmpbpaaDoor
/- THE CELL 'sum', in the pinned program and in every row, IS THE sha256 OF THE DUMP (.gsa) THAT YtoojoghgbmpbpaaDoorProg.lean LOADS. Nothing in Lean hashes anything: it is a label: what it is worth is what the hold of that sum in a sandbox is worth. -/
noncomputable def Tryd.pinned : Pinned := { name := "ytoojoghgbmpbpaadoor", sum := "4f95e629364f48ed9bb61a4b97bfc067a4d35a8504aeb9794e25e1e487420db1", checked := Tryd.checked }
namespace Rows
def none {H : Type} : Left H := { results := [], args := [] }

/- WHAT THE LISTED PACKAGE-LEVEL VARIABLES READ AS WHEN THE CALL BEGINS. Each datum BY PROGRAM (the guide's laid-datum.mjs) off the statement by which the dump's own 'gosem.cut.vars' lays the variable. In a bare row this is a premise. The card (YtoojoghgbmpbpaaDoorCards.lean) ties it to the program's text. -/
def laid_unicode_utf8_acceptRanges {H : Type} : DataW H := .agg [.agg [.lit (.int .u8 128), .lit (.int .u8 191)], .agg [.lit (.int .u8 160), .lit (.int .u8 191)], .agg [.lit (.int .u8 128), .lit (.int .u8 159)], .agg [.lit (.int .u8 144), .lit (.int .u8 191)], .agg [.lit (.int .u8 128), .lit (.int .u8 143)], .agg [.lit (.int .u8 0), .lit (.int .u8 0)], .agg [.lit (.int .u8 0), .lit (.int .u8 0)], .agg [.lit (.int .u8 0), .lit (.int .u8 0)], .agg [.lit (.int .u8 0), .lit (.int .u8 0)], .agg [.lit (.int .u8 0), .lit (.int .u8 0)], .agg [.lit (.int .u8 0), .lit (.int .u8 0)], .agg [.lit (.int .u8 0), .lit (.int .u8 0)], .agg [.lit (.int .u8 0), .lit (.int .u8 0)], .agg [.lit (.int .u8 0), .lit (.int .u8 0)], .agg [.lit (.int .u8 0), .lit (.int .u8 0)], .agg [.lit (.int .u8 0), .lit (.int .u8 0)]]
/-- One of Go's own tables, pinned by name: the form's constant. -/
def laid_unicode_utf8_first : DataW Unit := Go.Pinned.utf8First

/-- 'laws.FnExactIsGround': WHATEVER THE INPUT: true; the input reads as it did. -/
def fnExactIsGroundSpec : ChangeSpec := { name := "fnExactIsGround", fn := fun _ => fun
  | [d] => { results := [.lit (.bool true)], args := [d] }
  | _ => none }
def fnExactIsGroundRow : OpenClaim := { program := "ytoojoghgbmpbpaadoor", sum := "4f95e629364f48ed9bb61a4b97bfc067a4d35a8504aeb9794e25e1e487420db1", func := "loop.example/g01207/laws.FnExactIsGround", spec := "fnExactIsGround", inPlace := ["internal/bytealg.CountString", "internal/bytealg.IndexByteString", "internal/bytealg.IndexString"], named := ["internal/bytealg.MaxLen", "unicode/utf8.first", "unicode/utf8.acceptRanges"], plainKeys := false, apart := false, laid := [("unicode/utf8.acceptRanges", laid_unicode_utf8_acceptRanges), ("unicode/utf8.first", laid_unicode_utf8_first)] }
def FnExactIsGroundSaid : Prop := fnExactIsGroundRow.holds Tryd.pinned (OpenSpec.ofChange fnExactIsGroundSpec)

/-- ITS FALSE NEIGHBOUR: 'it returns false'. Refute it at one input. -/
def fnExactIsGroundWrong : ChangeSpec := { name := "fnExactIsGround", fn := fun _ => fun
  | [d] => { results := [.lit (.bool false)], args := [d] }
  | _ => none }
def FnExactIsGroundWrongFalsely : Prop := fnExactIsGroundRow.holds Tryd.pinned (OpenSpec.ofChange fnExactIsGroundWrong)

/-- 'laws.FnExactIsBox': WHATEVER THE INPUT: true; the input reads as it did. -/
def fnExactIsBoxSpec : ChangeSpec := { name := "fnExactIsBox", fn := fun _ => fun
  | [d1, d2] => { results := [.lit (.bool true)], args := [d1, d2] }
  | _ => none }
def fnExactIsBoxRow : OpenClaim := { program := "ytoojoghgbmpbpaadoor", sum := "4f95e629364f48ed9bb61a4b97bfc067a4d35a8504aeb9794e25e1e487420db1", func := "loop.example/g01207/laws.FnExactIsBox", spec := "fnExactIsBox", inPlace := ["internal/bytealg.CountString", "internal/bytealg.IndexByteString", "internal/bytealg.IndexString"], named := ["internal/bytealg.MaxLen", "unicode/utf8.first", "unicode/utf8.acceptRanges"], plainKeys := false, apart := false, laid := [("unicode/utf8.acceptRanges", laid_unicode_utf8_acceptRanges), ("unicode/utf8.first", laid_unicode_utf8_first)] }
def FnExactIsBoxSaid : Prop := fnExactIsBoxRow.holds Tryd.pinned (OpenSpec.ofChange fnExactIsBoxSpec)

/-- ITS FALSE NEIGHBOUR: 'it returns false'. Refute it at one input. -/
def fnExactIsBoxWrong : ChangeSpec := { name := "fnExactIsBox", fn := fun _ => fun
  | [d1, d2] => { results := [.lit (.bool false)], args := [d1, d2] }
  | _ => none }
def FnExactIsBoxWrongFalsely : Prop := fnExactIsBoxRow.holds Tryd.pinned (OpenSpec.ofChange fnExactIsBoxWrong)

/-- 'laws.FnExactRollBox': WHATEVER THE INPUT: true; the input reads as it did. -/
def fnExactRollBoxSpec : ChangeSpec := { name := "fnExactRollBox", fn := fun _ => fun
  | [d1, d2, d3] => { results := [.lit (.bool true)], args := [d1, d2, d3] }
  | _ => none }
def fnExactRollBoxRow : OpenClaim := { program := "ytoojoghgbmpbpaadoor", sum := "4f95e629364f48ed9bb61a4b97bfc067a4d35a8504aeb9794e25e1e487420db1", func := "loop.example/g01207/laws.FnExactRollBox", spec := "fnExactRollBox", inPlace := ["internal/bytealg.IndexByteString", "internal/bytealg.CountString", "internal/bytealg.IndexString"], named := ["internal/bytealg.MaxLen", "unicode/utf8.first", "unicode/utf8.acceptRanges"], plainKeys := false, apart := false, laid := [("unicode/utf8.acceptRanges", laid_unicode_utf8_acceptRanges), ("unicode/utf8.first", laid_unicode_utf8_first)] }
def FnExactRollBoxSaid : Prop := fnExactRollBoxRow.holds Tryd.pinned (OpenSpec.ofChange fnExactRollBoxSpec)

/-- ITS FALSE NEIGHBOUR: 'it returns false'. Refute it at one input. -/
def fnExactRollBoxWrong : ChangeSpec := { name := "fnExactRollBox", fn := fun _ => fun
  | [d1, d2, d3] => { results := [.lit (.bool false)], args := [d1, d2, d3] }
  | _ => none }
def FnExactRollBoxWrongFalsely : Prop := fnExactRollBoxRow.holds Tryd.pinned (OpenSpec.ofChange fnExactRollBoxWrong)

/-- 'laws.FnExactBoxWays': WHATEVER THE INPUT: true; the input reads as it did. -/
def fnExactBoxWaysSpec : ChangeSpec := { name := "fnExactBoxWays", fn := fun _ => fun
  | [d1, d2] => { results := [.lit (.bool true)], args := [d1, d2] }
  | _ => none }
def fnExactBoxWaysRow : OpenClaim := { program := "ytoojoghgbmpbpaadoor", sum := "4f95e629364f48ed9bb61a4b97bfc067a4d35a8504aeb9794e25e1e487420db1", func := "loop.example/g01207/laws.FnExactBoxWays", spec := "fnExactBoxWays", inPlace := ["internal/bytealg.CountString", "internal/bytealg.IndexByteString", "internal/bytealg.IndexString"], unfollowed := true, recurses := true, named := ["internal/bytealg.MaxLen", "unicode/utf8.first", "unicode/utf8.acceptRanges"], plainKeys := false, apart := false, laid := [("unicode/utf8.acceptRanges", laid_unicode_utf8_acceptRanges), ("unicode/utf8.first", laid_unicode_utf8_first)] }
def FnExactBoxWaysSaid : Prop := fnExactBoxWaysRow.holds Tryd.pinned (OpenSpec.ofChange fnExactBoxWaysSpec)

/-- ITS FALSE NEIGHBOUR: 'it returns false'. Refute it at one input. -/
def fnExactBoxWaysWrong : ChangeSpec := { name := "fnExactBoxWays", fn := fun _ => fun
  | [d1, d2] => { results := [.lit (.bool false)], args := [d1, d2] }
  | _ => none }
def FnExactBoxWaysWrongFalsely : Prop := fnExactBoxWaysRow.holds Tryd.pinned (OpenSpec.ofChange fnExactBoxWaysWrong)

/-- 'laws.FnExactRollBoxAlong': WHATEVER THE INPUT: true; the input reads as it did. -/
def fnExactRollBoxAlongSpec : ChangeSpec := { name := "fnExactRollBoxAlong", fn := fun _ => fun
  | [d1, d2, d3] => { results := [.lit (.bool true)], args := [d1, d2, d3] }
  | _ => none }
def fnExactRollBoxAlongRow : OpenClaim := { program := "ytoojoghgbmpbpaadoor", sum := "4f95e629364f48ed9bb61a4b97bfc067a4d35a8504aeb9794e25e1e487420db1", func := "loop.example/g01207/laws.FnExactRollBoxAlong", spec := "fnExactRollBoxAlong", inPlace := ["internal/bytealg.CountString", "internal/bytealg.IndexByteString", "internal/bytealg.IndexString"], named := ["internal/bytealg.MaxLen", "unicode/utf8.first", "unicode/utf8.acceptRanges"], plainKeys := false, apart := false, laid := [("unicode/utf8.acceptRanges", laid_unicode_utf8_acceptRanges), ("unicode/utf8.first", laid_unicode_utf8_first)] }
def FnExactRollBoxAlongSaid : Prop := fnExactRollBoxAlongRow.holds Tryd.pinned (OpenSpec.ofChange fnExactRollBoxAlongSpec)

/-- ITS FALSE NEIGHBOUR: 'it returns false'. Refute it at one input. -/
def fnExactRollBoxAlongWrong : ChangeSpec := { name := "fnExactRollBoxAlong", fn := fun _ => fun
  | [d1, d2, d3] => { results := [.lit (.bool false)], args := [d1, d2, d3] }
  | _ => none }
def FnExactRollBoxAlongWrongFalsely : Prop := fnExactRollBoxAlongRow.holds Tryd.pinned (OpenSpec.ofChange fnExactRollBoxAlongWrong)

/-- 'laws.FnExactPosesAlong': WHATEVER THE INPUT: true; the input reads as it did. -/
def fnExactPosesAlongSpec : ChangeSpec := { name := "fnExactPosesAlong", fn := fun _ => fun
  | [d1, d2, d3] => { results := [.lit (.bool true)], args := [d1, d2, d3] }
  | _ => none }
def fnExactPosesAlongRow : OpenClaim := { program := "ytoojoghgbmpbpaadoor", sum := "4f95e629364f48ed9bb61a4b97bfc067a4d35a8504aeb9794e25e1e487420db1", func := "loop.example/g01207/laws.FnExactPosesAlong", spec := "fnExactPosesAlong", inPlace := ["internal/bytealg.CountString", "internal/bytealg.IndexByteString", "internal/bytealg.IndexString"], named := ["internal/bytealg.MaxLen", "unicode/utf8.first", "unicode/utf8.acceptRanges"], plainKeys := false, apart := false, laid := [("unicode/utf8.acceptRanges", laid_unicode_utf8_acceptRanges), ("unicode/utf8.first", laid_unicode_utf8_first)] }
def FnExactPosesAlongSaid : Prop := fnExactPosesAlongRow.holds Tryd.pinned (OpenSpec.ofChange fnExactPosesAlongSpec)

/-- ITS FALSE NEIGHBOUR: 'it returns false'. Refute it at one input. -/
def fnExactPosesAlongWrong : ChangeSpec := { name := "fnExactPosesAlong", fn := fun _ => fun
  | [d1, d2, d3] => { results := [.lit (.bool false)], args := [d1, d2, d3] }
  | _ => none }
def FnExactPosesAlongWrongFalsely : Prop := fnExactPosesAlongRow.holds Tryd.pinned (OpenSpec.ofChange fnExactPosesAlongWrong)

/-- 'laws.FnExactCountBoxes': WHATEVER THE INPUT: true; the input reads as it did. -/
def fnExactCountBoxesSpec : ChangeSpec := { name := "fnExactCountBoxes", fn := fun _ => fun
  | [d1, d2] => { results := [.lit (.bool true)], args := [d1, d2] }
  | _ => none }
def fnExactCountBoxesRow : OpenClaim := { program := "ytoojoghgbmpbpaadoor", sum := "4f95e629364f48ed9bb61a4b97bfc067a4d35a8504aeb9794e25e1e487420db1", func := "loop.example/g01207/laws.FnExactCountBoxes", spec := "fnExactCountBoxes", inPlace := ["internal/bytealg.CountString", "internal/bytealg.IndexByteString", "internal/bytealg.IndexString"], unfollowed := true, recurses := true, named := ["internal/bytealg.MaxLen", "unicode/utf8.first", "unicode/utf8.acceptRanges"], plainKeys := false, apart := false, laid := [("unicode/utf8.acceptRanges", laid_unicode_utf8_acceptRanges), ("unicode/utf8.first", laid_unicode_utf8_first)] }
def FnExactCountBoxesSaid : Prop := fnExactCountBoxesRow.holds Tryd.pinned (OpenSpec.ofChange fnExactCountBoxesSpec)

/-- ITS FALSE NEIGHBOUR: 'it returns false'. Refute it at one input. -/
def fnExactCountBoxesWrong : ChangeSpec := { name := "fnExactCountBoxes", fn := fun _ => fun
  | [d1, d2] => { results := [.lit (.bool false)], args := [d1, d2] }
  | _ => none }
def FnExactCountBoxesWrongFalsely : Prop := fnExactCountBoxesRow.holds Tryd.pinned (OpenSpec.ofChange fnExactCountBoxesWrong)

/-- 'laws.FnExactPlacesOnGround': WHATEVER THE INPUT: true; the input reads as it did. -/
def fnExactPlacesOnGroundSpec : ChangeSpec := { name := "fnExactPlacesOnGround", fn := fun _ => fun
  | [d] => { results := [.lit (.bool true)], args := [d] }
  | _ => none }
def fnExactPlacesOnGroundRow : OpenClaim := { program := "ytoojoghgbmpbpaadoor", sum := "4f95e629364f48ed9bb61a4b97bfc067a4d35a8504aeb9794e25e1e487420db1", func := "loop.example/g01207/laws.FnExactPlacesOnGround", spec := "fnExactPlacesOnGround", inPlace := ["internal/bytealg.CountString", "internal/bytealg.IndexByteString", "internal/bytealg.IndexString"], named := ["internal/bytealg.MaxLen", "unicode/utf8.first", "unicode/utf8.acceptRanges"], plainKeys := false, apart := false, laid := [("unicode/utf8.acceptRanges", laid_unicode_utf8_acceptRanges), ("unicode/utf8.first", laid_unicode_utf8_first)] }
def FnExactPlacesOnGroundSaid : Prop := fnExactPlacesOnGroundRow.holds Tryd.pinned (OpenSpec.ofChange fnExactPlacesOnGroundSpec)

/-- ITS FALSE NEIGHBOUR: 'it returns false'. Refute it at one input. -/
def fnExactPlacesOnGroundWrong : ChangeSpec := { name := "fnExactPlacesOnGround", fn := fun _ => fun
  | [d] => { results := [.lit (.bool false)], args := [d] }
  | _ => none }
def FnExactPlacesOnGroundWrongFalsely : Prop := fnExactPlacesOnGroundRow.holds Tryd.pinned (OpenSpec.ofChange fnExactPlacesOnGroundWrong)

/-- 'laws.FnExactTurnBox': WHATEVER THE INPUT: true; the input reads as it did. -/
def fnExactTurnBoxSpec : ChangeSpec := { name := "fnExactTurnBox", fn := fun _ => fun
  | [d1, d2] => { results := [.lit (.bool true)], args := [d1, d2] }
  | _ => none }
def fnExactTurnBoxRow : OpenClaim := { program := "ytoojoghgbmpbpaadoor", sum := "4f95e629364f48ed9bb61a4b97bfc067a4d35a8504aeb9794e25e1e487420db1", func := "loop.example/g01207/laws.FnExactTurnBox", spec := "fnExactTurnBox", inPlace := ["internal/bytealg.CountString", "internal/bytealg.IndexByteString", "internal/bytealg.IndexString"], named := ["internal/bytealg.MaxLen", "unicode/utf8.first", "unicode/utf8.acceptRanges"], plainKeys := false, apart := false, laid := [("unicode/utf8.acceptRanges", laid_unicode_utf8_acceptRanges), ("unicode/utf8.first", laid_unicode_utf8_first)] }
def FnExactTurnBoxSaid : Prop := fnExactTurnBoxRow.holds Tryd.pinned (OpenSpec.ofChange fnExactTurnBoxSpec)

/-- ITS FALSE NEIGHBOUR: 'it returns false'. Refute it at one input. -/
def fnExactTurnBoxWrong : ChangeSpec := { name := "fnExactTurnBox", fn := fun _ => fun
  | [d1, d2] => { results := [.lit (.bool false)], args := [d1, d2] }
  | _ => none }
def FnExactTurnBoxWrongFalsely : Prop := fnExactTurnBoxRow.holds Tryd.pinned (OpenSpec.ofChange fnExactTurnBoxWrong)

/-- 'laws.FnExactTurnGround': WHATEVER THE INPUT: true; the input reads as it did. -/
def fnExactTurnGroundSpec : ChangeSpec := { name := "fnExactTurnGround", fn := fun _ => fun
  | [d] => { results := [.lit (.bool true)], args := [d] }
  | _ => none }
def fnExactTurnGroundRow : OpenClaim := { program := "ytoojoghgbmpbpaadoor", sum := "4f95e629364f48ed9bb61a4b97bfc067a4d35a8504aeb9794e25e1e487420db1", func := "loop.example/g01207/laws.FnExactTurnGround", spec := "fnExactTurnGround", inPlace := ["internal/bytealg.CountString", "internal/bytealg.IndexByteString", "internal/bytealg.IndexString", "internal/abi.NoEscape", "internal/bytealg.MakeNoZero"], named := ["internal/bytealg.MaxLen", "unicode/utf8.first", "unicode/utf8.acceptRanges"], plainKeys := false, apart := false, laid := [("unicode/utf8.acceptRanges", laid_unicode_utf8_acceptRanges), ("unicode/utf8.first", laid_unicode_utf8_first)] }
def FnExactTurnGroundSaid : Prop := fnExactTurnGroundRow.holds Tryd.pinned (OpenSpec.ofChange fnExactTurnGroundSpec)

/-- ITS FALSE NEIGHBOUR: 'it returns false'. Refute it at one input. -/
def fnExactTurnGroundWrong : ChangeSpec := { name := "fnExactTurnGround", fn := fun _ => fun
  | [d] => { results := [.lit (.bool false)], args := [d] }
  | _ => none }
def FnExactTurnGroundWrongFalsely : Prop := fnExactTurnGroundRow.holds Tryd.pinned (OpenSpec.ofChange fnExactTurnGroundWrong)

/- THE SECOND FORM. 'bulk': how many values and letters a reading holds, each counted each time it is reached (what is shared counts as often as it is met; a slice's spare places count too). A statement '..UptoSaid' is the law's where the arguments, and the package variables that the reading takes, are together of bulk at most 1048576: NARROWER than '..Said'. Prove '..Said' where nothing that the law and all that it calls make is longer than what came in: it says more and counts as full. Else prove '..UptoSaid'. A law counts once. -/
mutual
def uptoBulk {H : Type} : DataW H → Nat
  | .lit (.string bytes) => bytes.length + 1
  | .lit _ => 1
  | .nil => 1
  | .ptr d => uptoBulk d + 1
  | .slice elems spare => uptoBulkAll elems + uptoBulkAll spare + 1
  | .agg parts => uptoBulkAll parts + 1
  | .iface _ d => uptoBulk d + 1
  | .map entries => uptoBulkEntries entries + 1
  | .held _ => 1
def uptoBulkAll {H : Type} : List (DataW H) → Nat
  | [] => 0
  | d :: r => uptoBulk d + uptoBulkAll r
def uptoBulkEntries {H : Type} : List (Lit × DataW H) → Nat
  | [] => 0
  | x :: r => uptoBulkEntry x + uptoBulkEntries r
def uptoBulkEntry {H : Type} : Lit × DataW H → Nat
  | (.string bytes, d) => bytes.length + uptoBulk d + 1
  | (_, d) => uptoBulk d + 1
 end
def uptoSmall : (H : Type) → List (DataW H) → Bool := fun _ ds => decide (uptoBulkAll ds ≤ 1048576)
def OpenSpec.upto (s : _root_.Go.ChangeSpec) : _root_.Go.OpenSpec := { _root_.Go.OpenSpec.ofChange s with cond := some uptoSmall }

/-- 'laws.FnExactIsGround', WHERE WHAT IT READS IS OF BULK AT MOST 1048576: true; the input reads as it did. -/
def fnExactIsGroundUptoRow : OpenClaim := { program := "ytoojoghgbmpbpaadoor", sum := "4f95e629364f48ed9bb61a4b97bfc067a4d35a8504aeb9794e25e1e487420db1", func := "loop.example/g01207/laws.FnExactIsGround", spec := "fnExactIsGround", inPlace := ["internal/bytealg.CountString", "internal/bytealg.IndexByteString", "internal/bytealg.IndexString"], named := ["internal/bytealg.MaxLen", "unicode/utf8.first", "unicode/utf8.acceptRanges"], plainKeys := false, apart := false, laid := [("unicode/utf8.acceptRanges", laid_unicode_utf8_acceptRanges), ("unicode/utf8.first", laid_unicode_utf8_first)], narrowed := true }
def FnExactIsGroundUptoSaid : Prop := fnExactIsGroundUptoRow.holds Tryd.pinned (OpenSpec.upto fnExactIsGroundSpec)

/-- 'laws.FnExactIsBox', WHERE WHAT IT READS IS OF BULK AT MOST 1048576: true; the input reads as it did. -/
def fnExactIsBoxUptoRow : OpenClaim := { program := "ytoojoghgbmpbpaadoor", sum := "4f95e629364f48ed9bb61a4b97bfc067a4d35a8504aeb9794e25e1e487420db1", func := "loop.example/g01207/laws.FnExactIsBox", spec := "fnExactIsBox", inPlace := ["internal/bytealg.CountString", "internal/bytealg.IndexByteString", "internal/bytealg.IndexString"], named := ["internal/bytealg.MaxLen", "unicode/utf8.first", "unicode/utf8.acceptRanges"], plainKeys := false, apart := false, laid := [("unicode/utf8.acceptRanges", laid_unicode_utf8_acceptRanges), ("unicode/utf8.first", laid_unicode_utf8_first)], narrowed := true }
def FnExactIsBoxUptoSaid : Prop := fnExactIsBoxUptoRow.holds Tryd.pinned (OpenSpec.upto fnExactIsBoxSpec)

/-- 'laws.FnExactRollBox', WHERE WHAT IT READS IS OF BULK AT MOST 1048576: true; the input reads as it did. -/
def fnExactRollBoxUptoRow : OpenClaim := { program := "ytoojoghgbmpbpaadoor", sum := "4f95e629364f48ed9bb61a4b97bfc067a4d35a8504aeb9794e25e1e487420db1", func := "loop.example/g01207/laws.FnExactRollBox", spec := "fnExactRollBox", inPlace := ["internal/bytealg.IndexByteString", "internal/bytealg.CountString", "internal/bytealg.IndexString"], named := ["internal/bytealg.MaxLen", "unicode/utf8.first", "unicode/utf8.acceptRanges"], plainKeys := false, apart := false, laid := [("unicode/utf8.acceptRanges", laid_unicode_utf8_acceptRanges), ("unicode/utf8.first", laid_unicode_utf8_first)], narrowed := true }
def FnExactRollBoxUptoSaid : Prop := fnExactRollBoxUptoRow.holds Tryd.pinned (OpenSpec.upto fnExactRollBoxSpec)

/-- 'laws.FnExactBoxWays', WHERE WHAT IT READS IS OF BULK AT MOST 1048576: true; the input reads as it did. -/
def fnExactBoxWaysUptoRow : OpenClaim := { program := "ytoojoghgbmpbpaadoor", sum := "4f95e629364f48ed9bb61a4b97bfc067a4d35a8504aeb9794e25e1e487420db1", func := "loop.example/g01207/laws.FnExactBoxWays", spec := "fnExactBoxWays", inPlace := ["internal/bytealg.CountString", "internal/bytealg.IndexByteString", "internal/bytealg.IndexString"], unfollowed := true, recurses := true, named := ["internal/bytealg.MaxLen", "unicode/utf8.first", "unicode/utf8.acceptRanges"], plainKeys := false, apart := false, laid := [("unicode/utf8.acceptRanges", laid_unicode_utf8_acceptRanges), ("unicode/utf8.first", laid_unicode_utf8_first)], narrowed := true }
def FnExactBoxWaysUptoSaid : Prop := fnExactBoxWaysUptoRow.holds Tryd.pinned (OpenSpec.upto fnExactBoxWaysSpec)

/-- 'laws.FnExactRollBoxAlong', WHERE WHAT IT READS IS OF BULK AT MOST 1048576: true; the input reads as it did. -/
def fnExactRollBoxAlongUptoRow : OpenClaim := { program := "ytoojoghgbmpbpaadoor", sum := "4f95e629364f48ed9bb61a4b97bfc067a4d35a8504aeb9794e25e1e487420db1", func := "loop.example/g01207/laws.FnExactRollBoxAlong", spec := "fnExactRollBoxAlong", inPlace := ["internal/bytealg.CountString", "internal/bytealg.IndexByteString", "internal/bytealg.IndexString"], named := ["internal/bytealg.MaxLen", "unicode/utf8.first", "unicode/utf8.acceptRanges"], plainKeys := false, apart := false, laid := [("unicode/utf8.acceptRanges", laid_unicode_utf8_acceptRanges), ("unicode/utf8.first", laid_unicode_utf8_first)], narrowed := true }
def FnExactRollBoxAlongUptoSaid : Prop := fnExactRollBoxAlongUptoRow.holds Tryd.pinned (OpenSpec.upto fnExactRollBoxAlongSpec)

/-- 'laws.FnExactPosesAlong', WHERE WHAT IT READS IS OF BULK AT MOST 1048576: true; the input reads as it did. -/
def fnExactPosesAlongUptoRow : OpenClaim := { program := "ytoojoghgbmpbpaadoor", sum := "4f95e629364f48ed9bb61a4b97bfc067a4d35a8504aeb9794e25e1e487420db1", func := "loop.example/g01207/laws.FnExactPosesAlong", spec := "fnExactPosesAlong", inPlace := ["internal/bytealg.CountString", "internal/bytealg.IndexByteString", "internal/bytealg.IndexString"], named := ["internal/bytealg.MaxLen", "unicode/utf8.first", "unicode/utf8.acceptRanges"], plainKeys := false, apart := false, laid := [("unicode/utf8.acceptRanges", laid_unicode_utf8_acceptRanges), ("unicode/utf8.first", laid_unicode_utf8_first)], narrowed := true }
def FnExactPosesAlongUptoSaid : Prop := fnExactPosesAlongUptoRow.holds Tryd.pinned (OpenSpec.upto fnExactPosesAlongSpec)

/-- 'laws.FnExactCountBoxes', WHERE WHAT IT READS IS OF BULK AT MOST 1048576: true; the input reads as it did. -/
def fnExactCountBoxesUptoRow : OpenClaim := { program := "ytoojoghgbmpbpaadoor", sum := "4f95e629364f48ed9bb61a4b97bfc067a4d35a8504aeb9794e25e1e487420db1", func := "loop.example/g01207/laws.FnExactCountBoxes", spec := "fnExactCountBoxes", inPlace := ["internal/bytealg.CountString", "internal/bytealg.IndexByteString", "internal/bytealg.IndexString"], unfollowed := true, recurses := true, named := ["internal/bytealg.MaxLen", "unicode/utf8.first", "unicode/utf8.acceptRanges"], plainKeys := false, apart := false, laid := [("unicode/utf8.acceptRanges", laid_unicode_utf8_acceptRanges), ("unicode/utf8.first", laid_unicode_utf8_first)], narrowed := true }
def FnExactCountBoxesUptoSaid : Prop := fnExactCountBoxesUptoRow.holds Tryd.pinned (OpenSpec.upto fnExactCountBoxesSpec)

/-- 'laws.FnExactPlacesOnGround', WHERE WHAT IT READS IS OF BULK AT MOST 1048576: true; the input reads as it did. -/
def fnExactPlacesOnGroundUptoRow : OpenClaim := { program := "ytoojoghgbmpbpaadoor", sum := "4f95e629364f48ed9bb61a4b97bfc067a4d35a8504aeb9794e25e1e487420db1", func := "loop.example/g01207/laws.FnExactPlacesOnGround", spec := "fnExactPlacesOnGround", inPlace := ["internal/bytealg.CountString", "internal/bytealg.IndexByteString", "internal/bytealg.IndexString"], named := ["internal/bytealg.MaxLen", "unicode/utf8.first", "unicode/utf8.acceptRanges"], plainKeys := false, apart := false, laid := [("unicode/utf8.acceptRanges", laid_unicode_utf8_acceptRanges), ("unicode/utf8.first", laid_unicode_utf8_first)], narrowed := true }
def FnExactPlacesOnGroundUptoSaid : Prop := fnExactPlacesOnGroundUptoRow.holds Tryd.pinned (OpenSpec.upto fnExactPlacesOnGroundSpec)

/-- 'laws.FnExactTurnBox', WHERE WHAT IT READS IS OF BULK AT MOST 1048576: true; the input reads as it did. -/
def fnExactTurnBoxUptoRow : OpenClaim := { program := "ytoojoghgbmpbpaadoor", sum := "4f95e629364f48ed9bb61a4b97bfc067a4d35a8504aeb9794e25e1e487420db1", func := "loop.example/g01207/laws.FnExactTurnBox", spec := "fnExactTurnBox", inPlace := ["internal/bytealg.CountString", "internal/bytealg.IndexByteString", "internal/bytealg.IndexString"], named := ["internal/bytealg.MaxLen", "unicode/utf8.first", "unicode/utf8.acceptRanges"], plainKeys := false, apart := false, laid := [("unicode/utf8.acceptRanges", laid_unicode_utf8_acceptRanges), ("unicode/utf8.first", laid_unicode_utf8_first)], narrowed := true }
def FnExactTurnBoxUptoSaid : Prop := fnExactTurnBoxUptoRow.holds Tryd.pinned (OpenSpec.upto fnExactTurnBoxSpec)

/-- 'laws.FnExactTurnGround', WHERE WHAT IT READS IS OF BULK AT MOST 1048576: true; the input reads as it did. -/
def fnExactTurnGroundUptoRow : OpenClaim := { program := "ytoojoghgbmpbpaadoor", sum := "4f95e629364f48ed9bb61a4b97bfc067a4d35a8504aeb9794e25e1e487420db1", func := "loop.example/g01207/laws.FnExactTurnGround", spec := "fnExactTurnGround", inPlace := ["internal/bytealg.CountString", "internal/bytealg.IndexByteString", "internal/bytealg.IndexString", "internal/abi.NoEscape", "internal/bytealg.MakeNoZero"], named := ["internal/bytealg.MaxLen", "unicode/utf8.first", "unicode/utf8.acceptRanges"], plainKeys := false, apart := false, laid := [("unicode/utf8.acceptRanges", laid_unicode_utf8_acceptRanges), ("unicode/utf8.first", laid_unicode_utf8_first)], narrowed := true }
def FnExactTurnGroundUptoSaid : Prop := fnExactTurnGroundUptoRow.holds Tryd.pinned (OpenSpec.upto fnExactTurnGroundSpec)

end Rows
end Go.Proofs.YtoojoghgbmpbpaaDoor
