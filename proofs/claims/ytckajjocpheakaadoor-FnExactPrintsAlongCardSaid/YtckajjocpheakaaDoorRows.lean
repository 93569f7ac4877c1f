/-
  NARROWER THAN 'FOR EVERY INPUT', by the rows' own cells (each row's printed sentence says how): FnExactCanRoll: laid · FnExactTurnBoard: laid · FnExactIsLabelled: laid · FnExactPrintsAlong: laid · FnExactLabelsOfWord: laid · FnExactFloorOfLabels: laid · FnExactMatchesHere: laid · FnExactLabelMoves: laid · FnExactRollOverLabels: laid · FnExactTurnLabelled: laid.
  DERIVED. THE GIVEN ROWS OF THIS SEAT. 10 by the template 'for every input the law returns true; each argument reads behind the call as it read before'; 0 by the template 'total and deterministic' (their statements: YtckajjocpheakaaDoorTotals.lean).
  GIVEN WITH THE SEED: the statements are not yours to turn. If you find one false, say at which input.
  Laid BY PROGRAM, IN A SANDBOX (cutbox-rows.mjs): the forced cells as the released guide's own fill.sh prints them over the translation 3750a6619700d87d… (all of the seat's roots in one cut). By AI agents, Wed Nov 11 2026. No macro, syntax, notation, axiom, sorry.
-/
import Derived.Test.YtckajjocpheakaaDoorChecked
import GoSem.PinnedTables
import GoSem.Claim
import GoSem.ClaimJoined
import GoSem.ClaimMapViews
import Derived.JoinedTies
import Derived.KernelRfl
namespace Go.Proofs.YtckajjocpheakaaDoor
/- THE CELL 'sum', in the pinned program and in every row, IS THE sha256 OF THE DUMP (.gsa) THAT YtckajjocpheakaaDoorProg.lean LOADS. Nothing in Lean hashes anything: it is a label: what it is worth is what the hold of that sum in a sandbox is worth. -/
noncomputable def Tryd.pinned : Pinned := { name := "ytckajjocpheakaadoor", sum := "3750a6619700d87d553bfcbad1395589eba98222ea50cafb57c276493426e051", checked := Tryd.checked }
namespace Rows
def none {H : Type} : Left H := { results := [], args := [] }

/- WHAT THE LISTED PACKAGE-LEVEL VARIABLES READ AS WHEN THE CALL BEGINS. Each datum BY PROGRAM (the guide's laid-datum.mjs) off the statement by which the dump's own 'gosem.cut.vars' lays the variable. In a bare row this is a premise. The card (YtckajjocpheakaaDoorCards.lean) ties it to the program's text. -/
def laid_unicode_utf8_acceptRanges {H : Type} : DataW H := .agg [.agg [.lit (.int .u8 128), .lit (.int .u8 191)], .agg [.lit (.int .u8 160), .lit (.int .u8 191)], .agg [.lit (.int .u8 128), .lit (.int .u8 159)], .agg [.lit (.int .u8 144), .lit (.int .u8 191)], .agg [.lit (.int .u8 128), .lit (.int .u8 143)], .agg [.lit (.int .u8 0), .lit (.int .u8 0)], .agg [.lit (.int .u8 0), .lit (.int .u8 0)], .agg [.lit (.int .u8 0), .lit (.int .u8 0)], .agg [.lit (.int .u8 0), .lit (.int .u8 0)], .agg [.lit (.int .u8 0), .lit (.int .u8 0)], .agg [.lit (.int .u8 0), .lit (.int .u8 0)], .agg [.lit (.int .u8 0), .lit (.int .u8 0)], .agg [.lit (.int .u8 0), .lit (.int .u8 0)], .agg [.lit (.int .u8 0), .lit (.int .u8 0)], .agg [.lit (.int .u8 0), .lit (.int .u8 0)], .agg [.lit (.int .u8 0), .lit (.int .u8 0)]]
/-- One of Go's own tables, pinned by name: the form's constant. -/
def laid_unicode_utf8_first : DataW Unit := Go.Pinned.utf8First

/-- 'laws.FnExactCanRoll': WHATEVER THE INPUT: true; the input reads as it did. -/
def fnExactCanRollSpec : ChangeSpec := { name := "fnExactCanRoll", fn := fun _ => fun
  | [d1, d2] => { results := [.lit (.bool true)], args := [d1, d2] }
  | _ => none }
def fnExactCanRollRow : OpenClaim := { program := "ytckajjocpheakaadoor", sum := "3750a6619700d87d553bfcbad1395589eba98222ea50cafb57c276493426e051", func := "loop.example/g01207/laws.FnExactCanRoll", spec := "fnExactCanRoll", inPlace := ["internal/bytealg.CountString", "internal/bytealg.IndexByteString", "internal/bytealg.IndexString"], unfollowed := true, recurses := true, named := ["unicode/utf8.first", "unicode/utf8.acceptRanges", "internal/bytealg.MaxLen"], apart := false, laid := [("unicode/utf8.acceptRanges", laid_unicode_utf8_acceptRanges), ("unicode/utf8.first", laid_unicode_utf8_first)] }
def FnExactCanRollSaid : Prop := fnExactCanRollRow.holds Tryd.pinned (OpenSpec.ofChange fnExactCanRollSpec)

/-- ITS FALSE NEIGHBOUR: 'it returns false'. Refute it at one input. -/
def fnExactCanRollWrong : ChangeSpec := { name := "fnExactCanRoll", fn := fun _ => fun
  | [d1, d2] => { results := [.lit (.bool false)], args := [d1, d2] }
  | _ => none }
def FnExactCanRollWrongFalsely : Prop := fnExactCanRollRow.holds Tryd.pinned (OpenSpec.ofChange fnExactCanRollWrong)

/-- 'laws.FnExactTurnBoard': WHATEVER THE INPUT: true; the input reads as it did. -/
def fnExactTurnBoardSpec : ChangeSpec := { name := "fnExactTurnBoard", fn := fun _ => fun
  | [d] => { results := [.lit (.bool true)], args := [d] }
  | _ => none }
def fnExactTurnBoardRow : OpenClaim := { program := "ytckajjocpheakaadoor", sum := "3750a6619700d87d553bfcbad1395589eba98222ea50cafb57c276493426e051", func := "loop.example/g01207/laws.FnExactTurnBoard", spec := "fnExactTurnBoard", inPlace := ["internal/bytealg.CountString", "internal/bytealg.IndexByteString", "internal/bytealg.IndexString", "internal/abi.NoEscape", "internal/bytealg.MakeNoZero"], named := ["unicode/utf8.first", "unicode/utf8.acceptRanges", "internal/bytealg.MaxLen"], apart := false, laid := [("unicode/utf8.acceptRanges", laid_unicode_utf8_acceptRanges), ("unicode/utf8.first", laid_unicode_utf8_first)] }
def FnExactTurnBoardSaid : Prop := fnExactTurnBoardRow.holds Tryd.pinned (OpenSpec.ofChange fnExactTurnBoardSpec)

/-- ITS FALSE NEIGHBOUR: 'it returns false'. Refute it at one input. -/
def fnExactTurnBoardWrong : ChangeSpec := { name := "fnExactTurnBoard", fn := fun _ => fun
  | [d] => { results := [.lit (.bool false)], args := [d] }
  | _ => none }
def FnExactTurnBoardWrongFalsely : Prop := fnExactTurnBoardRow.holds Tryd.pinned (OpenSpec.ofChange fnExactTurnBoardWrong)

/-- 'laws.FnExactIsLabelled': WHATEVER THE INPUT: true; the input reads as it did. -/
def fnExactIsLabelledSpec : ChangeSpec := { name := "fnExactIsLabelled", fn := fun _ => fun
  | [d] => { results := [.lit (.bool true)], args := [d] }
  | _ => none }
def fnExactIsLabelledRow : OpenClaim := { program := "ytckajjocpheakaadoor", sum := "3750a6619700d87d553bfcbad1395589eba98222ea50cafb57c276493426e051", func := "loop.example/g01207/laws.FnExactIsLabelled", spec := "fnExactIsLabelled", inPlace := ["internal/bytealg.CountString", "internal/bytealg.IndexByteString", "internal/bytealg.IndexString"], named := ["unicode/utf8.first", "unicode/utf8.acceptRanges", "internal/bytealg.MaxLen"], apart := false, laid := [("unicode/utf8.acceptRanges", laid_unicode_utf8_acceptRanges), ("unicode/utf8.first", laid_unicode_utf8_first)] }
def FnExactIsLabelledSaid : Prop := fnExactIsLabelledRow.holds Tryd.pinned (OpenSpec.ofChange fnExactIsLabelledSpec)

/-- ITS FALSE NEIGHBOUR: 'it returns false'. Refute it at one input. -/
def fnExactIsLabelledWrong : ChangeSpec := { name := "fnExactIsLabelled", fn := fun _ => fun
  | [d] => { results := [.lit (.bool false)], args := [d] }
  | _ => none }
def FnExactIsLabelledWrongFalsely : Prop := fnExactIsLabelledRow.holds Tryd.pinned (OpenSpec.ofChange fnExactIsLabelledWrong)

/-- 'laws.FnExactPrintsAlong': WHATEVER THE INPUT: true; the input reads as it did. -/
def fnExactPrintsAlongSpec : ChangeSpec := { name := "fnExactPrintsAlong", fn := fun _ => fun
  | [d1, d2, d3] => { results := [.lit (.bool true)], args := [d1, d2, d3] }
  | _ => none }
def fnExactPrintsAlongRow : OpenClaim := { program := "ytckajjocpheakaadoor", sum := "3750a6619700d87d553bfcbad1395589eba98222ea50cafb57c276493426e051", func := "loop.example/g01207/laws.FnExactPrintsAlong", spec := "fnExactPrintsAlong", inPlace := ["internal/bytealg.CountString", "internal/bytealg.IndexByteString", "internal/bytealg.IndexString"], unfollowed := true, recurses := true, named := ["unicode/utf8.first", "unicode/utf8.acceptRanges", "internal/bytealg.MaxLen"], apart := false, laid := [("unicode/utf8.acceptRanges", laid_unicode_utf8_acceptRanges), ("unicode/utf8.first", laid_unicode_utf8_first)] }
def FnExactPrintsAlongSaid : Prop := fnExactPrintsAlongRow.holds Tryd.pinned (OpenSpec.ofChange fnExactPrintsAlongSpec)

/-- ITS FALSE NEIGHBOUR: 'it returns false'. Refute it at one input. -/
def fnExactPrintsAlongWrong : ChangeSpec := { name := "fnExactPrintsAlong", fn := fun _ => fun
  | [d1, d2, d3] => { results := [.lit (.bool false)], args := [d1, d2, d3] }
  | _ => none }
def FnExactPrintsAlongWrongFalsely : Prop := fnExactPrintsAlongRow.holds Tryd.pinned (OpenSpec.ofChange fnExactPrintsAlongWrong)

/-- 'laws.FnExactLabelsOfWord': WHATEVER THE INPUT: true; the input reads as it did. -/
def fnExactLabelsOfWordSpec : ChangeSpec := { name := "fnExactLabelsOfWord", fn := fun _ => fun
  | [d1, d2, d3] => { results := [.lit (.bool true)], args := [d1, d2, d3] }
  | _ => none }
def fnExactLabelsOfWordRow : OpenClaim := { program := "ytckajjocpheakaadoor", sum := "3750a6619700d87d553bfcbad1395589eba98222ea50cafb57c276493426e051", func := "loop.example/g01207/laws.FnExactLabelsOfWord", spec := "fnExactLabelsOfWord", inPlace := ["internal/bytealg.CountString", "internal/bytealg.IndexByteString", "internal/bytealg.IndexString"], unfollowed := true, recurses := true, named := ["unicode/utf8.first", "unicode/utf8.acceptRanges", "internal/bytealg.MaxLen"], apart := false, laid := [("unicode/utf8.acceptRanges", laid_unicode_utf8_acceptRanges), ("unicode/utf8.first", laid_unicode_utf8_first)] }
def FnExactLabelsOfWordSaid : Prop := fnExactLabelsOfWordRow.holds Tryd.pinned (OpenSpec.ofChange fnExactLabelsOfWordSpec)

/-- ITS FALSE NEIGHBOUR: 'it returns false'. Refute it at one input. -/
def fnExactLabelsOfWordWrong : ChangeSpec := { name := "fnExactLabelsOfWord", fn := fun _ => fun
  | [d1, d2, d3] => { results := [.lit (.bool false)], args := [d1, d2, d3] }
  | _ => none }
def FnExactLabelsOfWordWrongFalsely : Prop := fnExactLabelsOfWordRow.holds Tryd.pinned (OpenSpec.ofChange fnExactLabelsOfWordWrong)

/-- 'laws.FnExactFloorOfLabels': WHATEVER THE INPUT: true; the input reads as it did. -/
def fnExactFloorOfLabelsSpec : ChangeSpec := { name := "fnExactFloorOfLabels", fn := fun _ => fun
  | [d] => { results := [.lit (.bool true)], args := [d] }
  | _ => none }
def fnExactFloorOfLabelsRow : OpenClaim := { program := "ytckajjocpheakaadoor", sum := "3750a6619700d87d553bfcbad1395589eba98222ea50cafb57c276493426e051", func := "loop.example/g01207/laws.FnExactFloorOfLabels", spec := "fnExactFloorOfLabels", inPlace := ["internal/bytealg.CountString", "internal/bytealg.IndexByteString", "internal/bytealg.IndexString"], named := ["unicode/utf8.first", "unicode/utf8.acceptRanges", "internal/bytealg.MaxLen"], apart := false, laid := [("unicode/utf8.acceptRanges", laid_unicode_utf8_acceptRanges), ("unicode/utf8.first", laid_unicode_utf8_first)] }
def FnExactFloorOfLabelsSaid : Prop := fnExactFloorOfLabelsRow.holds Tryd.pinned (OpenSpec.ofChange fnExactFloorOfLabelsSpec)

/-- ITS FALSE NEIGHBOUR: 'it returns false'. Refute it at one input. -/
def fnExactFloorOfLabelsWrong : ChangeSpec := { name := "fnExactFloorOfLabels", fn := fun _ => fun
  | [d] => { results := [.lit (.bool false)], args := [d] }
  | _ => none }
def FnExactFloorOfLabelsWrongFalsely : Prop := fnExactFloorOfLabelsRow.holds Tryd.pinned (OpenSpec.ofChange fnExactFloorOfLabelsWrong)

/-- 'laws.FnExactMatchesHere': WHATEVER THE INPUT: true; the input reads as it did. -/
def fnExactMatchesHereSpec : ChangeSpec := { name := "fnExactMatchesHere", fn := fun _ => fun
  | [d1, d2] => { results := [.lit (.bool true)], args := [d1, d2] }
  | _ => none }
def fnExactMatchesHereRow : OpenClaim := { program := "ytckajjocpheakaadoor", sum := "3750a6619700d87d553bfcbad1395589eba98222ea50cafb57c276493426e051", func := "loop.example/g01207/laws.FnExactMatchesHere", spec := "fnExactMatchesHere", inPlace := ["internal/bytealg.CountString", "internal/bytealg.IndexByteString", "internal/bytealg.IndexString"], named := ["unicode/utf8.first", "unicode/utf8.acceptRanges", "internal/bytealg.MaxLen"], apart := false, laid := [("unicode/utf8.acceptRanges", laid_unicode_utf8_acceptRanges), ("unicode/utf8.first", laid_unicode_utf8_first)] }
def FnExactMatchesHereSaid : Prop := fnExactMatchesHereRow.holds Tryd.pinned (OpenSpec.ofChange fnExactMatchesHereSpec)

/-- ITS FALSE NEIGHBOUR: 'it returns false'. Refute it at one input. -/
def fnExactMatchesHereWrong : ChangeSpec := { name := "fnExactMatchesHere", fn := fun _ => fun
  | [d1, d2] => { results := [.lit (.bool false)], args := [d1, d2] }
  | _ => none }
def FnExactMatchesHereWrongFalsely : Prop := fnExactMatchesHereRow.holds Tryd.pinned (OpenSpec.ofChange fnExactMatchesHereWrong)

/-- 'laws.FnExactLabelMoves': WHATEVER THE INPUT: true; the input reads as it did. -/
def fnExactLabelMovesSpec : ChangeSpec := { name := "fnExactLabelMoves", fn := fun _ => fun
  | [d1, d2] => { results := [.lit (.bool true)], args := [d1, d2] }
  | _ => none }
def fnExactLabelMovesRow : OpenClaim := { program := "ytckajjocpheakaadoor", sum := "3750a6619700d87d553bfcbad1395589eba98222ea50cafb57c276493426e051", func := "loop.example/g01207/laws.FnExactLabelMoves", spec := "fnExactLabelMoves", inPlace := ["internal/bytealg.CountString", "internal/bytealg.IndexByteString", "internal/bytealg.IndexString"], unfollowed := true, recurses := true, named := ["unicode/utf8.first", "unicode/utf8.acceptRanges", "internal/bytealg.MaxLen"], apart := false, laid := [("unicode/utf8.acceptRanges", laid_unicode_utf8_acceptRanges), ("unicode/utf8.first", laid_unicode_utf8_first)] }
def FnExactLabelMovesSaid : Prop := fnExactLabelMovesRow.holds Tryd.pinned (OpenSpec.ofChange fnExactLabelMovesSpec)

/-- ITS FALSE NEIGHBOUR: 'it returns false'. Refute it at one input. -/
def fnExactLabelMovesWrong : ChangeSpec := { name := "fnExactLabelMoves", fn := fun _ => fun
  | [d1, d2] => { results := [.lit (.bool false)], args := [d1, d2] }
  | _ => none }
def FnExactLabelMovesWrongFalsely : Prop := fnExactLabelMovesRow.holds Tryd.pinned (OpenSpec.ofChange fnExactLabelMovesWrong)

/-- 'laws.FnExactRollOverLabels': WHATEVER THE INPUT: true; the input reads as it did. -/
def fnExactRollOverLabelsSpec : ChangeSpec := { name := "fnExactRollOverLabels", fn := fun _ => fun
  | [d1, d2, d3] => { results := [.lit (.bool true)], args := [d1, d2, d3] }
  | _ => none }
def fnExactRollOverLabelsRow : OpenClaim := { program := "ytckajjocpheakaadoor", sum := "3750a6619700d87d553bfcbad1395589eba98222ea50cafb57c276493426e051", func := "loop.example/g01207/laws.FnExactRollOverLabels", spec := "fnExactRollOverLabels", inPlace := ["internal/bytealg.CountString", "internal/bytealg.IndexByteString", "internal/bytealg.IndexString"], unfollowed := true, recurses := true, named := ["unicode/utf8.first", "unicode/utf8.acceptRanges", "internal/bytealg.MaxLen"], apart := false, laid := [("unicode/utf8.acceptRanges", laid_unicode_utf8_acceptRanges), ("unicode/utf8.first", laid_unicode_utf8_first)] }
def FnExactRollOverLabelsSaid : Prop := fnExactRollOverLabelsRow.holds Tryd.pinned (OpenSpec.ofChange fnExactRollOverLabelsSpec)

/-- ITS FALSE NEIGHBOUR: 'it returns false'. Refute it at one input. -/
def fnExactRollOverLabelsWrong : ChangeSpec := { name := "fnExactRollOverLabels", fn := fun _ => fun
  | [d1, d2, d3] => { results := [.lit (.bool false)], args := [d1, d2, d3] }
  | _ => none }
def FnExactRollOverLabelsWrongFalsely : Prop := fnExactRollOverLabelsRow.holds Tryd.pinned (OpenSpec.ofChange fnExactRollOverLabelsWrong)

/-- 'laws.FnExactTurnLabelled': WHATEVER THE INPUT: true; the input reads as it did. -/
def fnExactTurnLabelledSpec : ChangeSpec := { name := "fnExactTurnLabelled", fn := fun _ => fun
  | [d] => { results := [.lit (.bool true)], args := [d] }
  | _ => none }
def fnExactTurnLabelledRow : OpenClaim := { program := "ytckajjocpheakaadoor", sum := "3750a6619700d87d553bfcbad1395589eba98222ea50cafb57c276493426e051", func := "loop.example/g01207/laws.FnExactTurnLabelled", spec := "fnExactTurnLabelled", inPlace := ["internal/bytealg.CountString", "internal/bytealg.IndexByteString", "internal/bytealg.IndexString", "internal/abi.NoEscape", "internal/bytealg.MakeNoZero"], named := ["unicode/utf8.first", "unicode/utf8.acceptRanges", "internal/bytealg.MaxLen"], apart := false, laid := [("unicode/utf8.acceptRanges", laid_unicode_utf8_acceptRanges), ("unicode/utf8.first", laid_unicode_utf8_first)] }
def FnExactTurnLabelledSaid : Prop := fnExactTurnLabelledRow.holds Tryd.pinned (OpenSpec.ofChange fnExactTurnLabelledSpec)

/-- ITS FALSE NEIGHBOUR: 'it returns false'. Refute it at one input. -/
def fnExactTurnLabelledWrong : ChangeSpec := { name := "fnExactTurnLabelled", fn := fun _ => fun
  | [d] => { results := [.lit (.bool false)], args := [d] }
  | _ => none }
def FnExactTurnLabelledWrongFalsely : Prop := fnExactTurnLabelledRow.holds Tryd.pinned (OpenSpec.ofChange fnExactTurnLabelledWrong)

/- THE SECOND FORM. 'bulk': how many values and letters a reading holds, each counted each time it is reached (what is shared counts as often as it is met; a slice's spare places count too). A statement '..UptoSaid' is the law's where the arguments, and the package variables that the reading takes, are together of bulk at most 1048576: NARROWER than '..Said'. Prove '..Said' where nothing that the law and all that it calls make is longer than what came in: it says more and counts as full. Else prove '..UptoSaid'. A law counts once. -/
mutual
def uptoBulk {H : Type} : DataW H → Nat
  | .lit (.string bytes) => bytes.length + 1
  | .lit _ => 1
  | .nil => 1
  | .ptr d => uptoBulk d + 1
  | .slice elems spare => uptoBulkAll elems + uptoBulkAll spare + 1
  | .agg parts => uptoBulkAll parts + 1
  | .iface _ d => uptoBulk d + 1
  | .map entries => uptoBulkEntries entries + 1
  | .held _ => 1
def uptoBulkAll {H : Type} : List (DataW H) → Nat
  | [] => 0
  | d :: r => uptoBulk d + uptoBulkAll r
def uptoBulkEntries {H : Type} : List (Lit × DataW H) → Nat
  | [] => 0
  | x :: r => uptoBulkEntry x + uptoBulkEntries r
def uptoBulkEntry {H : Type} : Lit × DataW H → Nat
  | (.string bytes, d) => bytes.length + uptoBulk d + 1
  | (_, d) => uptoBulk d + 1
 end
def uptoSmall : (H : Type) → List (DataW H) → Bool := fun _ ds => decide (uptoBulkAll ds ≤ 1048576)
def OpenSpec.upto (s : _root_.Go.ChangeSpec) : _root_.Go.OpenSpec := { _root_.Go.OpenSpec.ofChange s with cond := some uptoSmall }

/-- 'laws.FnExactCanRoll', WHERE WHAT IT READS IS OF BULK AT MOST 1048576: true; the input reads as it did. -/
def fnExactCanRollUptoRow : OpenClaim := { program := "ytckajjocpheakaadoor", sum := "3750a6619700d87d553bfcbad1395589eba98222ea50cafb57c276493426e051", func := "loop.example/g01207/laws.FnExactCanRoll", spec := "fnExactCanRoll", inPlace := ["internal/bytealg.CountString", "internal/bytealg.IndexByteString", "internal/bytealg.IndexString"], unfollowed := true, recurses := true, named := ["unicode/utf8.first", "unicode/utf8.acceptRanges", "internal/bytealg.MaxLen"], apart := false, laid := [("unicode/utf8.acceptRanges", laid_unicode_utf8_acceptRanges), ("unicode/utf8.first", laid_unicode_utf8_first)], narrowed := true }
def FnExactCanRollUptoSaid : Prop := fnExactCanRollUptoRow.holds Tryd.pinned (OpenSpec.upto fnExactCanRollSpec)

/-- 'laws.FnExactTurnBoard', WHERE WHAT IT READS IS OF BULK AT MOST 1048576: true; the input reads as it did. -/
def fnExactTurnBoardUptoRow : OpenClaim := { program := "ytckajjocpheakaadoor", sum := "3750a6619700d87d553bfcbad1395589eba98222ea50cafb57c276493426e051", func := "loop.example/g01207/laws.FnExactTurnBoard", spec := "fnExactTurnBoard", inPlace := ["internal/bytealg.CountString", "internal/bytealg.IndexByteString", "internal/bytealg.IndexString", "internal/abi.NoEscape", "internal/bytealg.MakeNoZero"], named := ["unicode/utf8.first", "unicode/utf8.acceptRanges", "internal/bytealg.MaxLen"], apart := false, laid := [("unicode/utf8.acceptRanges", laid_unicode_utf8_acceptRanges), ("unicode/utf8.first", laid_unicode_utf8_first)], narrowed := true }
def FnExactTurnBoardUptoSaid : Prop := fnExactTurnBoardUptoRow.holds Tryd.pinned (OpenSpec.upto fnExactTurnBoardSpec)

/-- 'laws.FnExactIsLabelled', WHERE WHAT IT READS IS OF BULK AT MOST 1048576: true; the input reads as it did. -/
def fnExactIsLabelledUptoRow : OpenClaim := { program := "ytckajjocpheakaadoor", sum := "3750a6619700d87d553bfcbad1395589eba98222ea50cafb57c276493426e051", func := "loop.example/g01207/laws.FnExactIsLabelled", spec := "fnExactIsLabelled", inPlace := ["internal/bytealg.CountString", "internal/bytealg.IndexByteString", "internal/bytealg.IndexString"], named := ["unicode/utf8.first", "unicode/utf8.acceptRanges", "internal/bytealg.MaxLen"], apart := false, laid := [("unicode/utf8.acceptRanges", laid_unicode_utf8_acceptRanges), ("unicode/utf8.first", laid_unicode_utf8_first)], narrowed := true }
def FnExactIsLabelledUptoSaid : Prop := fnExactIsLabelledUptoRow.holds Tryd.pinned (OpenSpec.upto fnExactIsLabelledSpec)

/-- 'laws.FnExactPrintsAlong', WHERE WHAT IT READS IS OF BULK AT MOST 1048576: true; the input reads as it did. -/
def fnExactPrintsAlongUptoRow : OpenClaim := { program := "ytckajjocpheakaadoor", sum := "3750a6619700d87d553bfcbad1395589eba98222ea50cafb57c276493426e051", func := "loop.example/g01207/laws.FnExactPrintsAlong", spec := "fnExactPrintsAlong", inPlace := ["internal/bytealg.CountString", "internal/bytealg.IndexByteString", "internal/bytealg.IndexString"], unfollowed := true, recurses := true, named := ["unicode/utf8.first", "unicode/utf8.acceptRanges", "internal/bytealg.MaxLen"], apart := false, laid := [("unicode/utf8.acceptRanges", laid_unicode_utf8_acceptRanges), ("unicode/utf8.first", laid_unicode_utf8_first)], narrowed := true }
def FnExactPrintsAlongUptoSaid : Prop := fnExactPrintsAlongUptoRow.holds Tryd.pinned (OpenSpec.upto fnExactPrintsAlongSpec)

/-- 'laws.FnExactLabelsOfWord', WHERE WHAT IT READS IS OF BULK AT MOST 1048576: true; the input reads as it did. -/
def fnExactLabelsOfWordUptoRow : OpenClaim := { program := "ytckajjocpheakaadoor", sum := "3750a6619700d87d553bfcbad1395589eba98222ea50cafb57c276493426e051", func := "loop.example/g01207/laws.FnExactLabelsOfWord", spec := "fnExactLabelsOfWord", inPlace := ["internal/bytealg.CountString", "internal/bytealg.IndexByteString", "internal/bytealg.IndexString"], unfollowed := true, recurses := true, named := ["unicode/utf8.first", "unicode/utf8.acceptRanges", "internal/bytealg.MaxLen"], apart := false, laid := [("unicode/utf8.acceptRanges", laid_unicode_utf8_acceptRanges), ("unicode/utf8.first", laid_unicode_utf8_first)], narrowed := true }
def FnExactLabelsOfWordUptoSaid : Prop := fnExactLabelsOfWordUptoRow.holds Tryd.pinned (OpenSpec.upto fnExactLabelsOfWordSpec)

/-- 'laws.FnExactFloorOfLabels', WHERE WHAT IT READS IS OF BULK AT MOST 1048576: true; the input reads as it did. -/
def fnExactFloorOfLabelsUptoRow : OpenClaim := { program := "ytckajjocpheakaadoor", sum := "3750a6619700d87d553bfcbad1395589eba98222ea50cafb57c276493426e051", func := "loop.example/g01207/laws.FnExactFloorOfLabels", spec := "fnExactFloorOfLabels", inPlace := ["internal/bytealg.CountString", "internal/bytealg.IndexByteString", "internal/bytealg.IndexString"], named := ["unicode/utf8.first", "unicode/utf8.acceptRanges", "internal/bytealg.MaxLen"], apart := false, laid := [("unicode/utf8.acceptRanges", laid_unicode_utf8_acceptRanges), ("unicode/utf8.first", laid_unicode_utf8_first)], narrowed := true }
def FnExactFloorOfLabelsUptoSaid : Prop := fnExactFloorOfLabelsUptoRow.holds Tryd.pinned (OpenSpec.upto fnExactFloorOfLabelsSpec)

/-- 'laws.FnExactMatchesHere', WHERE WHAT IT READS IS OF BULK AT MOST 1048576: true; the input reads as it did. -/
def fnExactMatchesHereUptoRow : OpenClaim := { program := "ytckajjocpheakaadoor", sum := "3750a6619700d87d553bfcbad1395589eba98222ea50cafb57c276493426e051", func := "loop.example/g01207/laws.FnExactMatchesHere", spec := "fnExactMatchesHere", inPlace := ["internal/bytealg.CountString", "internal/bytealg.IndexByteString", "internal/bytealg.IndexString"], named := ["unicode/utf8.first", "unicode/utf8.acceptRanges", "internal/bytealg.MaxLen"], apart := false, laid := [("unicode/utf8.acceptRanges", laid_unicode_utf8_acceptRanges), ("unicode/utf8.first", laid_unicode_utf8_first)], narrowed := true }
def FnExactMatchesHereUptoSaid : Prop := fnExactMatchesHereUptoRow.holds Tryd.pinned (OpenSpec.upto fnExactMatchesHereSpec)

/-- 'laws.FnExactLabelMoves', WHERE WHAT IT READS IS OF BULK AT MOST 1048576: true; the input reads as it did. -/
def fnExactLabelMovesUptoRow : OpenClaim := { program := "ytckajjocpheakaadoor", sum := "3750a6619700d87d553bfcbad1395589eba98222ea50cafb57c276493426e051", func := "loop.example/g01207/laws.FnExactLabelMoves", spec := "fnExactLabelMoves", inPlace := ["internal/bytealg.CountString", "internal/bytealg.IndexByteString", "internal/bytealg.IndexString"], unfollowed := true, recurses := true, named := ["unicode/utf8.first", "unicode/utf8.acceptRanges", "internal/bytealg.MaxLen"], apart := false, laid := [("unicode/utf8.acceptRanges", laid_unicode_utf8_acceptRanges), ("unicode/utf8.first", laid_unicode_utf8_first)], narrowed := true }
def FnExactLabelMovesUptoSaid : Prop := fnExactLabelMovesUptoRow.holds Tryd.pinned (OpenSpec.upto fnExactLabelMovesSpec)

/-- 'laws.FnExactRollOverLabels', WHERE WHAT IT READS IS OF BULK AT MOST 1048576: true; the input reads as it did. -/
def fnExactRollOverLabelsUptoRow : OpenClaim := { program := "ytckajjocpheakaadoor", sum := "3750a6619700d87d553bfcbad1395589eba98222ea50cafb57c276493426e051", func := "loop.example/g01207/laws.FnExactRollOverLabels", spec := "fnExactRollOverLabels", inPlace := ["internal/bytealg.CountString", "internal/bytealg.IndexByteString", "internal/bytealg.IndexString"], unfollowed := true, recurses := true, named := ["unicode/utf8.first", "unicode/utf8.acceptRanges", "internal/bytealg.MaxLen"], apart := false, laid := [("unicode/utf8.acceptRanges", laid_unicode_utf8_acceptRanges), ("unicode/utf8.first", laid_unicode_utf8_first)], narrowed := true }
def FnExactRollOverLabelsUptoSaid : Prop := fnExactRollOverLabelsUptoRow.holds Tryd.pinned (OpenSpec.upto fnExactRollOverLabelsSpec)

/-- 'laws.FnExactTurnLabelled', WHERE WHAT IT READS IS OF BULK AT MOST 1048576: true; the input reads as it did. -/
def fnExactTurnLabelledUptoRow : OpenClaim := { program := "ytckajjocpheakaadoor", sum := "3750a6619700d87d553bfcbad1395589eba98222ea50cafb57c276493426e051", func := "loop.example/g01207/laws.FnExactTurnLabelled", spec := "fnExactTurnLabelled", inPlace := ["internal/bytealg.CountString", "internal/bytealg.IndexByteString", "internal/bytealg.IndexString", "internal/abi.NoEscape", "internal/bytealg.MakeNoZero"], named := ["unicode/utf8.first", "unicode/utf8.acceptRanges", "internal/bytealg.MaxLen"], apart := false, laid := [("unicode/utf8.acceptRanges", laid_unicode_utf8_acceptRanges), ("unicode/utf8.first", laid_unicode_utf8_first)], narrowed := true }
def FnExactTurnLabelledUptoSaid : Prop := fnExactTurnLabelledUptoRow.holds Tryd.pinned (OpenSpec.upto fnExactTurnLabelledSpec)

end Rows
end Go.Proofs.YtckajjocpheakaaDoor
