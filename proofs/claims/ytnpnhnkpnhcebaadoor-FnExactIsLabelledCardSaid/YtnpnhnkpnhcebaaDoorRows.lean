/-
  NARROWER THAN 'FOR EVERY INPUT', by the rows' own cells (each row's printed sentence says how): FnExactTurnBoard: laid · FnExactIsLabelled: laid · FnExactFloorOfLabels: laid · FnExactMatchesHere: laid · FnExactTurnLabelled: laid.
  DERIVED. THE GIVEN ROWS OF THIS SEAT. 5 by the template 'for every input the law returns true; each argument reads behind the call as it read before'; 0 by the template 'total and deterministic' (their statements: YtnpnhnkpnhcebaaDoorTotals.lean).
  GIVEN WITH THE SEED: the statements are not yours to turn. If you find one false, say at which input.
  Laid BY PROGRAM, IN A SANDBOX (cutbox-rows.mjs): the forced cells as the released guide's own fill.sh prints them over the translation 944869c702ece715… (all of the seat's roots in one cut). By AI agents, Wed Nov 11 2026. No macro, syntax, notation, axiom, sorry.
-/
import Derived.Test.YtnpnhnkpnhcebaaDoorChecked
import GoSem.PinnedTables
import GoSem.Claim
import GoSem.ClaimJoined
import GoSem.ClaimMapViews
import Derived.JoinedTies
import Derived.KernelRfl
namespace Go.Proofs.YtnpnhnkpnhcebaaDoor
/- THE CELL 'sum', in the pinned program and in every row, IS THE sha256 OF THE DUMP (.gsa) THAT YtnpnhnkpnhcebaaDoorProg.lean LOADS. Nothing in Lean hashes anything: it is a label: what it is worth is what the hold of that sum in a sandbox is worth. -/
noncomputable def Tryd.pinned : Pinned := { name := "ytnpnhnkpnhcebaadoor", sum := "944869c702ece71584ca6db7e046e68a0539869c88142359c4f558d14d534fe6", checked := Tryd.checked }
namespace Rows
def none {H : Type} : Left H := { results := [], args := [] }

/- WHAT THE LISTED PACKAGE-LEVEL VARIABLES READ AS WHEN THE CALL BEGINS. Each datum BY PROGRAM (the guide's laid-datum.mjs) off the statement by which the dump's own 'gosem.cut.vars' lays the variable. In a bare row this is a premise. The card (YtnpnhnkpnhcebaaDoorCards.lean) ties it to the program's text. -/
def laid_unicode_utf8_acceptRanges {H : Type} : DataW H := .agg [.agg [.lit (.int .u8 128), .lit (.int .u8 191)], .agg [.lit (.int .u8 160), .lit (.int .u8 191)], .agg [.lit (.int .u8 128), .lit (.int .u8 159)], .agg [.lit (.int .u8 144), .lit (.int .u8 191)], .agg [.lit (.int .u8 128), .lit (.int .u8 143)], .agg [.lit (.int .u8 0), .lit (.int .u8 0)], .agg [.lit (.int .u8 0), .lit (.int .u8 0)], .agg [.lit (.int .u8 0), .lit (.int .u8 0)], .agg [.lit (.int .u8 0), .lit (.int .u8 0)], .agg [.lit (.int .u8 0), .lit (.int .u8 0)], .agg [.lit (.int .u8 0), .lit (.int .u8 0)], .agg [.lit (.int .u8 0), .lit (.int .u8 0)], .agg [.lit (.int .u8 0), .lit (.int .u8 0)], .agg [.lit (.int .u8 0), .lit (.int .u8 0)], .agg [.lit (.int .u8 0), .lit (.int .u8 0)], .agg [.lit (.int .u8 0), .lit (.int .u8 0)]]
/-- One of Go's own tables, pinned by name: the form's constant. -/
def laid_unicode_utf8_first : DataW Unit := Go.Pinned.utf8First

/-- 'laws.FnExactTurnBoard': WHATEVER THE INPUT: true; the input reads as it did. -/
def fnExactTurnBoardSpec : ChangeSpec := { name := "fnExactTurnBoard", fn := fun _ => fun
  | [d] => { results := [.lit (.bool true)], args := [d] }
  | _ => none }
def fnExactTurnBoardRow : OpenClaim := { program := "ytnpnhnkpnhcebaadoor", sum := "944869c702ece71584ca6db7e046e68a0539869c88142359c4f558d14d534fe6", func := "loop.example/g01207/laws.FnExactTurnBoard", spec := "fnExactTurnBoard", inPlace := ["internal/bytealg.CountString", "internal/bytealg.IndexByteString", "internal/bytealg.IndexString", "internal/abi.NoEscape", "internal/bytealg.MakeNoZero"], named := ["unicode/utf8.first", "unicode/utf8.acceptRanges", "internal/bytealg.MaxLen"], apart := false, laid := [("unicode/utf8.acceptRanges", laid_unicode_utf8_acceptRanges), ("unicode/utf8.first", laid_unicode_utf8_first)] }
def FnExactTurnBoardSaid : Prop := fnExactTurnBoardRow.holds Tryd.pinned (OpenSpec.ofChange fnExactTurnBoardSpec)

/-- ITS FALSE NEIGHBOUR: 'it returns false'. Refute it at one input. -/
def fnExactTurnBoardWrong : ChangeSpec := { name := "fnExactTurnBoard", fn := fun _ => fun
  | [d] => { results := [.lit (.bool false)], args := [d] }
  | _ => none }
def FnExactTurnBoardWrongFalsely : Prop := fnExactTurnBoardRow.holds Tryd.pinned (OpenSpec.ofChange fnExactTurnBoardWrong)

/-- 'laws.FnExactIsLabelled': WHATEVER THE INPUT: true; the input reads as it did. -/
def fnExactIsLabelledSpec : ChangeSpec := { name := "fnExactIsLabelled", fn := fun _ => fun
  | [d] => { results := [.lit (.bool true)], args := [d] }
  | _ => none }
def fnExactIsLabelledRow : OpenClaim := { program := "ytnpnhnkpnhcebaadoor", sum := "944869c702ece71584ca6db7e046e68a0539869c88142359c4f558d14d534fe6", func := "loop.example/g01207/laws.FnExactIsLabelled", spec := "fnExactIsLabelled", inPlace := ["internal/bytealg.CountString", "internal/bytealg.IndexByteString", "internal/bytealg.IndexString"], named := ["unicode/utf8.first", "unicode/utf8.acceptRanges", "internal/bytealg.MaxLen"], apart := false, laid := [("unicode/utf8.acceptRanges", laid_unicode_utf8_acceptRanges), ("unicode/utf8.first", laid_unicode_utf8_first)] }
def FnExactIsLabelledSaid : Prop := fnExactIsLabelledRow.holds Tryd.pinned (OpenSpec.ofChange fnExactIsLabelledSpec)

/-- ITS FALSE NEIGHBOUR: 'it returns false'. Refute it at one input. -/
def fnExactIsLabelledWrong : ChangeSpec := { name := "fnExactIsLabelled", fn := fun _ => fun
  | [d] => { results := [.lit (.bool false)], args := [d] }
  | _ => none }
def FnExactIsLabelledWrongFalsely : Prop := fnExactIsLabelledRow.holds Tryd.pinned (OpenSpec.ofChange fnExactIsLabelledWrong)

/-- 'laws.FnExactFloorOfLabels': WHATEVER THE INPUT: true; the input reads as it did. -/
def fnExactFloorOfLabelsSpec : ChangeSpec := { name := "fnExactFloorOfLabels", fn := fun _ => fun
  | [d] => { results := [.lit (.bool true)], args := [d] }
  | _ => none }
def fnExactFloorOfLabelsRow : OpenClaim := { program := "ytnpnhnkpnhcebaadoor", sum := "944869c702ece71584ca6db7e046e68a0539869c88142359c4f558d14d534fe6", func := "loop.example/g01207/laws.FnExactFloorOfLabels", spec := "fnExactFloorOfLabels", inPlace := ["internal/bytealg.CountString", "internal/bytealg.IndexByteString", "internal/bytealg.IndexString"], named := ["unicode/utf8.first", "unicode/utf8.acceptRanges", "internal/bytealg.MaxLen"], apart := false, laid := [("unicode/utf8.acceptRanges", laid_unicode_utf8_acceptRanges), ("unicode/utf8.first", laid_unicode_utf8_first)] }
def FnExactFloorOfLabelsSaid : Prop := fnExactFloorOfLabelsRow.holds Tryd.pinned (OpenSpec.ofChange fnExactFloorOfLabelsSpec)

/-- ITS FALSE NEIGHBOUR: 'it returns false'. Refute it at one input. -/
def fnExactFloorOfLabelsWrong : ChangeSpec := { name := "fnExactFloorOfLabels", fn := fun _ => fun
  | [d] => { results := [.lit (.bool false)], args := [d] }
  | _ => none }
def FnExactFloorOfLabelsWrongFalsely : Prop := fnExactFloorOfLabelsRow.holds Tryd.pinned (OpenSpec.ofChange fnExactFloorOfLabelsWrong)

/-- 'laws.FnExactMatchesHere': WHATEVER THE INPUT: true; the input reads as it did. -/
def fnExactMatchesHereSpec : ChangeSpec := { name := "fnExactMatchesHere", fn := fun _ => fun
  | [d1, d2] => { results := [.lit (.bool true)], args := [d1, d2] }
  | _ => none }
def fnExactMatchesHereRow : OpenClaim := { program := "ytnpnhnkpnhcebaadoor", sum := "944869c702ece71584ca6db7e046e68a0539869c88142359c4f558d14d534fe6", func := "loop.example/g01207/laws.FnExactMatchesHere", spec := "fnExactMatchesHere", inPlace := ["internal/bytealg.CountString", "internal/bytealg.IndexByteString", "internal/bytealg.IndexString"], named := ["unicode/utf8.first", "unicode/utf8.acceptRanges", "internal/bytealg.MaxLen"], apart := false, laid := [("unicode/utf8.acceptRanges", laid_unicode_utf8_acceptRanges), ("unicode/utf8.first", laid_unicode_utf8_first)] }
def FnExactMatchesHereSaid : Prop := fnExactMatchesHereRow.holds Tryd.pinned (OpenSpec.ofChange fnExactMatchesHereSpec)

/-- ITS FALSE NEIGHBOUR: 'it returns false'. Refute it at one input. -/
def fnExactMatchesHereWrong : ChangeSpec := { name := "fnExactMatchesHere", fn := fun _ => fun
  | [d1, d2] => { results := [.lit (.bool false)], args := [d1, d2] }
  | _ => none }
def FnExactMatchesHereWrongFalsely : Prop := fnExactMatchesHereRow.holds Tryd.pinned (OpenSpec.ofChange fnExactMatchesHereWrong)

/-- 'laws.FnExactTurnLabelled': WHATEVER THE INPUT: true; the input reads as it did. -/
def fnExactTurnLabelledSpec : ChangeSpec := { name := "fnExactTurnLabelled", fn := fun _ => fun
  | [d] => { results := [.lit (.bool true)], args := [d] }
  | _ => none }
def fnExactTurnLabelledRow : OpenClaim := { program := "ytnpnhnkpnhcebaadoor", sum := "944869c702ece71584ca6db7e046e68a0539869c88142359c4f558d14d534fe6", func := "loop.example/g01207/laws.FnExactTurnLabelled", spec := "fnExactTurnLabelled", inPlace := ["internal/bytealg.CountString", "internal/bytealg.IndexByteString", "internal/bytealg.IndexString", "internal/abi.NoEscape", "internal/bytealg.MakeNoZero"], named := ["unicode/utf8.first", "unicode/utf8.acceptRanges", "internal/bytealg.MaxLen"], apart := false, laid := [("unicode/utf8.acceptRanges", laid_unicode_utf8_acceptRanges), ("unicode/utf8.first", laid_unicode_utf8_first)] }
def FnExactTurnLabelledSaid : Prop := fnExactTurnLabelledRow.holds Tryd.pinned (OpenSpec.ofChange fnExactTurnLabelledSpec)

/-- ITS FALSE NEIGHBOUR: 'it returns false'. Refute it at one input. -/
def fnExactTurnLabelledWrong : ChangeSpec := { name := "fnExactTurnLabelled", fn := fun _ => fun
  | [d] => { results := [.lit (.bool false)], args := [d] }
  | _ => none }
def FnExactTurnLabelledWrongFalsely : Prop := fnExactTurnLabelledRow.holds Tryd.pinned (OpenSpec.ofChange fnExactTurnLabelledWrong)

/- THE SECOND FORM. 'bulk': how many values and letters a reading holds, each counted each time it is reached (what is shared counts as often as it is met; a slice's spare places count too). A statement '..UptoSaid' is the law's where the arguments, and the package variables that the reading takes, are together of bulk at most 1048576: NARROWER than '..Said'. Prove '..Said' where nothing that the law and all that it calls make is longer than what came in: it says more and counts as full. Else prove '..UptoSaid'. A law counts once. -/
mutual
def uptoBulk {H : Type} : DataW H → Nat
  | .lit (.string bytes) => bytes.length + 1
  | .lit _ => 1
  | .nil => 1
  | .ptr d => uptoBulk d + 1
  | .slice elems spare => uptoBulkAll elems + uptoBulkAll spare + 1
  | .agg parts => uptoBulkAll parts + 1
  | .iface _ d => uptoBulk d + 1
  | .map entries => uptoBulkEntries entries + 1
  | .held _ => 1
def uptoBulkAll {H : Type} : List (DataW H) → Nat
  | [] => 0
  | d :: r => uptoBulk d + uptoBulkAll r
def uptoBulkEntries {H : Type} : List (Lit × DataW H) → Nat
  | [] => 0
  | x :: r => uptoBulkEntry x + uptoBulkEntries r
def uptoBulkEntry {H : Type} : Lit × DataW H → Nat
  | (.string bytes, d) => bytes.length + uptoBulk d + 1
  | (_, d) => uptoBulk d + 1
 end
def uptoSmall : (H : Type) → List (DataW H) → Bool := fun _ ds => decide (uptoBulkAll ds ≤ 1048576)
def OpenSpec.upto (s : _root_.Go.ChangeSpec) : _root_.Go.OpenSpec := { _root_.Go.OpenSpec.ofChange s with cond := some uptoSmall }

/-- 'laws.FnExactTurnBoard', WHERE WHAT IT READS IS OF BULK AT MOST 1048576: true; the input reads as it did. -/
def fnExactTurnBoardUptoRow : OpenClaim := { program := "ytnpnhnkpnhcebaadoor", sum := "944869c702ece71584ca6db7e046e68a0539869c88142359c4f558d14d534fe6", func := "loop.example/g01207/laws.FnExactTurnBoard", spec := "fnExactTurnBoard", inPlace := ["internal/bytealg.CountString", "internal/bytealg.IndexByteString", "internal/bytealg.IndexString", "internal/abi.NoEscape", "internal/bytealg.MakeNoZero"], named := ["unicode/utf8.first", "unicode/utf8.acceptRanges", "internal/bytealg.MaxLen"], apart := false, laid := [("unicode/utf8.acceptRanges", laid_unicode_utf8_acceptRanges), ("unicode/utf8.first", laid_unicode_utf8_first)], narrowed := true }
def FnExactTurnBoardUptoSaid : Prop := fnExactTurnBoardUptoRow.holds Tryd.pinned (OpenSpec.upto fnExactTurnBoardSpec)

/-- 'laws.FnExactIsLabelled', WHERE WHAT IT READS IS OF BULK AT MOST 1048576: true; the input reads as it did. -/
def fnExactIsLabelledUptoRow : OpenClaim := { program := "ytnpnhnkpnhcebaadoor", sum := "944869c702ece71584ca6db7e046e68a0539869c88142359c4f558d14d534fe6", func := "loop.example/g01207/laws.FnExactIsLabelled", spec := "fnExactIsLabelled", inPlace := ["internal/bytealg.CountString", "internal/bytealg.IndexByteString", "internal/bytealg.IndexString"], named := ["unicode/utf8.first", "unicode/utf8.acceptRanges", "internal/bytealg.MaxLen"], apart := false, laid := [("unicode/utf8.acceptRanges", laid_unicode_utf8_acceptRanges), ("unicode/utf8.first", laid_unicode_utf8_first)], narrowed := true }
def FnExactIsLabelledUptoSaid : Prop := fnExactIsLabelledUptoRow.holds Tryd.pinned (OpenSpec.upto fnExactIsLabelledSpec)

/-- 'laws.FnExactFloorOfLabels', WHERE WHAT IT READS IS OF BULK AT MOST 1048576: true; the input reads as it did. -/
def fnExactFloorOfLabelsUptoRow : OpenClaim := { program := "ytnpnhnkpnhcebaadoor", sum := "944869c702ece71584ca6db7e046e68a0539869c88142359c4f558d14d534fe6", func := "loop.example/g01207/laws.FnExactFloorOfLabels", spec := "fnExactFloorOfLabels", inPlace := ["internal/bytealg.CountString", "internal/bytealg.IndexByteString", "internal/bytealg.IndexString"], named := ["unicode/utf8.first", "unicode/utf8.acceptRanges", "internal/bytealg.MaxLen"], apart := false, laid := [("unicode/utf8.acceptRanges", laid_unicode_utf8_acceptRanges), ("unicode/utf8.first", laid_unicode_utf8_first)], narrowed := true }
def FnExactFloorOfLabelsUptoSaid : Prop := fnExactFloorOfLabelsUptoRow.holds Tryd.pinned (OpenSpec.upto fnExactFloorOfLabelsSpec)

/-- 'laws.FnExactMatchesHere', WHERE WHAT IT READS IS OF BULK AT MOST 1048576: true; the input reads as it did. -/
def fnExactMatchesHereUptoRow : OpenClaim := { program := "ytnpnhnkpnhcebaadoor", sum := "944869c702ece71584ca6db7e046e68a0539869c88142359c4f558d14d534fe6", func := "loop.example/g01207/laws.FnExactMatchesHere", spec := "fnExactMatchesHere", inPlace := ["internal/bytealg.CountString", "internal/bytealg.IndexByteString", "internal/bytealg.IndexString"], named := ["unicode/utf8.first", "unicode/utf8.acceptRanges", "internal/bytealg.MaxLen"], apart := false, laid := [("unicode/utf8.acceptRanges", laid_unicode_utf8_acceptRanges), ("unicode/utf8.first", laid_unicode_utf8_first)], narrowed := true }
def FnExactMatchesHereUptoSaid : Prop := fnExactMatchesHereUptoRow.holds Tryd.pinned (OpenSpec.upto fnExactMatchesHereSpec)

/-- 'laws.FnExactTurnLabelled', WHERE WHAT IT READS IS OF BULK AT MOST 1048576: true; the input reads as it did. -/
def fnExactTurnLabelledUptoRow : OpenClaim := { program := "ytnpnhnkpnhcebaadoor", sum := "944869c702ece71584ca6db7e046e68a0539869c88142359c4f558d14d534fe6", func := "loop.example/g01207/laws.FnExactTurnLabelled", spec := "fnExactTurnLabelled", inPlace := ["internal/bytealg.CountString", "internal/bytealg.IndexByteString", "internal/bytealg.IndexString", "internal/abi.NoEscape", "internal/bytealg.MakeNoZero"], named := ["unicode/utf8.first", "unicode/utf8.acceptRanges", "internal/bytealg.MaxLen"], apart := false, laid := [("unicode/utf8.acceptRanges", laid_unicode_utf8_acceptRanges), ("unicode/utf8.first", laid_unicode_utf8_first)], narrowed := true }
def FnExactTurnLabelledUptoSaid : Prop := fnExactTurnLabelledUptoRow.holds Tryd.pinned (OpenSpec.upto fnExactTurnLabelledSpec)

end Rows
end Go.Proofs.YtnpnhnkpnhcebaaDoor
