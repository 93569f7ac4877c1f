/-
  NARROWER THAN 'FOR EVERY INPUT', by the rows' own cells (each row's printed sentence says how): FnExactRollState: laid · FnExactRollAlong: laid · FnExactTopsAlong: laid · FnExactSumOfTops: laid · FnExactStatesAlong: laid · FnExactFirstStop: laid · FnExactTurnState: laid.
  DERIVED. THE GIVEN ROWS OF THIS SEAT. 7 by the template 'for every input the law returns true; each argument reads behind the call as it read before'; 0 by the template 'total and deterministic' (their statements: YtballmdcalfdnaaDoorTotals.lean).
  GIVEN WITH THE SEED: the statements are not yours to turn. If you find one false, say at which input.
  Laid BY PROGRAM, IN A SANDBOX (cutbox-rows.mjs): the forced cells as the released guide's own fill.sh prints them over the translation 664102a142890a8e… (all of the seat's roots in one cut). By AI agents, Wed Nov 11 2026. No macro, syntax, notation, axiom, sorry.
-/
import Derived.Test.YtballmdcalfdnaaDoorChecked
import GoSem.PinnedTables
import GoSem.Claim
import GoSem.ClaimJoined
import GoSem.ClaimMapViews
import Derived.JoinedTies
import Derived.KernelRfl
namespace Go.Proofs.YtballmdcalfdnaaDoor
/- THE CELL 'sum', in the pinned program and in every row, IS THE sha256 OF THE DUMP (.gsa) THAT YtballmdcalfdnaaDoorProg.lean LOADS. Nothing in Lean hashes anything: it is a label: what it is worth is what the hold of that sum in a sandbox is worth. -/
noncomputable def Tryd.pinned : Pinned := { name := "ytballmdcalfdnaadoor", sum := "664102a142890a8ea5f2bc8018fff6635e1b879732e4b6df2618604d9eed17d8", checked := Tryd.checked }
namespace Rows
def none {H : Type} : Left H := { results := [], args := [] }

/- WHAT THE LISTED PACKAGE-LEVEL VARIABLES READ AS WHEN THE CALL BEGINS. Each datum BY PROGRAM (the guide's laid-datum.mjs) off the statement by which the dump's own 'gosem.cut.vars' lays the variable. In a bare row this is a premise. The card (YtballmdcalfdnaaDoorCards.lean) ties it to the program's text. -/
def laid_unicode_utf8_acceptRanges {H : Type} : DataW H := .agg [.agg [.lit (.int .u8 128), .lit (.int .u8 191)], .agg [.lit (.int .u8 160), .lit (.int .u8 191)], .agg [.lit (.int .u8 128), .lit (.int .u8 159)], .agg [.lit (.int .u8 144), .lit (.int .u8 191)], .agg [.lit (.int .u8 128), .lit (.int .u8 143)], .agg [.lit (.int .u8 0), .lit (.int .u8 0)], .agg [.lit (.int .u8 0), .lit (.int .u8 0)], .agg [.lit (.int .u8 0), .lit (.int .u8 0)], .agg [.lit (.int .u8 0), .lit (.int .u8 0)], .agg [.lit (.int .u8 0), .lit (.int .u8 0)], .agg [.lit (.int .u8 0), .lit (.int .u8 0)], .agg [.lit (.int .u8 0), .lit (.int .u8 0)], .agg [.lit (.int .u8 0), .lit (.int .u8 0)], .agg [.lit (.int .u8 0), .lit (.int .u8 0)], .agg [.lit (.int .u8 0), .lit (.int .u8 0)], .agg [.lit (.int .u8 0), .lit (.int .u8 0)]]
/-- One of Go's own tables, pinned by name: the form's constant. -/
def laid_unicode_utf8_first : DataW Unit := Go.Pinned.utf8First

/-- 'laws.FnExactRollState': WHATEVER THE INPUT: true; the input reads as it did. -/
def fnExactRollStateSpec : ChangeSpec := { name := "fnExactRollState", fn := fun _ => fun
  | [d1, d2, d3] => { results := [.lit (.bool true)], args := [d1, d2, d3] }
  | _ => none }
def fnExactRollStateRow : OpenClaim := { program := "ytballmdcalfdnaadoor", sum := "664102a142890a8ea5f2bc8018fff6635e1b879732e4b6df2618604d9eed17d8", func := "loop.example/g01207/laws.FnExactRollState", spec := "fnExactRollState", inPlace := ["internal/bytealg.IndexByteString", "internal/bytealg.CountString", "internal/bytealg.IndexString"], unfollowed := true, recurses := true, named := ["unicode/utf8.first", "unicode/utf8.acceptRanges", "internal/bytealg.MaxLen"], apart := false, laid := [("unicode/utf8.acceptRanges", laid_unicode_utf8_acceptRanges), ("unicode/utf8.first", laid_unicode_utf8_first)] }
def FnExactRollStateSaid : Prop := fnExactRollStateRow.holds Tryd.pinned (OpenSpec.ofChange fnExactRollStateSpec)

/-- ITS FALSE NEIGHBOUR: 'it returns false'. Refute it at one input. -/
def fnExactRollStateWrong : ChangeSpec := { name := "fnExactRollState", fn := fun _ => fun
  | [d1, d2, d3] => { results := [.lit (.bool false)], args := [d1, d2, d3] }
  | _ => none }
def FnExactRollStateWrongFalsely : Prop := fnExactRollStateRow.holds Tryd.pinned (OpenSpec.ofChange fnExactRollStateWrong)

/-- 'laws.FnExactRollAlong': WHATEVER THE INPUT: true; the input reads as it did. -/
def fnExactRollAlongSpec : ChangeSpec := { name := "fnExactRollAlong", fn := fun _ => fun
  | [d1, d2, d3] => { results := [.lit (.bool true)], args := [d1, d2, d3] }
  | _ => none }
def fnExactRollAlongRow : OpenClaim := { program := "ytballmdcalfdnaadoor", sum := "664102a142890a8ea5f2bc8018fff6635e1b879732e4b6df2618604d9eed17d8", func := "loop.example/g01207/laws.FnExactRollAlong", spec := "fnExactRollAlong", inPlace := ["internal/bytealg.CountString", "internal/bytealg.IndexByteString", "internal/bytealg.IndexString"], unfollowed := true, recurses := true, named := ["unicode/utf8.first", "unicode/utf8.acceptRanges", "internal/bytealg.MaxLen"], apart := false, laid := [("unicode/utf8.acceptRanges", laid_unicode_utf8_acceptRanges), ("unicode/utf8.first", laid_unicode_utf8_first)] }
def FnExactRollAlongSaid : Prop := fnExactRollAlongRow.holds Tryd.pinned (OpenSpec.ofChange fnExactRollAlongSpec)

/-- ITS FALSE NEIGHBOUR: 'it returns false'. Refute it at one input. -/
def fnExactRollAlongWrong : ChangeSpec := { name := "fnExactRollAlong", fn := fun _ => fun
  | [d1, d2, d3] => { results := [.lit (.bool false)], args := [d1, d2, d3] }
  | _ => none }
def FnExactRollAlongWrongFalsely : Prop := fnExactRollAlongRow.holds Tryd.pinned (OpenSpec.ofChange fnExactRollAlongWrong)

/-- 'laws.FnExactTopsAlong': WHATEVER THE INPUT: true; the input reads as it did. -/
def fnExactTopsAlongSpec : ChangeSpec := { name := "fnExactTopsAlong", fn := fun _ => fun
  | [d1, d2, d3] => { results := [.lit (.bool true)], args := [d1, d2, d3] }
  | _ => none }
def fnExactTopsAlongRow : OpenClaim := { program := "ytballmdcalfdnaadoor", sum := "664102a142890a8ea5f2bc8018fff6635e1b879732e4b6df2618604d9eed17d8", func := "loop.example/g01207/laws.FnExactTopsAlong", spec := "fnExactTopsAlong", inPlace := ["internal/bytealg.CountString", "internal/bytealg.IndexByteString", "internal/bytealg.IndexString"], unfollowed := true, recurses := true, named := ["unicode/utf8.first", "unicode/utf8.acceptRanges", "internal/bytealg.MaxLen"], apart := false, laid := [("unicode/utf8.acceptRanges", laid_unicode_utf8_acceptRanges), ("unicode/utf8.first", laid_unicode_utf8_first)] }
def FnExactTopsAlongSaid : Prop := fnExactTopsAlongRow.holds Tryd.pinned (OpenSpec.ofChange fnExactTopsAlongSpec)

/-- ITS FALSE NEIGHBOUR: 'it returns false'. Refute it at one input. -/
def fnExactTopsAlongWrong : ChangeSpec := { name := "fnExactTopsAlong", fn := fun _ => fun
  | [d1, d2, d3] => { results := [.lit (.bool false)], args := [d1, d2, d3] }
  | _ => none }
def FnExactTopsAlongWrongFalsely : Prop := fnExactTopsAlongRow.holds Tryd.pinned (OpenSpec.ofChange fnExactTopsAlongWrong)

/-- 'laws.FnExactSumOfTops': WHATEVER THE INPUT: true; the input reads as it did. -/
def fnExactSumOfTopsSpec : ChangeSpec := { name := "fnExactSumOfTops", fn := fun _ => fun
  | [d1, d2, d3] => { results := [.lit (.bool true)], args := [d1, d2, d3] }
  | _ => none }
def fnExactSumOfTopsRow : OpenClaim := { program := "ytballmdcalfdnaadoor", sum := "664102a142890a8ea5f2bc8018fff6635e1b879732e4b6df2618604d9eed17d8", func := "loop.example/g01207/laws.FnExactSumOfTops", spec := "fnExactSumOfTops", inPlace := ["internal/bytealg.CountString", "internal/bytealg.IndexByteString", "internal/bytealg.IndexString"], unfollowed := true, recurses := true, named := ["unicode/utf8.first", "unicode/utf8.acceptRanges", "internal/bytealg.MaxLen"], apart := false, laid := [("unicode/utf8.acceptRanges", laid_unicode_utf8_acceptRanges), ("unicode/utf8.first", laid_unicode_utf8_first)] }
def FnExactSumOfTopsSaid : Prop := fnExactSumOfTopsRow.holds Tryd.pinned (OpenSpec.ofChange fnExactSumOfTopsSpec)

/-- ITS FALSE NEIGHBOUR: 'it returns false'. Refute it at one input. -/
def fnExactSumOfTopsWrong : ChangeSpec := { name := "fnExactSumOfTops", fn := fun _ => fun
  | [d1, d2, d3] => { results := [.lit (.bool false)], args := [d1, d2, d3] }
  | _ => none }
def FnExactSumOfTopsWrongFalsely : Prop := fnExactSumOfTopsRow.holds Tryd.pinned (OpenSpec.ofChange fnExactSumOfTopsWrong)

/-- 'laws.FnExactStatesAlong': WHATEVER THE INPUT: true; the input reads as it did. -/
def fnExactStatesAlongSpec : ChangeSpec := { name := "fnExactStatesAlong", fn := fun _ => fun
  | [d1, d2, d3] => { results := [.lit (.bool true)], args := [d1, d2, d3] }
  | _ => none }
def fnExactStatesAlongRow : OpenClaim := { program := "ytballmdcalfdnaadoor", sum := "664102a142890a8ea5f2bc8018fff6635e1b879732e4b6df2618604d9eed17d8", func := "loop.example/g01207/laws.FnExactStatesAlong", spec := "fnExactStatesAlong", inPlace := ["internal/bytealg.CountString", "internal/bytealg.IndexByteString", "internal/bytealg.IndexString"], unfollowed := true, recurses := true, named := ["unicode/utf8.first", "unicode/utf8.acceptRanges", "internal/bytealg.MaxLen"], apart := false, laid := [("unicode/utf8.acceptRanges", laid_unicode_utf8_acceptRanges), ("unicode/utf8.first", laid_unicode_utf8_first)] }
def FnExactStatesAlongSaid : Prop := fnExactStatesAlongRow.holds Tryd.pinned (OpenSpec.ofChange fnExactStatesAlongSpec)

/-- ITS FALSE NEIGHBOUR: 'it returns false'. Refute it at one input. -/
def fnExactStatesAlongWrong : ChangeSpec := { name := "fnExactStatesAlong", fn := fun _ => fun
  | [d1, d2, d3] => { results := [.lit (.bool false)], args := [d1, d2, d3] }
  | _ => none }
def FnExactStatesAlongWrongFalsely : Prop := fnExactStatesAlongRow.holds Tryd.pinned (OpenSpec.ofChange fnExactStatesAlongWrong)

/-- 'laws.FnExactFirstStop': WHATEVER THE INPUT: true; the input reads as it did. -/
def fnExactFirstStopSpec : ChangeSpec := { name := "fnExactFirstStop", fn := fun _ => fun
  | [d1, d2, d3] => { results := [.lit (.bool true)], args := [d1, d2, d3] }
  | _ => none }
def fnExactFirstStopRow : OpenClaim := { program := "ytballmdcalfdnaadoor", sum := "664102a142890a8ea5f2bc8018fff6635e1b879732e4b6df2618604d9eed17d8", func := "loop.example/g01207/laws.FnExactFirstStop", spec := "fnExactFirstStop", inPlace := ["internal/bytealg.CountString", "internal/bytealg.IndexByteString", "internal/bytealg.IndexString"], unfollowed := true, recurses := true, named := ["unicode/utf8.first", "unicode/utf8.acceptRanges", "internal/bytealg.MaxLen"], apart := false, laid := [("unicode/utf8.acceptRanges", laid_unicode_utf8_acceptRanges), ("unicode/utf8.first", laid_unicode_utf8_first)] }
def FnExactFirstStopSaid : Prop := fnExactFirstStopRow.holds Tryd.pinned (OpenSpec.ofChange fnExactFirstStopSpec)

/-- ITS FALSE NEIGHBOUR: 'it returns false'. Refute it at one input. -/
def fnExactFirstStopWrong : ChangeSpec := { name := "fnExactFirstStop", fn := fun _ => fun
  | [d1, d2, d3] => { results := [.lit (.bool false)], args := [d1, d2, d3] }
  | _ => none }
def FnExactFirstStopWrongFalsely : Prop := fnExactFirstStopRow.holds Tryd.pinned (OpenSpec.ofChange fnExactFirstStopWrong)

/-- 'laws.FnExactTurnState': WHATEVER THE INPUT: true; the input reads as it did. -/
def fnExactTurnStateSpec : ChangeSpec := { name := "fnExactTurnState", fn := fun _ => fun
  | [d1, d2] => { results := [.lit (.bool true)], args := [d1, d2] }
  | _ => none }
def fnExactTurnStateRow : OpenClaim := { program := "ytballmdcalfdnaadoor", sum := "664102a142890a8ea5f2bc8018fff6635e1b879732e4b6df2618604d9eed17d8", func := "loop.example/g01207/laws.FnExactTurnState", spec := "fnExactTurnState", inPlace := ["internal/bytealg.CountString", "internal/bytealg.IndexByteString", "internal/bytealg.IndexString"], named := ["unicode/utf8.first", "unicode/utf8.acceptRanges", "internal/bytealg.MaxLen"], apart := false, laid := [("unicode/utf8.acceptRanges", laid_unicode_utf8_acceptRanges), ("unicode/utf8.first", laid_unicode_utf8_first)] }
def FnExactTurnStateSaid : Prop := fnExactTurnStateRow.holds Tryd.pinned (OpenSpec.ofChange fnExactTurnStateSpec)

/-- ITS FALSE NEIGHBOUR: 'it returns false'. Refute it at one input. -/
def fnExactTurnStateWrong : ChangeSpec := { name := "fnExactTurnState", fn := fun _ => fun
  | [d1, d2] => { results := [.lit (.bool false)], args := [d1, d2] }
  | _ => none }
def FnExactTurnStateWrongFalsely : Prop := fnExactTurnStateRow.holds Tryd.pinned (OpenSpec.ofChange fnExactTurnStateWrong)

/- THE SECOND FORM. 'bulk': how many values and letters a reading holds, each counted each time it is reached (what is shared counts as often as it is met; a slice's spare places count too). A statement '..UptoSaid' is the law's where the arguments, and the package variables that the reading takes, are together of bulk at most 1048576: NARROWER than '..Said'. Prove '..Said' where nothing that the law and all that it calls make is longer than what came in: it says more and counts as full. Else prove '..UptoSaid'. A law counts once. -/
mutual
def uptoBulk {H : Type} : DataW H → Nat
  | .lit (.string bytes) => bytes.length + 1
  | .lit _ => 1
  | .nil => 1
  | .ptr d => uptoBulk d + 1
  | .slice elems spare => uptoBulkAll elems + uptoBulkAll spare + 1
  | .agg parts => uptoBulkAll parts + 1
  | .iface _ d => uptoBulk d + 1
  | .map entries => uptoBulkEntries entries + 1
  | .held _ => 1
def uptoBulkAll {H : Type} : List (DataW H) → Nat
  | [] => 0
  | d :: r => uptoBulk d + uptoBulkAll r
def uptoBulkEntries {H : Type} : List (Lit × DataW H) → Nat
  | [] => 0
  | x :: r => uptoBulkEntry x + uptoBulkEntries r
def uptoBulkEntry {H : Type} : Lit × DataW H → Nat
  | (.string bytes, d) => bytes.length + uptoBulk d + 1
  | (_, d) => uptoBulk d + 1
 end
def uptoSmall : (H : Type) → List (DataW H) → Bool := fun _ ds => decide (uptoBulkAll ds ≤ 1048576)
def OpenSpec.upto (s : _root_.Go.ChangeSpec) : _root_.Go.OpenSpec := { _root_.Go.OpenSpec.ofChange s with cond := some uptoSmall }

/-- 'laws.FnExactRollState', WHERE WHAT IT READS IS OF BULK AT MOST 1048576: true; the input reads as it did. -/
def fnExactRollStateUptoRow : OpenClaim := { program := "ytballmdcalfdnaadoor", sum := "664102a142890a8ea5f2bc8018fff6635e1b879732e4b6df2618604d9eed17d8", func := "loop.example/g01207/laws.FnExactRollState", spec := "fnExactRollState", inPlace := ["internal/bytealg.IndexByteString", "internal/bytealg.CountString", "internal/bytealg.IndexString"], unfollowed := true, recurses := true, named := ["unicode/utf8.first", "unicode/utf8.acceptRanges", "internal/bytealg.MaxLen"], apart := false, laid := [("unicode/utf8.acceptRanges", laid_unicode_utf8_acceptRanges), ("unicode/utf8.first", laid_unicode_utf8_first)], narrowed := true }
def FnExactRollStateUptoSaid : Prop := fnExactRollStateUptoRow.holds Tryd.pinned (OpenSpec.upto fnExactRollStateSpec)

/-- 'laws.FnExactRollAlong', WHERE WHAT IT READS IS OF BULK AT MOST 1048576: true; the input reads as it did. -/
def fnExactRollAlongUptoRow : OpenClaim := { program := "ytballmdcalfdnaadoor", sum := "664102a142890a8ea5f2bc8018fff6635e1b879732e4b6df2618604d9eed17d8", func := "loop.example/g01207/laws.FnExactRollAlong", spec := "fnExactRollAlong", inPlace := ["internal/bytealg.CountString", "internal/bytealg.IndexByteString", "internal/bytealg.IndexString"], unfollowed := true, recurses := true, named := ["unicode/utf8.first", "unicode/utf8.acceptRanges", "internal/bytealg.MaxLen"], apart := false, laid := [("unicode/utf8.acceptRanges", laid_unicode_utf8_acceptRanges), ("unicode/utf8.first", laid_unicode_utf8_first)], narrowed := true }
def FnExactRollAlongUptoSaid : Prop := fnExactRollAlongUptoRow.holds Tryd.pinned (OpenSpec.upto fnExactRollAlongSpec)

/-- 'laws.FnExactTopsAlong', WHERE WHAT IT READS IS OF BULK AT MOST 1048576: true; the input reads as it did. -/
def fnExactTopsAlongUptoRow : OpenClaim := { program := "ytballmdcalfdnaadoor", sum := "664102a142890a8ea5f2bc8018fff6635e1b879732e4b6df2618604d9eed17d8", func := "loop.example/g01207/laws.FnExactTopsAlong", spec := "fnExactTopsAlong", inPlace := ["internal/bytealg.CountString", "internal/bytealg.IndexByteString", "internal/bytealg.IndexString"], unfollowed := true, recurses := true, named := ["unicode/utf8.first", "unicode/utf8.acceptRanges", "internal/bytealg.MaxLen"], apart := false, laid := [("unicode/utf8.acceptRanges", laid_unicode_utf8_acceptRanges), ("unicode/utf8.first", laid_unicode_utf8_first)], narrowed := true }
def FnExactTopsAlongUptoSaid : Prop := fnExactTopsAlongUptoRow.holds Tryd.pinned (OpenSpec.upto fnExactTopsAlongSpec)

/-- 'laws.FnExactSumOfTops', WHERE WHAT IT READS IS OF BULK AT MOST 1048576: true; the input reads as it did. -/
def fnExactSumOfTopsUptoRow : OpenClaim := { program := "ytballmdcalfdnaadoor", sum := "664102a142890a8ea5f2bc8018fff6635e1b879732e4b6df2618604d9eed17d8", func := "loop.example/g01207/laws.FnExactSumOfTops", spec := "fnExactSumOfTops", inPlace := ["internal/bytealg.CountString", "internal/bytealg.IndexByteString", "internal/bytealg.IndexString"], unfollowed := true, recurses := true, named := ["unicode/utf8.first", "unicode/utf8.acceptRanges", "internal/bytealg.MaxLen"], apart := false, laid := [("unicode/utf8.acceptRanges", laid_unicode_utf8_acceptRanges), ("unicode/utf8.first", laid_unicode_utf8_first)], narrowed := true }
def FnExactSumOfTopsUptoSaid : Prop := fnExactSumOfTopsUptoRow.holds Tryd.pinned (OpenSpec.upto fnExactSumOfTopsSpec)

/-- 'laws.FnExactStatesAlong', WHERE WHAT IT READS IS OF BULK AT MOST 1048576: true; the input reads as it did. -/
def fnExactStatesAlongUptoRow : OpenClaim := { program := "ytballmdcalfdnaadoor", sum := "664102a142890a8ea5f2bc8018fff6635e1b879732e4b6df2618604d9eed17d8", func := "loop.example/g01207/laws.FnExactStatesAlong", spec := "fnExactStatesAlong", inPlace := ["internal/bytealg.CountString", "internal/bytealg.IndexByteString", "internal/bytealg.IndexString"], unfollowed := true, recurses := true, named := ["unicode/utf8.first", "unicode/utf8.acceptRanges", "internal/bytealg.MaxLen"], apart := false, laid := [("unicode/utf8.acceptRanges", laid_unicode_utf8_acceptRanges), ("unicode/utf8.first", laid_unicode_utf8_first)], narrowed := true }
def FnExactStatesAlongUptoSaid : Prop := fnExactStatesAlongUptoRow.holds Tryd.pinned (OpenSpec.upto fnExactStatesAlongSpec)

/-- 'laws.FnExactFirstStop', WHERE WHAT IT READS IS OF BULK AT MOST 1048576: true; the input reads as it did. -/
def fnExactFirstStopUptoRow : OpenClaim := { program := "ytballmdcalfdnaadoor", sum := "664102a142890a8ea5f2bc8018fff6635e1b879732e4b6df2618604d9eed17d8", func := "loop.example/g01207/laws.FnExactFirstStop", spec := "fnExactFirstStop", inPlace := ["internal/bytealg.CountString", "internal/bytealg.IndexByteString", "internal/bytealg.IndexString"], unfollowed := true, recurses := true, named := ["unicode/utf8.first", "unicode/utf8.acceptRanges", "internal/bytealg.MaxLen"], apart := false, laid := [("unicode/utf8.acceptRanges", laid_unicode_utf8_acceptRanges), ("unicode/utf8.first", laid_unicode_utf8_first)], narrowed := true }
def FnExactFirstStopUptoSaid : Prop := fnExactFirstStopUptoRow.holds Tryd.pinned (OpenSpec.upto fnExactFirstStopSpec)

/-- 'laws.FnExactTurnState', WHERE WHAT IT READS IS OF BULK AT MOST 1048576: true; the input reads as it did. -/
def fnExactTurnStateUptoRow : OpenClaim := { program := "ytballmdcalfdnaadoor", sum := "664102a142890a8ea5f2bc8018fff6635e1b879732e4b6df2618604d9eed17d8", func := "loop.example/g01207/laws.FnExactTurnState", spec := "fnExactTurnState", inPlace := ["internal/bytealg.CountString", "internal/bytealg.IndexByteString", "internal/bytealg.IndexString"], named := ["unicode/utf8.first", "unicode/utf8.acceptRanges", "internal/bytealg.MaxLen"], apart := false, laid := [("unicode/utf8.acceptRanges", laid_unicode_utf8_acceptRanges), ("unicode/utf8.first", laid_unicode_utf8_first)], narrowed := true }
def FnExactTurnStateUptoSaid : Prop := fnExactTurnStateUptoRow.holds Tryd.pinned (OpenSpec.upto fnExactTurnStateSpec)

end Rows
end Go.Proofs.YtballmdcalfdnaaDoor
