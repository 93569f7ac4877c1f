/-
  NARROWER THAN 'FOR EVERY INPUT', by the rows' own cells (each row's printed sentence says how): FnExactOppositeOf: laid · FnExactIsCommonDie: laid · FnExactTurnBoard: laid.
  DERIVED. THE GIVEN ROWS OF THIS SEAT. 3 by the template 'for every input the law returns true; each argument reads behind the call as it read before'; 0 by the template 'total and deterministic' (their statements: YtpngbdpjepddhaaDoorTotals.lean).
  GIVEN WITH THE SEED: the statements are not yours to turn. If you find one false, say at which input.
  Laid BY PROGRAM, IN A SANDBOX (cutbox-rows.mjs): the forced cells as the released guide's own fill.sh prints them over the translation c85ea7cdf0739a15… (all of the seat's roots in one cut). By AI agents, Wed Nov 11 2026. No macro, syntax, notation, axiom, sorry.
-/
import Derived.Test.YtpngbdpjepddhaaDoorChecked
import GoSem.PinnedTables
import GoSem.Claim
import GoSem.ClaimJoined
import GoSem.ClaimMapViews
import Derived.JoinedTies
import Derived.KernelRfl
namespace Go.Proofs.YtpngbdpjepddhaaDoor
/- THE CELL 'sum', in the pinned program and in every row, IS THE sha256 OF THE DUMP (.gsa) THAT YtpngbdpjepddhaaDoorProg.lean LOADS. Nothing in Lean hashes anything: it is a label: what it is worth is what the hold of that sum in a sandbox is worth. -/
noncomputable def Tryd.pinned : Pinned := { name := "ytpngbdpjepddhaadoor", sum := "c85ea7cdf0739a151c8bd5d6dfac62ffe299bef9b5eaca3cab5c76ac75a716b0", checked := Tryd.checked }
namespace Rows
def none {H : Type} : Left H := { results := [], args := [] }

/- WHAT THE LISTED PACKAGE-LEVEL VARIABLES READ AS WHEN THE CALL BEGINS. Each datum BY PROGRAM (the guide's laid-datum.mjs) off the statement by which the dump's own 'gosem.cut.vars' lays the variable. In a bare row this is a premise. The card (YtpngbdpjepddhaaDoorCards.lean) ties it to the program's text. -/
def laid_loop_example_g01207_impl_oppositePlaces {H : Type} : DataW H := .agg [.lit (.int .i64 5), .lit (.int .i64 3), .lit (.int .i64 4), .lit (.int .i64 1), .lit (.int .i64 2), .lit (.int .i64 0)]
def laid_unicode_utf8_acceptRanges {H : Type} : DataW H := .agg [.agg [.lit (.int .u8 128), .lit (.int .u8 191)], .agg [.lit (.int .u8 160), .lit (.int .u8 191)], .agg [.lit (.int .u8 128), .lit (.int .u8 159)], .agg [.lit (.int .u8 144), .lit (.int .u8 191)], .agg [.lit (.int .u8 128), .lit (.int .u8 143)], .agg [.lit (.int .u8 0), .lit (.int .u8 0)], .agg [.lit (.int .u8 0), .lit (.int .u8 0)], .agg [.lit (.int .u8 0), .lit (.int .u8 0)], .agg [.lit (.int .u8 0), .lit (.int .u8 0)], .agg [.lit (.int .u8 0), .lit (.int .u8 0)], .agg [.lit (.int .u8 0), .lit (.int .u8 0)], .agg [.lit (.int .u8 0), .lit (.int .u8 0)], .agg [.lit (.int .u8 0), .lit (.int .u8 0)], .agg [.lit (.int .u8 0), .lit (.int .u8 0)], .agg [.lit (.int .u8 0), .lit (.int .u8 0)], .agg [.lit (.int .u8 0), .lit (.int .u8 0)]]
/-- One of Go's own tables, pinned by name: the form's constant. -/
def laid_unicode_utf8_first : DataW Unit := Go.Pinned.utf8First

/-- 'laws.FnExactOppositeOf': WHATEVER THE INPUT: true; the input reads as it did. -/
def fnExactOppositeOfSpec : ChangeSpec := { name := "fnExactOppositeOf", vars := ["loop.example/g01207/impl.oppositePlaces"], fn := fun _ => fun
  | [d1, d2, g1] => { results := [.lit (.bool true)], args := [d1, d2], vars := [g1] }
  | _ => none }
def fnExactOppositeOfRow : OpenClaim := { program := "ytpngbdpjepddhaadoor", sum := "c85ea7cdf0739a151c8bd5d6dfac62ffe299bef9b5eaca3cab5c76ac75a716b0", func := "loop.example/g01207/laws.FnExactOppositeOf", spec := "fnExactOppositeOf", named := ["loop.example/g01207/impl.oppositePlaces"], apart := false, laid := [("loop.example/g01207/impl.oppositePlaces", laid_loop_example_g01207_impl_oppositePlaces)] }
def FnExactOppositeOfSaid : Prop := fnExactOppositeOfRow.holds Tryd.pinned (OpenSpec.ofChange fnExactOppositeOfSpec)

/-- ITS FALSE NEIGHBOUR: 'it returns false'. Refute it at one input. -/
def fnExactOppositeOfWrong : ChangeSpec := { name := "fnExactOppositeOf", vars := ["loop.example/g01207/impl.oppositePlaces"], fn := fun _ => fun
  | [d1, d2, g1] => { results := [.lit (.bool false)], args := [d1, d2], vars := [g1] }
  | _ => none }
def FnExactOppositeOfWrongFalsely : Prop := fnExactOppositeOfRow.holds Tryd.pinned (OpenSpec.ofChange fnExactOppositeOfWrong)

/-- 'laws.FnExactIsCommonDie': WHATEVER THE INPUT: true; the input reads as it did. -/
def fnExactIsCommonDieSpec : ChangeSpec := { name := "fnExactIsCommonDie", vars := ["loop.example/g01207/impl.oppositePlaces"], fn := fun _ => fun
  | [d, g1] => { results := [.lit (.bool true)], args := [d], vars := [g1] }
  | _ => none }
def fnExactIsCommonDieRow : OpenClaim := { program := "ytpngbdpjepddhaadoor", sum := "c85ea7cdf0739a151c8bd5d6dfac62ffe299bef9b5eaca3cab5c76ac75a716b0", func := "loop.example/g01207/laws.FnExactIsCommonDie", spec := "fnExactIsCommonDie", named := ["loop.example/g01207/impl.oppositePlaces"], apart := false, laid := [("loop.example/g01207/impl.oppositePlaces", laid_loop_example_g01207_impl_oppositePlaces)] }
def FnExactIsCommonDieSaid : Prop := fnExactIsCommonDieRow.holds Tryd.pinned (OpenSpec.ofChange fnExactIsCommonDieSpec)

/-- ITS FALSE NEIGHBOUR: 'it returns false'. Refute it at one input. -/
def fnExactIsCommonDieWrong : ChangeSpec := { name := "fnExactIsCommonDie", vars := ["loop.example/g01207/impl.oppositePlaces"], fn := fun _ => fun
  | [d, g1] => { results := [.lit (.bool false)], args := [d], vars := [g1] }
  | _ => none }
def FnExactIsCommonDieWrongFalsely : Prop := fnExactIsCommonDieRow.holds Tryd.pinned (OpenSpec.ofChange fnExactIsCommonDieWrong)

/-- 'laws.FnExactTurnBoard': WHATEVER THE INPUT: true; the input reads as it did. -/
def fnExactTurnBoardSpec : ChangeSpec := { name := "fnExactTurnBoard", fn := fun _ => fun
  | [d] => { results := [.lit (.bool true)], args := [d] }
  | _ => none }
def fnExactTurnBoardRow : OpenClaim := { program := "ytpngbdpjepddhaadoor", sum := "c85ea7cdf0739a151c8bd5d6dfac62ffe299bef9b5eaca3cab5c76ac75a716b0", func := "loop.example/g01207/laws.FnExactTurnBoard", spec := "fnExactTurnBoard", inPlace := ["internal/bytealg.CountString", "internal/bytealg.IndexByteString", "internal/bytealg.IndexString", "internal/abi.NoEscape", "internal/bytealg.MakeNoZero"], named := ["unicode/utf8.first", "unicode/utf8.acceptRanges", "internal/bytealg.MaxLen"], apart := false, laid := [("unicode/utf8.acceptRanges", laid_unicode_utf8_acceptRanges), ("unicode/utf8.first", laid_unicode_utf8_first)] }
def FnExactTurnBoardSaid : Prop := fnExactTurnBoardRow.holds Tryd.pinned (OpenSpec.ofChange fnExactTurnBoardSpec)

/-- ITS FALSE NEIGHBOUR: 'it returns false'. Refute it at one input. -/
def fnExactTurnBoardWrong : ChangeSpec := { name := "fnExactTurnBoard", fn := fun _ => fun
  | [d] => { results := [.lit (.bool false)], args := [d] }
  | _ => none }
def FnExactTurnBoardWrongFalsely : Prop := fnExactTurnBoardRow.holds Tryd.pinned (OpenSpec.ofChange fnExactTurnBoardWrong)

/- THE SECOND FORM. 'bulk': how many values and letters a reading holds, each counted each time it is reached (what is shared counts as often as it is met; a slice's spare places count too). A statement '..UptoSaid' is the law's where the arguments, and the package variables that the reading takes, are together of bulk at most 1048576: NARROWER than '..Said'. Prove '..Said' where nothing that the law and all that it calls make is longer than what came in: it says more and counts as full. Else prove '..UptoSaid'. A law counts once. -/
mutual
def uptoBulk {H : Type} : DataW H → Nat
  | .lit (.string bytes) => bytes.length + 1
  | .lit _ => 1
  | .nil => 1
  | .ptr d => uptoBulk d + 1
  | .slice elems spare => uptoBulkAll elems + uptoBulkAll spare + 1
  | .agg parts => uptoBulkAll parts + 1
  | .iface _ d => uptoBulk d + 1
  | .map entries => uptoBulkEntries entries + 1
  | .held _ => 1
def uptoBulkAll {H : Type} : List (DataW H) → Nat
  | [] => 0
  | d :: r => uptoBulk d + uptoBulkAll r
def uptoBulkEntries {H : Type} : List (Lit × DataW H) → Nat
  | [] => 0
  | x :: r => uptoBulkEntry x + uptoBulkEntries r
def uptoBulkEntry {H : Type} : Lit × DataW H → Nat
  | (.string bytes, d) => bytes.length + uptoBulk d + 1
  | (_, d) => uptoBulk d + 1
 end
def uptoSmall : (H : Type) → List (DataW H) → Bool := fun _ ds => decide (uptoBulkAll ds ≤ 1048576)
def OpenSpec.upto (s : _root_.Go.ChangeSpec) : _root_.Go.OpenSpec := { _root_.Go.OpenSpec.ofChange s with cond := some uptoSmall }

/-- 'laws.FnExactOppositeOf', WHERE WHAT IT READS IS OF BULK AT MOST 1048576: true; the input reads as it did. -/
def fnExactOppositeOfUptoRow : OpenClaim := { program := "ytpngbdpjepddhaadoor", sum := "c85ea7cdf0739a151c8bd5d6dfac62ffe299bef9b5eaca3cab5c76ac75a716b0", func := "loop.example/g01207/laws.FnExactOppositeOf", spec := "fnExactOppositeOf", named := ["loop.example/g01207/impl.oppositePlaces"], apart := false, laid := [("loop.example/g01207/impl.oppositePlaces", laid_loop_example_g01207_impl_oppositePlaces)], narrowed := true }
def FnExactOppositeOfUptoSaid : Prop := fnExactOppositeOfUptoRow.holds Tryd.pinned (OpenSpec.upto fnExactOppositeOfSpec)

/-- 'laws.FnExactIsCommonDie', WHERE WHAT IT READS IS OF BULK AT MOST 1048576: true; the input reads as it did. -/
def fnExactIsCommonDieUptoRow : OpenClaim := { program := "ytpngbdpjepddhaadoor", sum := "c85ea7cdf0739a151c8bd5d6dfac62ffe299bef9b5eaca3cab5c76ac75a716b0", func := "loop.example/g01207/laws.FnExactIsCommonDie", spec := "fnExactIsCommonDie", named := ["loop.example/g01207/impl.oppositePlaces"], apart := false, laid := [("loop.example/g01207/impl.oppositePlaces", laid_loop_example_g01207_impl_oppositePlaces)], narrowed := true }
def FnExactIsCommonDieUptoSaid : Prop := fnExactIsCommonDieUptoRow.holds Tryd.pinned (OpenSpec.upto fnExactIsCommonDieSpec)

/-- 'laws.FnExactTurnBoard', WHERE WHAT IT READS IS OF BULK AT MOST 1048576: true; the input reads as it did. -/
def fnExactTurnBoardUptoRow : OpenClaim := { program := "ytpngbdpjepddhaadoor", sum := "c85ea7cdf0739a151c8bd5d6dfac62ffe299bef9b5eaca3cab5c76ac75a716b0", func := "loop.example/g01207/laws.FnExactTurnBoard", spec := "fnExactTurnBoard", inPlace := ["internal/bytealg.CountString", "internal/bytealg.IndexByteString", "internal/bytealg.IndexString", "internal/abi.NoEscape", "internal/bytealg.MakeNoZero"], named := ["unicode/utf8.first", "unicode/utf8.acceptRanges", "internal/bytealg.MaxLen"], apart := false, laid := [("unicode/utf8.acceptRanges", laid_unicode_utf8_acceptRanges), ("unicode/utf8.first", laid_unicode_utf8_first)], narrowed := true }
def FnExactTurnBoardUptoSaid : Prop := fnExactTurnBoardUptoRow.holds Tryd.pinned (OpenSpec.upto fnExactTurnBoardSpec)

end Rows
end Go.Proofs.YtpngbdpjepddhaaDoor
