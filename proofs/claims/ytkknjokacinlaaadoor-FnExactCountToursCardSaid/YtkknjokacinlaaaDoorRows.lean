/-
  NARROWER THAN 'FOR EVERY INPUT', by the rows' own cells (each row's printed sentence says how): FnExactTourOf: laid · FnExactCountTours: laid · FnExactCountFaceTrees: laid.
  DERIVED. THE GIVEN ROWS OF THIS SEAT. 3 by the template 'for every input the law returns true; each argument reads behind the call as it read before'; 0 by the template 'total and deterministic' (their statements: YtkknjokacinlaaaDoorTotals.lean).
  GIVEN WITH THE SEED: the statements are not yours to turn. If you find one false, say at which input.
  Laid BY PROGRAM, IN A SANDBOX (cutbox-rows.mjs): the forced cells as the released guide's own fill.sh prints them over the translation 1ce86423b936a55d… (all of the seat's roots in one cut). By AI agents, Wed Nov 11 2026. No macro, syntax, notation, axiom, sorry.
-/
import Derived.Test.YtkknjokacinlaaaDoorChecked
import GoSem.PinnedTables
import GoSem.Claim
import GoSem.ClaimJoined
import GoSem.ClaimMapViews
import Derived.JoinedTies
import Derived.KernelRfl
namespace Go.Proofs.YtkknjokacinlaaaDoor
/- THE CELL 'sum', in the pinned program and in every row, IS THE sha256 OF THE DUMP (.gsa) THAT YtkknjokacinlaaaDoorProg.lean LOADS. Nothing in Lean hashes anything: it is a label: what it is worth is what the hold of that sum in a sandbox is worth. -/
noncomputable def Tryd.pinned : Pinned := { name := "ytkknjokacinlaaadoor", sum := "1ce86423b936a55dc1ee3311000f310c7d7821aa52e541d9c3729decfc174662", checked := Tryd.checked }
namespace Rows
def none {H : Type} : Left H := { results := [], args := [] }

/- WHAT THE LISTED PACKAGE-LEVEL VARIABLES READ AS WHEN THE CALL BEGINS. Each datum BY PROGRAM (the guide's laid-datum.mjs) off the statement by which the dump's own 'gosem.cut.vars' lays the variable. In a bare row this is a premise. The card (YtkknjokacinlaaaDoorCards.lean) ties it to the program's text. -/
def laid_unicode_utf8_acceptRanges {H : Type} : DataW H := .agg [.agg [.lit (.int .u8 128), .lit (.int .u8 191)], .agg [.lit (.int .u8 160), .lit (.int .u8 191)], .agg [.lit (.int .u8 128), .lit (.int .u8 159)], .agg [.lit (.int .u8 144), .lit (.int .u8 191)], .agg [.lit (.int .u8 128), .lit (.int .u8 143)], .agg [.lit (.int .u8 0), .lit (.int .u8 0)], .agg [.lit (.int .u8 0), .lit (.int .u8 0)], .agg [.lit (.int .u8 0), .lit (.int .u8 0)], .agg [.lit (.int .u8 0), .lit (.int .u8 0)], .agg [.lit (.int .u8 0), .lit (.int .u8 0)], .agg [.lit (.int .u8 0), .lit (.int .u8 0)], .agg [.lit (.int .u8 0), .lit (.int .u8 0)], .agg [.lit (.int .u8 0), .lit (.int .u8 0)], .agg [.lit (.int .u8 0), .lit (.int .u8 0)], .agg [.lit (.int .u8 0), .lit (.int .u8 0)], .agg [.lit (.int .u8 0), .lit (.int .u8 0)]]
/-- One of Go's own tables, pinned by name: the form's constant. -/
def laid_unicode_utf8_first : DataW Unit := Go.Pinned.utf8First
def laid_loop_example_g01207_impl_oppositePlaces {H : Type} : DataW H := .agg [.lit (.int .i64 5), .lit (.int .i64 3), .lit (.int .i64 4), .lit (.int .i64 1), .lit (.int .i64 2), .lit (.int .i64 0)]

/-- 'laws.FnExactTourOf': WHATEVER THE INPUT: true; the input reads as it did. -/
def fnExactTourOfSpec : ChangeSpec := { name := "fnExactTourOf", fn := fun _ => fun
  | [d1, d2] => { results := [.lit (.bool true)], args := [d1, d2] }
  | _ => none }
def fnExactTourOfRow : OpenClaim := { program := "ytkknjokacinlaaadoor", sum := "1ce86423b936a55dc1ee3311000f310c7d7821aa52e541d9c3729decfc174662", func := "loop.example/g01207/laws.FnExactTourOf", spec := "fnExactTourOf", inPlace := ["internal/bytealg.CountString", "internal/bytealg.IndexByteString", "internal/bytealg.IndexString"], unfollowed := true, recurses := true, named := ["unicode/utf8.first", "unicode/utf8.acceptRanges", "internal/bytealg.MaxLen"], apart := false, laid := [("unicode/utf8.acceptRanges", laid_unicode_utf8_acceptRanges), ("unicode/utf8.first", laid_unicode_utf8_first)] }
def FnExactTourOfSaid : Prop := fnExactTourOfRow.holds Tryd.pinned (OpenSpec.ofChange fnExactTourOfSpec)

/-- ITS FALSE NEIGHBOUR: 'it returns false'. Refute it at one input. -/
def fnExactTourOfWrong : ChangeSpec := { name := "fnExactTourOf", fn := fun _ => fun
  | [d1, d2] => { results := [.lit (.bool false)], args := [d1, d2] }
  | _ => none }
def FnExactTourOfWrongFalsely : Prop := fnExactTourOfRow.holds Tryd.pinned (OpenSpec.ofChange fnExactTourOfWrong)

/-- 'laws.FnExactCountTours': WHATEVER THE INPUT: true; the input reads as it did. -/
def fnExactCountToursSpec : ChangeSpec := { name := "fnExactCountTours", fn := fun _ => fun
  | [d1, d2] => { results := [.lit (.bool true)], args := [d1, d2] }
  | _ => none }
def fnExactCountToursRow : OpenClaim := { program := "ytkknjokacinlaaadoor", sum := "1ce86423b936a55dc1ee3311000f310c7d7821aa52e541d9c3729decfc174662", func := "loop.example/g01207/laws.FnExactCountTours", spec := "fnExactCountTours", inPlace := ["internal/bytealg.CountString", "internal/bytealg.IndexByteString", "internal/bytealg.IndexString"], unfollowed := true, recurses := true, named := ["unicode/utf8.first", "unicode/utf8.acceptRanges", "internal/bytealg.MaxLen"], apart := false, laid := [("unicode/utf8.acceptRanges", laid_unicode_utf8_acceptRanges), ("unicode/utf8.first", laid_unicode_utf8_first)] }
def FnExactCountToursSaid : Prop := fnExactCountToursRow.holds Tryd.pinned (OpenSpec.ofChange fnExactCountToursSpec)

/-- ITS FALSE NEIGHBOUR: 'it returns false'. Refute it at one input. -/
def fnExactCountToursWrong : ChangeSpec := { name := "fnExactCountTours", fn := fun _ => fun
  | [d1, d2] => { results := [.lit (.bool false)], args := [d1, d2] }
  | _ => none }
def FnExactCountToursWrongFalsely : Prop := fnExactCountToursRow.holds Tryd.pinned (OpenSpec.ofChange fnExactCountToursWrong)

/-- 'laws.FnExactCountFaceTrees': WHATEVER THE INPUT: true; the input reads as it did. -/
def fnExactCountFaceTreesSpec : ChangeSpec := { name := "fnExactCountFaceTrees", vars := ["loop.example/g01207/impl.oppositePlaces"], fn := fun _ => fun
  | [g1] => { results := [.lit (.bool true)], args := [], vars := [g1] }
  | _ => none }
def fnExactCountFaceTreesRow : OpenClaim := { program := "ytkknjokacinlaaadoor", sum := "1ce86423b936a55dc1ee3311000f310c7d7821aa52e541d9c3729decfc174662", func := "loop.example/g01207/laws.FnExactCountFaceTrees", spec := "fnExactCountFaceTrees", recurses := true, named := ["loop.example/g01207/impl.oppositePlaces"], apart := false, laid := [("loop.example/g01207/impl.oppositePlaces", laid_loop_example_g01207_impl_oppositePlaces)] }
def FnExactCountFaceTreesSaid : Prop := fnExactCountFaceTreesRow.holds Tryd.pinned (OpenSpec.ofChange fnExactCountFaceTreesSpec)

/-- ITS FALSE NEIGHBOUR: 'it returns false'. Refute it at one input. -/
def fnExactCountFaceTreesWrong : ChangeSpec := { name := "fnExactCountFaceTrees", vars := ["loop.example/g01207/impl.oppositePlaces"], fn := fun _ => fun
  | [g1] => { results := [.lit (.bool false)], args := [], vars := [g1] }
  | _ => none }
def FnExactCountFaceTreesWrongFalsely : Prop := fnExactCountFaceTreesRow.holds Tryd.pinned (OpenSpec.ofChange fnExactCountFaceTreesWrong)

/- THE SECOND FORM. 'bulk': how many values and letters a reading holds, each counted each time it is reached (what is shared counts as often as it is met; a slice's spare places count too). A statement '..UptoSaid' is the law's where the arguments, and the package variables that the reading takes, are together of bulk at most 1048576: NARROWER than '..Said'. Prove '..Said' where nothing that the law and all that it calls make is longer than what came in: it says more and counts as full. Else prove '..UptoSaid'. A law counts once. -/
mutual
def uptoBulk {H : Type} : DataW H → Nat
  | .lit (.string bytes) => bytes.length + 1
  | .lit _ => 1
  | .nil => 1
  | .ptr d => uptoBulk d + 1
  | .slice elems spare => uptoBulkAll elems + uptoBulkAll spare + 1
  | .agg parts => uptoBulkAll parts + 1
  | .iface _ d => uptoBulk d + 1
  | .map entries => uptoBulkEntries entries + 1
  | .held _ => 1
def uptoBulkAll {H : Type} : List (DataW H) → Nat
  | [] => 0
  | d :: r => uptoBulk d + uptoBulkAll r
def uptoBulkEntries {H : Type} : List (Lit × DataW H) → Nat
  | [] => 0
  | x :: r => uptoBulkEntry x + uptoBulkEntries r
def uptoBulkEntry {H : Type} : Lit × DataW H → Nat
  | (.string bytes, d) => bytes.length + uptoBulk d + 1
  | (_, d) => uptoBulk d + 1
 end
def uptoSmall : (H : Type) → List (DataW H) → Bool := fun _ ds => decide (uptoBulkAll ds ≤ 1048576)
def OpenSpec.upto (s : _root_.Go.ChangeSpec) : _root_.Go.OpenSpec := { _root_.Go.OpenSpec.ofChange s with cond := some uptoSmall }

/-- 'laws.FnExactTourOf', WHERE WHAT IT READS IS OF BULK AT MOST 1048576: true; the input reads as it did. -/
def fnExactTourOfUptoRow : OpenClaim := { program := "ytkknjokacinlaaadoor", sum := "1ce86423b936a55dc1ee3311000f310c7d7821aa52e541d9c3729decfc174662", func := "loop.example/g01207/laws.FnExactTourOf", spec := "fnExactTourOf", inPlace := ["internal/bytealg.CountString", "internal/bytealg.IndexByteString", "internal/bytealg.IndexString"], unfollowed := true, recurses := true, named := ["unicode/utf8.first", "unicode/utf8.acceptRanges", "internal/bytealg.MaxLen"], apart := false, laid := [("unicode/utf8.acceptRanges", laid_unicode_utf8_acceptRanges), ("unicode/utf8.first", laid_unicode_utf8_first)], narrowed := true }
def FnExactTourOfUptoSaid : Prop := fnExactTourOfUptoRow.holds Tryd.pinned (OpenSpec.upto fnExactTourOfSpec)

/-- 'laws.FnExactCountTours', WHERE WHAT IT READS IS OF BULK AT MOST 1048576: true; the input reads as it did. -/
def fnExactCountToursUptoRow : OpenClaim := { program := "ytkknjokacinlaaadoor", sum := "1ce86423b936a55dc1ee3311000f310c7d7821aa52e541d9c3729decfc174662", func := "loop.example/g01207/laws.FnExactCountTours", spec := "fnExactCountTours", inPlace := ["internal/bytealg.CountString", "internal/bytealg.IndexByteString", "internal/bytealg.IndexString"], unfollowed := true, recurses := true, named := ["unicode/utf8.first", "unicode/utf8.acceptRanges", "internal/bytealg.MaxLen"], apart := false, laid := [("unicode/utf8.acceptRanges", laid_unicode_utf8_acceptRanges), ("unicode/utf8.first", laid_unicode_utf8_first)], narrowed := true }
def FnExactCountToursUptoSaid : Prop := fnExactCountToursUptoRow.holds Tryd.pinned (OpenSpec.upto fnExactCountToursSpec)

/-- 'laws.FnExactCountFaceTrees', WHERE WHAT IT READS IS OF BULK AT MOST 1048576: true; the input reads as it did. -/
def fnExactCountFaceTreesUptoRow : OpenClaim := { program := "ytkknjokacinlaaadoor", sum := "1ce86423b936a55dc1ee3311000f310c7d7821aa52e541d9c3729decfc174662", func := "loop.example/g01207/laws.FnExactCountFaceTrees", spec := "fnExactCountFaceTrees", recurses := true, named := ["loop.example/g01207/impl.oppositePlaces"], apart := false, laid := [("loop.example/g01207/impl.oppositePlaces", laid_loop_example_g01207_impl_oppositePlaces)], narrowed := true }
def FnExactCountFaceTreesUptoSaid : Prop := fnExactCountFaceTreesUptoRow.holds Tryd.pinned (OpenSpec.upto fnExactCountFaceTreesSpec)

end Rows
end Go.Proofs.YtkknjokacinlaaaDoor
