/-
  NARROWER THAN 'FOR EVERY INPUT', by the rows' own cells (each row's printed sentence says how): FnExactIsDesk: laid · FnExactCountColorings: laid · FnExactCountMirrored: laid · FnExactListColorings: laid · FnExactCountWithCounts: laid · FnExactFirstTower: laid · FnExactCountTowers: laid.
  DERIVED. THE GIVEN ROWS OF THIS SEAT. 7 by the template 'for every input the law returns true; each argument reads behind the call as it read before'; 0 by the template 'total and deterministic' (their statements: YtjikpkembcnfnaaDoorTotals.lean).
  GIVEN WITH THE SEED: the statements are not yours to turn. If you find one false, say at which input.
  Laid BY PROGRAM, IN A SANDBOX (cutbox-rows.mjs): the forced cells as the released guide's own fill.sh prints them over the translation f670a22f29ccd3c5… (all of the seat's roots in one cut). By AI agents, Wed Nov 11 2026. No macro, syntax, notation, axiom, sorry.
-/
import Derived.Test.YtjikpkembcnfnaaDoorChecked
import GoSem.PinnedTables
import GoSem.Claim
import GoSem.ClaimJoined
import GoSem.ClaimMapViews
import Derived.JoinedTies
import Derived.KernelRfl
namespace Go.Proofs.YtjikpkembcnfnaaDoor
/- THE CELL 'sum', in the pinned program and in every row, IS THE sha256 OF THE DUMP (.gsa) THAT YtjikpkembcnfnaaDoorProg.lean LOADS. Nothing in Lean hashes anything: it is a label: what it is worth is what the hold of that sum in a sandbox is worth. -/
noncomputable def Tryd.pinned : Pinned := { name := "ytjikpkembcnfnaadoor", sum := "f670a22f29ccd3c5b09a2c247e181c6da3535533e199b099e554da1a44eff999", checked := Tryd.checked }
namespace Rows
def none {H : Type} : Left H := { results := [], args := [] }

/- WHAT THE LISTED PACKAGE-LEVEL VARIABLES READ AS WHEN THE CALL BEGINS. Each datum BY PROGRAM (the guide's laid-datum.mjs) off the statement by which the dump's own 'gosem.cut.vars' lays the variable. In a bare row this is a premise. The card (YtjikpkembcnfnaaDoorCards.lean) ties it to the program's text. -/
def laid_unicode_utf8_acceptRanges {H : Type} : DataW H := .agg [.agg [.lit (.int .u8 128), .lit (.int .u8 191)], .agg [.lit (.int .u8 160), .lit (.int .u8 191)], .agg [.lit (.int .u8 128), .lit (.int .u8 159)], .agg [.lit (.int .u8 144), .lit (.int .u8 191)], .agg [.lit (.int .u8 128), .lit (.int .u8 143)], .agg [.lit (.int .u8 0), .lit (.int .u8 0)], .agg [.lit (.int .u8 0), .lit (.int .u8 0)], .agg [.lit (.int .u8 0), .lit (.int .u8 0)], .agg [.lit (.int .u8 0), .lit (.int .u8 0)], .agg [.lit (.int .u8 0), .lit (.int .u8 0)], .agg [.lit (.int .u8 0), .lit (.int .u8 0)], .agg [.lit (.int .u8 0), .lit (.int .u8 0)], .agg [.lit (.int .u8 0), .lit (.int .u8 0)], .agg [.lit (.int .u8 0), .lit (.int .u8 0)], .agg [.lit (.int .u8 0), .lit (.int .u8 0)], .agg [.lit (.int .u8 0), .lit (.int .u8 0)]]
/-- One of Go's own tables, pinned by name: the form's constant. -/
def laid_unicode_utf8_first : DataW Unit := Go.Pinned.utf8First

/-- 'laws.FnExactIsDesk': WHATEVER THE INPUT: true; the input reads as it did. -/
def fnExactIsDeskSpec : ChangeSpec := { name := "fnExactIsDesk", fn := fun _ => fun
  | [d] => { results := [.lit (.bool true)], args := [d] }
  | _ => none }
def fnExactIsDeskRow : OpenClaim := { program := "ytjikpkembcnfnaadoor", sum := "f670a22f29ccd3c5b09a2c247e181c6da3535533e199b099e554da1a44eff999", func := "loop.example/g01207/laws.FnExactIsDesk", spec := "fnExactIsDesk", inPlace := ["internal/bytealg.CountString", "internal/bytealg.IndexByteString", "internal/bytealg.IndexString"], named := ["unicode/utf8.first", "unicode/utf8.acceptRanges", "internal/bytealg.MaxLen"], plainKeys := false, apart := false, laid := [("unicode/utf8.acceptRanges", laid_unicode_utf8_acceptRanges), ("unicode/utf8.first", laid_unicode_utf8_first)] }
def FnExactIsDeskSaid : Prop := fnExactIsDeskRow.holds Tryd.pinned (OpenSpec.ofChange fnExactIsDeskSpec)

/-- ITS FALSE NEIGHBOUR: 'it returns false'. Refute it at one input. -/
def fnExactIsDeskWrong : ChangeSpec := { name := "fnExactIsDesk", fn := fun _ => fun
  | [d] => { results := [.lit (.bool false)], args := [d] }
  | _ => none }
def FnExactIsDeskWrongFalsely : Prop := fnExactIsDeskRow.holds Tryd.pinned (OpenSpec.ofChange fnExactIsDeskWrong)

/-- 'laws.FnExactCountColorings': WHATEVER THE INPUT: true; the input reads as it did. -/
def fnExactCountColoringsSpec : ChangeSpec := { name := "fnExactCountColorings", fn := fun _ => fun
  | [d] => { results := [.lit (.bool true)], args := [d] }
  | _ => none }
def fnExactCountColoringsRow : OpenClaim := { program := "ytjikpkembcnfnaadoor", sum := "f670a22f29ccd3c5b09a2c247e181c6da3535533e199b099e554da1a44eff999", func := "loop.example/g01207/laws.FnExactCountColorings", spec := "fnExactCountColorings", inPlace := ["internal/bytealg.CountString", "internal/bytealg.IndexByteString", "internal/bytealg.IndexString"], unfollowed := true, recurses := true, named := ["unicode/utf8.first", "unicode/utf8.acceptRanges", "internal/bytealg.MaxLen"], plainKeys := false, apart := false, laid := [("unicode/utf8.acceptRanges", laid_unicode_utf8_acceptRanges), ("unicode/utf8.first", laid_unicode_utf8_first)] }
def FnExactCountColoringsSaid : Prop := fnExactCountColoringsRow.holds Tryd.pinned (OpenSpec.ofChange fnExactCountColoringsSpec)

/-- ITS FALSE NEIGHBOUR: 'it returns false'. Refute it at one input. -/
def fnExactCountColoringsWrong : ChangeSpec := { name := "fnExactCountColorings", fn := fun _ => fun
  | [d] => { results := [.lit (.bool false)], args := [d] }
  | _ => none }
def FnExactCountColoringsWrongFalsely : Prop := fnExactCountColoringsRow.holds Tryd.pinned (OpenSpec.ofChange fnExactCountColoringsWrong)

/-- 'laws.FnExactCountMirrored': WHATEVER THE INPUT: true; the input reads as it did. -/
def fnExactCountMirroredSpec : ChangeSpec := { name := "fnExactCountMirrored", fn := fun _ => fun
  | [d] => { results := [.lit (.bool true)], args := [d] }
  | _ => none }
def fnExactCountMirroredRow : OpenClaim := { program := "ytjikpkembcnfnaadoor", sum := "f670a22f29ccd3c5b09a2c247e181c6da3535533e199b099e554da1a44eff999", func := "loop.example/g01207/laws.FnExactCountMirrored", spec := "fnExactCountMirrored", inPlace := ["internal/bytealg.CountString", "internal/bytealg.IndexByteString", "internal/bytealg.IndexString"], unfollowed := true, recurses := true, named := ["unicode/utf8.first", "unicode/utf8.acceptRanges", "internal/bytealg.MaxLen"], plainKeys := false, apart := false, laid := [("unicode/utf8.acceptRanges", laid_unicode_utf8_acceptRanges), ("unicode/utf8.first", laid_unicode_utf8_first)] }
def FnExactCountMirroredSaid : Prop := fnExactCountMirroredRow.holds Tryd.pinned (OpenSpec.ofChange fnExactCountMirroredSpec)

/-- ITS FALSE NEIGHBOUR: 'it returns false'. Refute it at one input. -/
def fnExactCountMirroredWrong : ChangeSpec := { name := "fnExactCountMirrored", fn := fun _ => fun
  | [d] => { results := [.lit (.bool false)], args := [d] }
  | _ => none }
def FnExactCountMirroredWrongFalsely : Prop := fnExactCountMirroredRow.holds Tryd.pinned (OpenSpec.ofChange fnExactCountMirroredWrong)

/-- 'laws.FnExactListColorings': WHATEVER THE INPUT: true; the input reads as it did. -/
def fnExactListColoringsSpec : ChangeSpec := { name := "fnExactListColorings", fn := fun _ => fun
  | [d] => { results := [.lit (.bool true)], args := [d] }
  | _ => none }
def fnExactListColoringsRow : OpenClaim := { program := "ytjikpkembcnfnaadoor", sum := "f670a22f29ccd3c5b09a2c247e181c6da3535533e199b099e554da1a44eff999", func := "loop.example/g01207/laws.FnExactListColorings", spec := "fnExactListColorings", inPlace := ["internal/bytealg.CountString", "internal/bytealg.IndexByteString", "internal/bytealg.IndexString"], unfollowed := true, recurses := true, named := ["unicode/utf8.first", "unicode/utf8.acceptRanges", "internal/bytealg.MaxLen"], plainKeys := false, apart := false, laid := [("unicode/utf8.acceptRanges", laid_unicode_utf8_acceptRanges), ("unicode/utf8.first", laid_unicode_utf8_first)] }
def FnExactListColoringsSaid : Prop := fnExactListColoringsRow.holds Tryd.pinned (OpenSpec.ofChange fnExactListColoringsSpec)

/-- ITS FALSE NEIGHBOUR: 'it returns false'. Refute it at one input. -/
def fnExactListColoringsWrong : ChangeSpec := { name := "fnExactListColorings", fn := fun _ => fun
  | [d] => { results := [.lit (.bool false)], args := [d] }
  | _ => none }
def FnExactListColoringsWrongFalsely : Prop := fnExactListColoringsRow.holds Tryd.pinned (OpenSpec.ofChange fnExactListColoringsWrong)

/-- 'laws.FnExactCountWithCounts': WHATEVER THE INPUT: true; the input reads as it did. -/
def fnExactCountWithCountsSpec : ChangeSpec := { name := "fnExactCountWithCounts", fn := fun _ => fun
  | [d] => { results := [.lit (.bool true)], args := [d] }
  | _ => none }
def fnExactCountWithCountsRow : OpenClaim := { program := "ytjikpkembcnfnaadoor", sum := "f670a22f29ccd3c5b09a2c247e181c6da3535533e199b099e554da1a44eff999", func := "loop.example/g01207/laws.FnExactCountWithCounts", spec := "fnExactCountWithCounts", inPlace := ["internal/bytealg.CountString", "internal/bytealg.IndexByteString", "internal/bytealg.IndexString"], unfollowed := true, recurses := true, named := ["unicode/utf8.first", "unicode/utf8.acceptRanges", "internal/bytealg.MaxLen"], plainKeys := false, apart := false, laid := [("unicode/utf8.acceptRanges", laid_unicode_utf8_acceptRanges), ("unicode/utf8.first", laid_unicode_utf8_first)] }
def FnExactCountWithCountsSaid : Prop := fnExactCountWithCountsRow.holds Tryd.pinned (OpenSpec.ofChange fnExactCountWithCountsSpec)

/-- ITS FALSE NEIGHBOUR: 'it returns false'. Refute it at one input. -/
def fnExactCountWithCountsWrong : ChangeSpec := { name := "fnExactCountWithCounts", fn := fun _ => fun
  | [d] => { results := [.lit (.bool false)], args := [d] }
  | _ => none }
def FnExactCountWithCountsWrongFalsely : Prop := fnExactCountWithCountsRow.holds Tryd.pinned (OpenSpec.ofChange fnExactCountWithCountsWrong)

/-- 'laws.FnExactFirstTower': WHATEVER THE INPUT: true; the input reads as it did. -/
def fnExactFirstTowerSpec : ChangeSpec := { name := "fnExactFirstTower", fn := fun _ => fun
  | [d] => { results := [.lit (.bool true)], args := [d] }
  | _ => none }
def fnExactFirstTowerRow : OpenClaim := { program := "ytjikpkembcnfnaadoor", sum := "f670a22f29ccd3c5b09a2c247e181c6da3535533e199b099e554da1a44eff999", func := "loop.example/g01207/laws.FnExactFirstTower", spec := "fnExactFirstTower", inPlace := ["internal/bytealg.CountString", "internal/bytealg.IndexByteString", "internal/bytealg.IndexString"], unfollowed := true, recurses := true, named := ["unicode/utf8.first", "unicode/utf8.acceptRanges", "internal/bytealg.MaxLen"], plainKeys := false, apart := false, laid := [("unicode/utf8.acceptRanges", laid_unicode_utf8_acceptRanges), ("unicode/utf8.first", laid_unicode_utf8_first)] }
def FnExactFirstTowerSaid : Prop := fnExactFirstTowerRow.holds Tryd.pinned (OpenSpec.ofChange fnExactFirstTowerSpec)

/-- ITS FALSE NEIGHBOUR: 'it returns false'. Refute it at one input. -/
def fnExactFirstTowerWrong : ChangeSpec := { name := "fnExactFirstTower", fn := fun _ => fun
  | [d] => { results := [.lit (.bool false)], args := [d] }
  | _ => none }
def FnExactFirstTowerWrongFalsely : Prop := fnExactFirstTowerRow.holds Tryd.pinned (OpenSpec.ofChange fnExactFirstTowerWrong)

/-- 'laws.FnExactCountTowers': WHATEVER THE INPUT: true; the input reads as it did. -/
def fnExactCountTowersSpec : ChangeSpec := { name := "fnExactCountTowers", fn := fun _ => fun
  | [d] => { results := [.lit (.bool true)], args := [d] }
  | _ => none }
def fnExactCountTowersRow : OpenClaim := { program := "ytjikpkembcnfnaadoor", sum := "f670a22f29ccd3c5b09a2c247e181c6da3535533e199b099e554da1a44eff999", func := "loop.example/g01207/laws.FnExactCountTowers", spec := "fnExactCountTowers", inPlace := ["internal/bytealg.CountString", "internal/bytealg.IndexByteString", "internal/bytealg.IndexString"], unfollowed := true, recurses := true, named := ["unicode/utf8.first", "unicode/utf8.acceptRanges", "internal/bytealg.MaxLen"], plainKeys := false, apart := false, laid := [("unicode/utf8.acceptRanges", laid_unicode_utf8_acceptRanges), ("unicode/utf8.first", laid_unicode_utf8_first)] }
def FnExactCountTowersSaid : Prop := fnExactCountTowersRow.holds Tryd.pinned (OpenSpec.ofChange fnExactCountTowersSpec)

/-- ITS FALSE NEIGHBOUR: 'it returns false'. Refute it at one input. -/
def fnExactCountTowersWrong : ChangeSpec := { name := "fnExactCountTowers", fn := fun _ => fun
  | [d] => { results := [.lit (.bool false)], args := [d] }
  | _ => none }
def FnExactCountTowersWrongFalsely : Prop := fnExactCountTowersRow.holds Tryd.pinned (OpenSpec.ofChange fnExactCountTowersWrong)

/- THE SECOND FORM. 'bulk': how many values and letters a reading holds, each counted each time it is reached (what is shared counts as often as it is met; a slice's spare places count too). A statement '..UptoSaid' is the law's where the arguments, and the package variables that the reading takes, are together of bulk at most 1048576: NARROWER than '..Said'. Prove '..Said' where nothing that the law and all that it calls make is longer than what came in: it says more and counts as full. Else prove '..UptoSaid'. A law counts once. -/
mutual
def uptoBulk {H : Type} : DataW H → Nat
  | .lit (.string bytes) => bytes.length + 1
  | .lit _ => 1
  | .nil => 1
  | .ptr d => uptoBulk d + 1
  | .slice elems spare => uptoBulkAll elems + uptoBulkAll spare + 1
  | .agg parts => uptoBulkAll parts + 1
  | .iface _ d => uptoBulk d + 1
  | .map entries => uptoBulkEntries entries + 1
  | .held _ => 1
def uptoBulkAll {H : Type} : List (DataW H) → Nat
  | [] => 0
  | d :: r => uptoBulk d + uptoBulkAll r
def uptoBulkEntries {H : Type} : List (Lit × DataW H) → Nat
  | [] => 0
  | x :: r => uptoBulkEntry x + uptoBulkEntries r
def uptoBulkEntry {H : Type} : Lit × DataW H → Nat
  | (.string bytes, d) => bytes.length + uptoBulk d + 1
  | (_, d) => uptoBulk d + 1
 end
def uptoSmall : (H : Type) → List (DataW H) → Bool := fun _ ds => decide (uptoBulkAll ds ≤ 1048576)
def OpenSpec.upto (s : _root_.Go.ChangeSpec) : _root_.Go.OpenSpec := { _root_.Go.OpenSpec.ofChange s with cond := some uptoSmall }

/-- 'laws.FnExactIsDesk', WHERE WHAT IT READS IS OF BULK AT MOST 1048576: true; the input reads as it did. -/
def fnExactIsDeskUptoRow : OpenClaim := { program := "ytjikpkembcnfnaadoor", sum := "f670a22f29ccd3c5b09a2c247e181c6da3535533e199b099e554da1a44eff999", func := "loop.example/g01207/laws.FnExactIsDesk", spec := "fnExactIsDesk", inPlace := ["internal/bytealg.CountString", "internal/bytealg.IndexByteString", "internal/bytealg.IndexString"], named := ["unicode/utf8.first", "unicode/utf8.acceptRanges", "internal/bytealg.MaxLen"], plainKeys := false, apart := false, laid := [("unicode/utf8.acceptRanges", laid_unicode_utf8_acceptRanges), ("unicode/utf8.first", laid_unicode_utf8_first)], narrowed := true }
def FnExactIsDeskUptoSaid : Prop := fnExactIsDeskUptoRow.holds Tryd.pinned (OpenSpec.upto fnExactIsDeskSpec)

/-- 'laws.FnExactCountColorings', WHERE WHAT IT READS IS OF BULK AT MOST 1048576: true; the input reads as it did. -/
def fnExactCountColoringsUptoRow : OpenClaim := { program := "ytjikpkembcnfnaadoor", sum := "f670a22f29ccd3c5b09a2c247e181c6da3535533e199b099e554da1a44eff999", func := "loop.example/g01207/laws.FnExactCountColorings", spec := "fnExactCountColorings", inPlace := ["internal/bytealg.CountString", "internal/bytealg.IndexByteString", "internal/bytealg.IndexString"], unfollowed := true, recurses := true, named := ["unicode/utf8.first", "unicode/utf8.acceptRanges", "internal/bytealg.MaxLen"], plainKeys := false, apart := false, laid := [("unicode/utf8.acceptRanges", laid_unicode_utf8_acceptRanges), ("unicode/utf8.first", laid_unicode_utf8_first)], narrowed := true }
def FnExactCountColoringsUptoSaid : Prop := fnExactCountColoringsUptoRow.holds Tryd.pinned (OpenSpec.upto fnExactCountColoringsSpec)

/-- 'laws.FnExactCountMirrored', WHERE WHAT IT READS IS OF BULK AT MOST 1048576: true; the input reads as it did. -/
def fnExactCountMirroredUptoRow : OpenClaim := { program := "ytjikpkembcnfnaadoor", sum := "f670a22f29ccd3c5b09a2c247e181c6da3535533e199b099e554da1a44eff999", func := "loop.example/g01207/laws.FnExactCountMirrored", spec := "fnExactCountMirrored", inPlace := ["internal/bytealg.CountString", "internal/bytealg.IndexByteString", "internal/bytealg.IndexString"], unfollowed := true, recurses := true, named := ["unicode/utf8.first", "unicode/utf8.acceptRanges", "internal/bytealg.MaxLen"], plainKeys := false, apart := false, laid := [("unicode/utf8.acceptRanges", laid_unicode_utf8_acceptRanges), ("unicode/utf8.first", laid_unicode_utf8_first)], narrowed := true }
def FnExactCountMirroredUptoSaid : Prop := fnExactCountMirroredUptoRow.holds Tryd.pinned (OpenSpec.upto fnExactCountMirroredSpec)

/-- 'laws.FnExactListColorings', WHERE WHAT IT READS IS OF BULK AT MOST 1048576: true; the input reads as it did. -/
def fnExactListColoringsUptoRow : OpenClaim := { program := "ytjikpkembcnfnaadoor", sum := "f670a22f29ccd3c5b09a2c247e181c6da3535533e199b099e554da1a44eff999", func := "loop.example/g01207/laws.FnExactListColorings", spec := "fnExactListColorings", inPlace := ["internal/bytealg.CountString", "internal/bytealg.IndexByteString", "internal/bytealg.IndexString"], unfollowed := true, recurses := true, named := ["unicode/utf8.first", "unicode/utf8.acceptRanges", "internal/bytealg.MaxLen"], plainKeys := false, apart := false, laid := [("unicode/utf8.acceptRanges", laid_unicode_utf8_acceptRanges), ("unicode/utf8.first", laid_unicode_utf8_first)], narrowed := true }
def FnExactListColoringsUptoSaid : Prop := fnExactListColoringsUptoRow.holds Tryd.pinned (OpenSpec.upto fnExactListColoringsSpec)

/-- 'laws.FnExactCountWithCounts', WHERE WHAT IT READS IS OF BULK AT MOST 1048576: true; the input reads as it did. -/
def fnExactCountWithCountsUptoRow : OpenClaim := { program := "ytjikpkembcnfnaadoor", sum := "f670a22f29ccd3c5b09a2c247e181c6da3535533e199b099e554da1a44eff999", func := "loop.example/g01207/laws.FnExactCountWithCounts", spec := "fnExactCountWithCounts", inPlace := ["internal/bytealg.CountString", "internal/bytealg.IndexByteString", "internal/bytealg.IndexString"], unfollowed := true, recurses := true, named := ["unicode/utf8.first", "unicode/utf8.acceptRanges", "internal/bytealg.MaxLen"], plainKeys := false, apart := false, laid := [("unicode/utf8.acceptRanges", laid_unicode_utf8_acceptRanges), ("unicode/utf8.first", laid_unicode_utf8_first)], narrowed := true }
def FnExactCountWithCountsUptoSaid : Prop := fnExactCountWithCountsUptoRow.holds Tryd.pinned (OpenSpec.upto fnExactCountWithCountsSpec)

/-- 'laws.FnExactFirstTower', WHERE WHAT IT READS IS OF BULK AT MOST 1048576: true; the input reads as it did. -/
def fnExactFirstTowerUptoRow : OpenClaim := { program := "ytjikpkembcnfnaadoor", sum := "f670a22f29ccd3c5b09a2c247e181c6da3535533e199b099e554da1a44eff999", func := "loop.example/g01207/laws.FnExactFirstTower", spec := "fnExactFirstTower", inPlace := ["internal/bytealg.CountString", "internal/bytealg.IndexByteString", "internal/bytealg.IndexString"], unfollowed := true, recurses := true, named := ["unicode/utf8.first", "unicode/utf8.acceptRanges", "internal/bytealg.MaxLen"], plainKeys := false, apart := false, laid := [("unicode/utf8.acceptRanges", laid_unicode_utf8_acceptRanges), ("unicode/utf8.first", laid_unicode_utf8_first)], narrowed := true }
def FnExactFirstTowerUptoSaid : Prop := fnExactFirstTowerUptoRow.holds Tryd.pinned (OpenSpec.upto fnExactFirstTowerSpec)

/-- 'laws.FnExactCountTowers', WHERE WHAT IT READS IS OF BULK AT MOST 1048576: true; the input reads as it did. -/
def fnExactCountTowersUptoRow : OpenClaim := { program := "ytjikpkembcnfnaadoor", sum := "f670a22f29ccd3c5b09a2c247e181c6da3535533e199b099e554da1a44eff999", func := "loop.example/g01207/laws.FnExactCountTowers", spec := "fnExactCountTowers", inPlace := ["internal/bytealg.CountString", "internal/bytealg.IndexByteString", "internal/bytealg.IndexString"], unfollowed := true, recurses := true, named := ["unicode/utf8.first", "unicode/utf8.acceptRanges", "internal/bytealg.MaxLen"], plainKeys := false, apart := false, laid := [("unicode/utf8.acceptRanges", laid_unicode_utf8_acceptRanges), ("unicode/utf8.first", laid_unicode_utf8_first)], narrowed := true }
def FnExactCountTowersUptoSaid : Prop := fnExactCountTowersUptoRow.holds Tryd.pinned (OpenSpec.upto fnExactCountTowersSpec)

end Rows
end Go.Proofs.YtjikpkembcnfnaaDoor
