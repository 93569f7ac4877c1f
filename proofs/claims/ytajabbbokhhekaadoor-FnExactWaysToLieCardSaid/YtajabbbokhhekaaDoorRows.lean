/-
  NARROWER THAN 'FOR EVERY INPUT', by the rows' own cells (each row's printed sentence says how): FnExactShortestRolls: laid · FnExactWaysToLie: laid · FnExactCountWays: laid · FnExactIsTurned: laid · FnExactRollsBetween: laid · FnExactLeastDie: laid · FnExactIsHanded: laid.
  DERIVED. THE GIVEN ROWS OF THIS SEAT. 7 by the template 'for every input the law returns true; each argument reads behind the call as it read before'; 0 by the template 'total and deterministic' (their statements: YtajabbbokhhekaaDoorTotals.lean).
  GIVEN WITH THE SEED: the statements are not yours to turn. If you find one false, say at which input.
  Laid BY PROGRAM, IN A SANDBOX (cutbox-rows.mjs): the forced cells as the released guide's own fill.sh prints them over the translation d9344dd1d878a531… (all of the seat's roots in one cut). By AI agents, Wed Nov 11 2026. No macro, syntax, notation, axiom, sorry.
-/
import Derived.Test.YtajabbbokhhekaaDoorChecked
import GoSem.PinnedTables
import GoSem.Claim
import GoSem.ClaimJoined
import GoSem.ClaimMapViews
import Derived.JoinedTies
import Derived.KernelRfl
namespace Go.Proofs.YtajabbbokhhekaaDoor
/- THE CELL 'sum', in the pinned program and in every row, IS THE sha256 OF THE DUMP (.gsa) THAT YtajabbbokhhekaaDoorProg.lean LOADS. Nothing in Lean hashes anything: it is a label: what it is worth is what the hold of that sum in a sandbox is worth. -/
noncomputable def Tryd.pinned : Pinned := { name := "ytajabbbokhhekaadoor", sum := "d9344dd1d878a531b5e992ac74f6bed4b7c6c312462c5df21f2ac01849d2814a", checked := Tryd.checked }
namespace Rows
def none {H : Type} : Left H := { results := [], args := [] }

/- WHAT THE LISTED PACKAGE-LEVEL VARIABLES READ AS WHEN THE CALL BEGINS. Each datum BY PROGRAM (the guide's laid-datum.mjs) off the statement by which the dump's own 'gosem.cut.vars' lays the variable. In a bare row this is a premise. The card (YtajabbbokhhekaaDoorCards.lean) ties it to the program's text. -/
def laid_unicode_utf8_acceptRanges {H : Type} : DataW H := .agg [.agg [.lit (.int .u8 128), .lit (.int .u8 191)], .agg [.lit (.int .u8 160), .lit (.int .u8 191)], .agg [.lit (.int .u8 128), .lit (.int .u8 159)], .agg [.lit (.int .u8 144), .lit (.int .u8 191)], .agg [.lit (.int .u8 128), .lit (.int .u8 143)], .agg [.lit (.int .u8 0), .lit (.int .u8 0)], .agg [.lit (.int .u8 0), .lit (.int .u8 0)], .agg [.lit (.int .u8 0), .lit (.int .u8 0)], .agg [.lit (.int .u8 0), .lit (.int .u8 0)], .agg [.lit (.int .u8 0), .lit (.int .u8 0)], .agg [.lit (.int .u8 0), .lit (.int .u8 0)], .agg [.lit (.int .u8 0), .lit (.int .u8 0)], .agg [.lit (.int .u8 0), .lit (.int .u8 0)], .agg [.lit (.int .u8 0), .lit (.int .u8 0)], .agg [.lit (.int .u8 0), .lit (.int .u8 0)], .agg [.lit (.int .u8 0), .lit (.int .u8 0)]]
/-- One of Go's own tables, pinned by name: the form's constant. -/
def laid_unicode_utf8_first : DataW Unit := Go.Pinned.utf8First

/-- 'laws.FnExactShortestRolls': WHATEVER THE INPUT: true; the input reads as it did. -/
def fnExactShortestRollsSpec : ChangeSpec := { name := "fnExactShortestRolls", fn := fun _ => fun
  | [d] => { results := [.lit (.bool true)], args := [d] }
  | _ => none }
def fnExactShortestRollsRow : OpenClaim := { program := "ytajabbbokhhekaadoor", sum := "d9344dd1d878a531b5e992ac74f6bed4b7c6c312462c5df21f2ac01849d2814a", func := "loop.example/g01207/laws.FnExactShortestRolls", spec := "fnExactShortestRolls", inPlace := ["internal/bytealg.IndexByteString", "internal/bytealg.CountString", "internal/bytealg.IndexString"], unfollowed := true, recurses := true, named := ["unicode/utf8.first", "unicode/utf8.acceptRanges", "internal/bytealg.MaxLen"], plainKeys := false, apart := false, laid := [("unicode/utf8.acceptRanges", laid_unicode_utf8_acceptRanges), ("unicode/utf8.first", laid_unicode_utf8_first)] }
def FnExactShortestRollsSaid : Prop := fnExactShortestRollsRow.holds Tryd.pinned (OpenSpec.ofChange fnExactShortestRollsSpec)

/-- ITS FALSE NEIGHBOUR: 'it returns false'. Refute it at one input. -/
def fnExactShortestRollsWrong : ChangeSpec := { name := "fnExactShortestRolls", fn := fun _ => fun
  | [d] => { results := [.lit (.bool false)], args := [d] }
  | _ => none }
def FnExactShortestRollsWrongFalsely : Prop := fnExactShortestRollsRow.holds Tryd.pinned (OpenSpec.ofChange fnExactShortestRollsWrong)

/-- 'laws.FnExactWaysToLie': WHATEVER THE INPUT: true; the input reads as it did. -/
def fnExactWaysToLieSpec : ChangeSpec := { name := "fnExactWaysToLie", fn := fun _ => fun
  | [d] => { results := [.lit (.bool true)], args := [d] }
  | _ => none }
def fnExactWaysToLieRow : OpenClaim := { program := "ytajabbbokhhekaadoor", sum := "d9344dd1d878a531b5e992ac74f6bed4b7c6c312462c5df21f2ac01849d2814a", func := "loop.example/g01207/laws.FnExactWaysToLie", spec := "fnExactWaysToLie", inPlace := ["internal/bytealg.CountString", "internal/bytealg.IndexByteString", "internal/bytealg.IndexString"], unfollowed := true, recurses := true, named := ["unicode/utf8.first", "unicode/utf8.acceptRanges", "internal/bytealg.MaxLen"], plainKeys := false, apart := false, laid := [("unicode/utf8.acceptRanges", laid_unicode_utf8_acceptRanges), ("unicode/utf8.first", laid_unicode_utf8_first)] }
def FnExactWaysToLieSaid : Prop := fnExactWaysToLieRow.holds Tryd.pinned (OpenSpec.ofChange fnExactWaysToLieSpec)

/-- ITS FALSE NEIGHBOUR: 'it returns false'. Refute it at one input. -/
def fnExactWaysToLieWrong : ChangeSpec := { name := "fnExactWaysToLie", fn := fun _ => fun
  | [d] => { results := [.lit (.bool false)], args := [d] }
  | _ => none }
def FnExactWaysToLieWrongFalsely : Prop := fnExactWaysToLieRow.holds Tryd.pinned (OpenSpec.ofChange fnExactWaysToLieWrong)

/-- 'laws.FnExactCountWays': WHATEVER THE INPUT: true; the input reads as it did. -/
def fnExactCountWaysSpec : ChangeSpec := { name := "fnExactCountWays", fn := fun _ => fun
  | [d] => { results := [.lit (.bool true)], args := [d] }
  | _ => none }
def fnExactCountWaysRow : OpenClaim := { program := "ytajabbbokhhekaadoor", sum := "d9344dd1d878a531b5e992ac74f6bed4b7c6c312462c5df21f2ac01849d2814a", func := "loop.example/g01207/laws.FnExactCountWays", spec := "fnExactCountWays", inPlace := ["internal/bytealg.CountString", "internal/bytealg.IndexByteString", "internal/bytealg.IndexString"], unfollowed := true, recurses := true, named := ["unicode/utf8.first", "unicode/utf8.acceptRanges", "internal/bytealg.MaxLen"], plainKeys := false, apart := false, laid := [("unicode/utf8.acceptRanges", laid_unicode_utf8_acceptRanges), ("unicode/utf8.first", laid_unicode_utf8_first)] }
def FnExactCountWaysSaid : Prop := fnExactCountWaysRow.holds Tryd.pinned (OpenSpec.ofChange fnExactCountWaysSpec)

/-- ITS FALSE NEIGHBOUR: 'it returns false'. Refute it at one input. -/
def fnExactCountWaysWrong : ChangeSpec := { name := "fnExactCountWays", fn := fun _ => fun
  | [d] => { results := [.lit (.bool false)], args := [d] }
  | _ => none }
def FnExactCountWaysWrongFalsely : Prop := fnExactCountWaysRow.holds Tryd.pinned (OpenSpec.ofChange fnExactCountWaysWrong)

/-- 'laws.FnExactIsTurned': WHATEVER THE INPUT: true; the input reads as it did. -/
def fnExactIsTurnedSpec : ChangeSpec := { name := "fnExactIsTurned", fn := fun _ => fun
  | [d1, d2] => { results := [.lit (.bool true)], args := [d1, d2] }
  | _ => none }
def fnExactIsTurnedRow : OpenClaim := { program := "ytajabbbokhhekaadoor", sum := "d9344dd1d878a531b5e992ac74f6bed4b7c6c312462c5df21f2ac01849d2814a", func := "loop.example/g01207/laws.FnExactIsTurned", spec := "fnExactIsTurned", inPlace := ["internal/bytealg.CountString", "internal/bytealg.IndexByteString", "internal/bytealg.IndexString"], unfollowed := true, recurses := true, named := ["unicode/utf8.first", "unicode/utf8.acceptRanges", "internal/bytealg.MaxLen"], plainKeys := false, apart := false, laid := [("unicode/utf8.acceptRanges", laid_unicode_utf8_acceptRanges), ("unicode/utf8.first", laid_unicode_utf8_first)] }
def FnExactIsTurnedSaid : Prop := fnExactIsTurnedRow.holds Tryd.pinned (OpenSpec.ofChange fnExactIsTurnedSpec)

/-- ITS FALSE NEIGHBOUR: 'it returns false'. Refute it at one input. -/
def fnExactIsTurnedWrong : ChangeSpec := { name := "fnExactIsTurned", fn := fun _ => fun
  | [d1, d2] => { results := [.lit (.bool false)], args := [d1, d2] }
  | _ => none }
def FnExactIsTurnedWrongFalsely : Prop := fnExactIsTurnedRow.holds Tryd.pinned (OpenSpec.ofChange fnExactIsTurnedWrong)

/-- 'laws.FnExactRollsBetween': WHATEVER THE INPUT: true; the input reads as it did. -/
def fnExactRollsBetweenSpec : ChangeSpec := { name := "fnExactRollsBetween", fn := fun _ => fun
  | [d1, d2] => { results := [.lit (.bool true)], args := [d1, d2] }
  | _ => none }
def fnExactRollsBetweenRow : OpenClaim := { program := "ytajabbbokhhekaadoor", sum := "d9344dd1d878a531b5e992ac74f6bed4b7c6c312462c5df21f2ac01849d2814a", func := "loop.example/g01207/laws.FnExactRollsBetween", spec := "fnExactRollsBetween", inPlace := ["internal/bytealg.CountString", "internal/bytealg.IndexByteString", "internal/bytealg.IndexString"], unfollowed := true, recurses := true, named := ["unicode/utf8.first", "unicode/utf8.acceptRanges", "internal/bytealg.MaxLen"], plainKeys := false, apart := false, laid := [("unicode/utf8.acceptRanges", laid_unicode_utf8_acceptRanges), ("unicode/utf8.first", laid_unicode_utf8_first)] }
def FnExactRollsBetweenSaid : Prop := fnExactRollsBetweenRow.holds Tryd.pinned (OpenSpec.ofChange fnExactRollsBetweenSpec)

/-- ITS FALSE NEIGHBOUR: 'it returns false'. Refute it at one input. -/
def fnExactRollsBetweenWrong : ChangeSpec := { name := "fnExactRollsBetween", fn := fun _ => fun
  | [d1, d2] => { results := [.lit (.bool false)], args := [d1, d2] }
  | _ => none }
def FnExactRollsBetweenWrongFalsely : Prop := fnExactRollsBetweenRow.holds Tryd.pinned (OpenSpec.ofChange fnExactRollsBetweenWrong)

/-- 'laws.FnExactLeastDie': WHATEVER THE INPUT: true; the input reads as it did. -/
def fnExactLeastDieSpec : ChangeSpec := { name := "fnExactLeastDie", fn := fun _ => fun
  | [d] => { results := [.lit (.bool true)], args := [d] }
  | _ => none }
def fnExactLeastDieRow : OpenClaim := { program := "ytajabbbokhhekaadoor", sum := "d9344dd1d878a531b5e992ac74f6bed4b7c6c312462c5df21f2ac01849d2814a", func := "loop.example/g01207/laws.FnExactLeastDie", spec := "fnExactLeastDie", inPlace := ["internal/bytealg.CountString", "internal/bytealg.IndexByteString", "internal/bytealg.IndexString"], unfollowed := true, recurses := true, named := ["unicode/utf8.first", "unicode/utf8.acceptRanges", "internal/bytealg.MaxLen"], plainKeys := false, apart := false, laid := [("unicode/utf8.acceptRanges", laid_unicode_utf8_acceptRanges), ("unicode/utf8.first", laid_unicode_utf8_first)] }
def FnExactLeastDieSaid : Prop := fnExactLeastDieRow.holds Tryd.pinned (OpenSpec.ofChange fnExactLeastDieSpec)

/-- ITS FALSE NEIGHBOUR: 'it returns false'. Refute it at one input. -/
def fnExactLeastDieWrong : ChangeSpec := { name := "fnExactLeastDie", fn := fun _ => fun
  | [d] => { results := [.lit (.bool false)], args := [d] }
  | _ => none }
def FnExactLeastDieWrongFalsely : Prop := fnExactLeastDieRow.holds Tryd.pinned (OpenSpec.ofChange fnExactLeastDieWrong)

/-- 'laws.FnExactIsHanded': WHATEVER THE INPUT: true; the input reads as it did. -/
def fnExactIsHandedSpec : ChangeSpec := { name := "fnExactIsHanded", fn := fun _ => fun
  | [d] => { results := [.lit (.bool true)], args := [d] }
  | _ => none }
def fnExactIsHandedRow : OpenClaim := { program := "ytajabbbokhhekaadoor", sum := "d9344dd1d878a531b5e992ac74f6bed4b7c6c312462c5df21f2ac01849d2814a", func := "loop.example/g01207/laws.FnExactIsHanded", spec := "fnExactIsHanded", inPlace := ["internal/bytealg.CountString", "internal/bytealg.IndexByteString", "internal/bytealg.IndexString"], unfollowed := true, recurses := true, named := ["unicode/utf8.first", "unicode/utf8.acceptRanges", "internal/bytealg.MaxLen"], plainKeys := false, apart := false, laid := [("unicode/utf8.acceptRanges", laid_unicode_utf8_acceptRanges), ("unicode/utf8.first", laid_unicode_utf8_first)] }
def FnExactIsHandedSaid : Prop := fnExactIsHandedRow.holds Tryd.pinned (OpenSpec.ofChange fnExactIsHandedSpec)

/-- ITS FALSE NEIGHBOUR: 'it returns false'. Refute it at one input. -/
def fnExactIsHandedWrong : ChangeSpec := { name := "fnExactIsHanded", fn := fun _ => fun
  | [d] => { results := [.lit (.bool false)], args := [d] }
  | _ => none }
def FnExactIsHandedWrongFalsely : Prop := fnExactIsHandedRow.holds Tryd.pinned (OpenSpec.ofChange fnExactIsHandedWrong)

/- THE SECOND FORM. 'bulk': how many values and letters a reading holds, each counted each time it is reached (what is shared counts as often as it is met; a slice's spare places count too). A statement '..UptoSaid' is the law's where the arguments, and the package variables that the reading takes, are together of bulk at most 1048576: NARROWER than '..Said'. Prove '..Said' where nothing that the law and all that it calls make is longer than what came in: it says more and counts as full. Else prove '..UptoSaid'. A law counts once. -/
mutual
def uptoBulk {H : Type} : DataW H → Nat
  | .lit (.string bytes) => bytes.length + 1
  | .lit _ => 1
  | .nil => 1
  | .ptr d => uptoBulk d + 1
  | .slice elems spare => uptoBulkAll elems + uptoBulkAll spare + 1
  | .agg parts => uptoBulkAll parts + 1
  | .iface _ d => uptoBulk d + 1
  | .map entries => uptoBulkEntries entries + 1
  | .held _ => 1
def uptoBulkAll {H : Type} : List (DataW H) → Nat
  | [] => 0
  | d :: r => uptoBulk d + uptoBulkAll r
def uptoBulkEntries {H : Type} : List (Lit × DataW H) → Nat
  | [] => 0
  | x :: r => uptoBulkEntry x + uptoBulkEntries r
def uptoBulkEntry {H : Type} : Lit × DataW H → Nat
  | (.string bytes, d) => bytes.length + uptoBulk d + 1
  | (_, d) => uptoBulk d + 1
 end
def uptoSmall : (H : Type) → List (DataW H) → Bool := fun _ ds => decide (uptoBulkAll ds ≤ 1048576)
def OpenSpec.upto (s : _root_.Go.ChangeSpec) : _root_.Go.OpenSpec := { _root_.Go.OpenSpec.ofChange s with cond := some uptoSmall }

/-- 'laws.FnExactShortestRolls', WHERE WHAT IT READS IS OF BULK AT MOST 1048576: true; the input reads as it did. -/
def fnExactShortestRollsUptoRow : OpenClaim := { program := "ytajabbbokhhekaadoor", sum := "d9344dd1d878a531b5e992ac74f6bed4b7c6c312462c5df21f2ac01849d2814a", func := "loop.example/g01207/laws.FnExactShortestRolls", spec := "fnExactShortestRolls", inPlace := ["internal/bytealg.IndexByteString", "internal/bytealg.CountString", "internal/bytealg.IndexString"], unfollowed := true, recurses := true, named := ["unicode/utf8.first", "unicode/utf8.acceptRanges", "internal/bytealg.MaxLen"], plainKeys := false, apart := false, laid := [("unicode/utf8.acceptRanges", laid_unicode_utf8_acceptRanges), ("unicode/utf8.first", laid_unicode_utf8_first)], narrowed := true }
def FnExactShortestRollsUptoSaid : Prop := fnExactShortestRollsUptoRow.holds Tryd.pinned (OpenSpec.upto fnExactShortestRollsSpec)

/-- 'laws.FnExactWaysToLie', WHERE WHAT IT READS IS OF BULK AT MOST 1048576: true; the input reads as it did. -/
def fnExactWaysToLieUptoRow : OpenClaim := { program := "ytajabbbokhhekaadoor", sum := "d9344dd1d878a531b5e992ac74f6bed4b7c6c312462c5df21f2ac01849d2814a", func := "loop.example/g01207/laws.FnExactWaysToLie", spec := "fnExactWaysToLie", inPlace := ["internal/bytealg.CountString", "internal/bytealg.IndexByteString", "internal/bytealg.IndexString"], unfollowed := true, recurses := true, named := ["unicode/utf8.first", "unicode/utf8.acceptRanges", "internal/bytealg.MaxLen"], plainKeys := false, apart := false, laid := [("unicode/utf8.acceptRanges", laid_unicode_utf8_acceptRanges), ("unicode/utf8.first", laid_unicode_utf8_first)], narrowed := true }
def FnExactWaysToLieUptoSaid : Prop := fnExactWaysToLieUptoRow.holds Tryd.pinned (OpenSpec.upto fnExactWaysToLieSpec)

/-- 'laws.FnExactCountWays', WHERE WHAT IT READS IS OF BULK AT MOST 1048576: true; the input reads as it did. -/
def fnExactCountWaysUptoRow : OpenClaim := { program := "ytajabbbokhhekaadoor", sum := "d9344dd1d878a531b5e992ac74f6bed4b7c6c312462c5df21f2ac01849d2814a", func := "loop.example/g01207/laws.FnExactCountWays", spec := "fnExactCountWays", inPlace := ["internal/bytealg.CountString", "internal/bytealg.IndexByteString", "internal/bytealg.IndexString"], unfollowed := true, recurses := true, named := ["unicode/utf8.first", "unicode/utf8.acceptRanges", "internal/bytealg.MaxLen"], plainKeys := false, apart := false, laid := [("unicode/utf8.acceptRanges", laid_unicode_utf8_acceptRanges), ("unicode/utf8.first", laid_unicode_utf8_first)], narrowed := true }
def FnExactCountWaysUptoSaid : Prop := fnExactCountWaysUptoRow.holds Tryd.pinned (OpenSpec.upto fnExactCountWaysSpec)

/-- 'laws.FnExactIsTurned', WHERE WHAT IT READS IS OF BULK AT MOST 1048576: true; the input reads as it did. -/
def fnExactIsTurnedUptoRow : OpenClaim := { program := "ytajabbbokhhekaadoor", sum := "d9344dd1d878a531b5e992ac74f6bed4b7c6c312462c5df21f2ac01849d2814a", func := "loop.example/g01207/laws.FnExactIsTurned", spec := "fnExactIsTurned", inPlace := ["internal/bytealg.CountString", "internal/bytealg.IndexByteString", "internal/bytealg.IndexString"], unfollowed := true, recurses := true, named := ["unicode/utf8.first", "unicode/utf8.acceptRanges", "internal/bytealg.MaxLen"], plainKeys := false, apart := false, laid := [("unicode/utf8.acceptRanges", laid_unicode_utf8_acceptRanges), ("unicode/utf8.first", laid_unicode_utf8_first)], narrowed := true }
def FnExactIsTurnedUptoSaid : Prop := fnExactIsTurnedUptoRow.holds Tryd.pinned (OpenSpec.upto fnExactIsTurnedSpec)

/-- 'laws.FnExactRollsBetween', WHERE WHAT IT READS IS OF BULK AT MOST 1048576: true; the input reads as it did. -/
def fnExactRollsBetweenUptoRow : OpenClaim := { program := "ytajabbbokhhekaadoor", sum := "d9344dd1d878a531b5e992ac74f6bed4b7c6c312462c5df21f2ac01849d2814a", func := "loop.example/g01207/laws.FnExactRollsBetween", spec := "fnExactRollsBetween", inPlace := ["internal/bytealg.CountString", "internal/bytealg.IndexByteString", "internal/bytealg.IndexString"], unfollowed := true, recurses := true, named := ["unicode/utf8.first", "unicode/utf8.acceptRanges", "internal/bytealg.MaxLen"], plainKeys := false, apart := false, laid := [("unicode/utf8.acceptRanges", laid_unicode_utf8_acceptRanges), ("unicode/utf8.first", laid_unicode_utf8_first)], narrowed := true }
def FnExactRollsBetweenUptoSaid : Prop := fnExactRollsBetweenUptoRow.holds Tryd.pinned (OpenSpec.upto fnExactRollsBetweenSpec)

/-- 'laws.FnExactLeastDie', WHERE WHAT IT READS IS OF BULK AT MOST 1048576: true; the input reads as it did. -/
def fnExactLeastDieUptoRow : OpenClaim := { program := "ytajabbbokhhekaadoor", sum := "d9344dd1d878a531b5e992ac74f6bed4b7c6c312462c5df21f2ac01849d2814a", func := "loop.example/g01207/laws.FnExactLeastDie", spec := "fnExactLeastDie", inPlace := ["internal/bytealg.CountString", "internal/bytealg.IndexByteString", "internal/bytealg.IndexString"], unfollowed := true, recurses := true, named := ["unicode/utf8.first", "unicode/utf8.acceptRanges", "internal/bytealg.MaxLen"], plainKeys := false, apart := false, laid := [("unicode/utf8.acceptRanges", laid_unicode_utf8_acceptRanges), ("unicode/utf8.first", laid_unicode_utf8_first)], narrowed := true }
def FnExactLeastDieUptoSaid : Prop := fnExactLeastDieUptoRow.holds Tryd.pinned (OpenSpec.upto fnExactLeastDieSpec)

/-- 'laws.FnExactIsHanded', WHERE WHAT IT READS IS OF BULK AT MOST 1048576: true; the input reads as it did. -/
def fnExactIsHandedUptoRow : OpenClaim := { program := "ytajabbbokhhekaadoor", sum := "d9344dd1d878a531b5e992ac74f6bed4b7c6c312462c5df21f2ac01849d2814a", func := "loop.example/g01207/laws.FnExactIsHanded", spec := "fnExactIsHanded", inPlace := ["internal/bytealg.CountString", "internal/bytealg.IndexByteString", "internal/bytealg.IndexString"], unfollowed := true, recurses := true, named := ["unicode/utf8.first", "unicode/utf8.acceptRanges", "internal/bytealg.MaxLen"], plainKeys := false, apart := false, laid := [("unicode/utf8.acceptRanges", laid_unicode_utf8_acceptRanges), ("unicode/utf8.first", laid_unicode_utf8_first)], narrowed := true }
def FnExactIsHandedUptoSaid : Prop := fnExactIsHandedUptoRow.holds Tryd.pinned (OpenSpec.upto fnExactIsHandedSpec)

end Rows
end Go.Proofs.YtajabbbokhhekaaDoor
