/-
  NARROWER THAN 'FOR EVERY INPUT', by the rows' own cells (each row's printed sentence says how): FnExactAreDice: laid · FnExactDiceMoves: laid · FnExactMoveOne: laid · FnExactMoveDice: laid · FnExactBlockedDice: laid · FnExactTouchingPairs: laid · FnExactSumOfDice: laid.
  DERIVED. THE GIVEN ROWS OF THIS SEAT. 7 by the template 'for every input the law returns true; each argument reads behind the call as it read before'; 0 by the template 'total and deterministic' (their statements: YtdndegonpdakkaaDoorTotals.lean).
  GIVEN WITH THE SEED: the statements are not yours to turn. If you find one false, say at which input.
  Laid BY PROGRAM, IN A SANDBOX (cutbox-rows.mjs): the forced cells as the released guide's own fill.sh prints them over the translation 3ad565db210bd5d6… (all of the seat's roots in one cut). By AI agents, Wed Nov 11 2026. No macro, syntax, notation, axiom, sorry.
-/
import Derived.Test.YtdndegonpdakkaaDoorChecked
import GoSem.PinnedTables
import GoSem.Claim
import GoSem.ClaimJoined
import GoSem.ClaimMapViews
import Derived.JoinedTies
import Derived.KernelRfl
namespace Go.Proofs.YtdndegonpdakkaaDoor
/- THE CELL 'sum', in the pinned program and in every row, IS THE sha256 OF THE DUMP (.gsa) THAT YtdndegonpdakkaaDoorProg.lean LOADS. Nothing in Lean hashes anything: it is a label: what it is worth is what the hold of that sum in a sandbox is worth. -/
noncomputable def Tryd.pinned : Pinned := { name := "ytdndegonpdakkaadoor", sum := "3ad565db210bd5d64fb55068ccfc110c5a77e253cd993b2ebcf322c2eb10bfe4", checked := Tryd.checked }
namespace Rows
def none {H : Type} : Left H := { results := [], args := [] }

/- WHAT THE LISTED PACKAGE-LEVEL VARIABLES READ AS WHEN THE CALL BEGINS. Each datum BY PROGRAM (the guide's laid-datum.mjs) off the statement by which the dump's own 'gosem.cut.vars' lays the variable. In a bare row this is a premise. The card (YtdndegonpdakkaaDoorCards.lean) ties it to the program's text. -/
def laid_unicode_utf8_acceptRanges {H : Type} : DataW H := .agg [.agg [.lit (.int .u8 128), .lit (.int .u8 191)], .agg [.lit (.int .u8 160), .lit (.int .u8 191)], .agg [.lit (.int .u8 128), .lit (.int .u8 159)], .agg [.lit (.int .u8 144), .lit (.int .u8 191)], .agg [.lit (.int .u8 128), .lit (.int .u8 143)], .agg [.lit (.int .u8 0), .lit (.int .u8 0)], .agg [.lit (.int .u8 0), .lit (.int .u8 0)], .agg [.lit (.int .u8 0), .lit (.int .u8 0)], .agg [.lit (.int .u8 0), .lit (.int .u8 0)], .agg [.lit (.int .u8 0), .lit (.int .u8 0)], .agg [.lit (.int .u8 0), .lit (.int .u8 0)], .agg [.lit (.int .u8 0), .lit (.int .u8 0)], .agg [.lit (.int .u8 0), .lit (.int .u8 0)], .agg [.lit (.int .u8 0), .lit (.int .u8 0)], .agg [.lit (.int .u8 0), .lit (.int .u8 0)], .agg [.lit (.int .u8 0), .lit (.int .u8 0)]]
/-- One of Go's own tables, pinned by name: the form's constant. -/
def laid_unicode_utf8_first : DataW Unit := Go.Pinned.utf8First

/-- 'laws.FnExactAreDice': WHATEVER THE INPUT: true; the input reads as it did. -/
def fnExactAreDiceSpec : ChangeSpec := { name := "fnExactAreDice", fn := fun _ => fun
  | [d1, d2] => { results := [.lit (.bool true)], args := [d1, d2] }
  | _ => none }
def fnExactAreDiceRow : OpenClaim := { program := "ytdndegonpdakkaadoor", sum := "3ad565db210bd5d64fb55068ccfc110c5a77e253cd993b2ebcf322c2eb10bfe4", func := "loop.example/g01207/laws.FnExactAreDice", spec := "fnExactAreDice", inPlace := ["internal/bytealg.CountString", "internal/bytealg.IndexByteString", "internal/bytealg.IndexString"], unfollowed := true, recurses := true, named := ["unicode/utf8.first", "unicode/utf8.acceptRanges", "internal/bytealg.MaxLen"], apart := false, laid := [("unicode/utf8.acceptRanges", laid_unicode_utf8_acceptRanges), ("unicode/utf8.first", laid_unicode_utf8_first)] }
def FnExactAreDiceSaid : Prop := fnExactAreDiceRow.holds Tryd.pinned (OpenSpec.ofChange fnExactAreDiceSpec)

/-- ITS FALSE NEIGHBOUR: 'it returns false'. Refute it at one input. -/
def fnExactAreDiceWrong : ChangeSpec := { name := "fnExactAreDice", fn := fun _ => fun
  | [d1, d2] => { results := [.lit (.bool false)], args := [d1, d2] }
  | _ => none }
def FnExactAreDiceWrongFalsely : Prop := fnExactAreDiceRow.holds Tryd.pinned (OpenSpec.ofChange fnExactAreDiceWrong)

/-- 'laws.FnExactDiceMoves': WHATEVER THE INPUT: true; the input reads as it did. -/
def fnExactDiceMovesSpec : ChangeSpec := { name := "fnExactDiceMoves", fn := fun _ => fun
  | [d1, d2] => { results := [.lit (.bool true)], args := [d1, d2] }
  | _ => none }
def fnExactDiceMovesRow : OpenClaim := { program := "ytdndegonpdakkaadoor", sum := "3ad565db210bd5d64fb55068ccfc110c5a77e253cd993b2ebcf322c2eb10bfe4", func := "loop.example/g01207/laws.FnExactDiceMoves", spec := "fnExactDiceMoves", inPlace := ["internal/bytealg.CountString", "internal/bytealg.IndexByteString", "internal/bytealg.IndexString"], unfollowed := true, recurses := true, named := ["unicode/utf8.first", "unicode/utf8.acceptRanges", "internal/bytealg.MaxLen"], apart := false, laid := [("unicode/utf8.acceptRanges", laid_unicode_utf8_acceptRanges), ("unicode/utf8.first", laid_unicode_utf8_first)] }
def FnExactDiceMovesSaid : Prop := fnExactDiceMovesRow.holds Tryd.pinned (OpenSpec.ofChange fnExactDiceMovesSpec)

/-- ITS FALSE NEIGHBOUR: 'it returns false'. Refute it at one input. -/
def fnExactDiceMovesWrong : ChangeSpec := { name := "fnExactDiceMoves", fn := fun _ => fun
  | [d1, d2] => { results := [.lit (.bool false)], args := [d1, d2] }
  | _ => none }
def FnExactDiceMovesWrongFalsely : Prop := fnExactDiceMovesRow.holds Tryd.pinned (OpenSpec.ofChange fnExactDiceMovesWrong)

/-- 'laws.FnExactMoveOne': WHATEVER THE INPUT: true; the input reads as it did. -/
def fnExactMoveOneSpec : ChangeSpec := { name := "fnExactMoveOne", fn := fun _ => fun
  | [d1, d2, d3, d4] => { results := [.lit (.bool true)], args := [d1, d2, d3, d4] }
  | _ => none }
def fnExactMoveOneRow : OpenClaim := { program := "ytdndegonpdakkaadoor", sum := "3ad565db210bd5d64fb55068ccfc110c5a77e253cd993b2ebcf322c2eb10bfe4", func := "loop.example/g01207/laws.FnExactMoveOne", spec := "fnExactMoveOne", inPlace := ["internal/bytealg.IndexByteString", "internal/bytealg.CountString", "internal/bytealg.IndexString"], unfollowed := true, recurses := true, named := ["unicode/utf8.first", "unicode/utf8.acceptRanges", "internal/bytealg.MaxLen"], apart := false, laid := [("unicode/utf8.acceptRanges", laid_unicode_utf8_acceptRanges), ("unicode/utf8.first", laid_unicode_utf8_first)] }
def FnExactMoveOneSaid : Prop := fnExactMoveOneRow.holds Tryd.pinned (OpenSpec.ofChange fnExactMoveOneSpec)

/-- ITS FALSE NEIGHBOUR: 'it returns false'. Refute it at one input. -/
def fnExactMoveOneWrong : ChangeSpec := { name := "fnExactMoveOne", fn := fun _ => fun
  | [d1, d2, d3, d4] => { results := [.lit (.bool false)], args := [d1, d2, d3, d4] }
  | _ => none }
def FnExactMoveOneWrongFalsely : Prop := fnExactMoveOneRow.holds Tryd.pinned (OpenSpec.ofChange fnExactMoveOneWrong)

/-- 'laws.FnExactMoveDice': WHATEVER THE INPUT: true; the input reads as it did. -/
def fnExactMoveDiceSpec : ChangeSpec := { name := "fnExactMoveDice", fn := fun _ => fun
  | [d1, d2, d3] => { results := [.lit (.bool true)], args := [d1, d2, d3] }
  | _ => none }
def fnExactMoveDiceRow : OpenClaim := { program := "ytdndegonpdakkaadoor", sum := "3ad565db210bd5d64fb55068ccfc110c5a77e253cd993b2ebcf322c2eb10bfe4", func := "loop.example/g01207/laws.FnExactMoveDice", spec := "fnExactMoveDice", inPlace := ["internal/bytealg.CountString", "internal/bytealg.IndexByteString", "internal/bytealg.IndexString"], unfollowed := true, recurses := true, named := ["unicode/utf8.first", "unicode/utf8.acceptRanges", "internal/bytealg.MaxLen"], apart := false, laid := [("unicode/utf8.acceptRanges", laid_unicode_utf8_acceptRanges), ("unicode/utf8.first", laid_unicode_utf8_first)] }
def FnExactMoveDiceSaid : Prop := fnExactMoveDiceRow.holds Tryd.pinned (OpenSpec.ofChange fnExactMoveDiceSpec)

/-- ITS FALSE NEIGHBOUR: 'it returns false'. Refute it at one input. -/
def fnExactMoveDiceWrong : ChangeSpec := { name := "fnExactMoveDice", fn := fun _ => fun
  | [d1, d2, d3] => { results := [.lit (.bool false)], args := [d1, d2, d3] }
  | _ => none }
def FnExactMoveDiceWrongFalsely : Prop := fnExactMoveDiceRow.holds Tryd.pinned (OpenSpec.ofChange fnExactMoveDiceWrong)

/-- 'laws.FnExactBlockedDice': WHATEVER THE INPUT: true; the input reads as it did. -/
def fnExactBlockedDiceSpec : ChangeSpec := { name := "fnExactBlockedDice", fn := fun _ => fun
  | [d1, d2] => { results := [.lit (.bool true)], args := [d1, d2] }
  | _ => none }
def fnExactBlockedDiceRow : OpenClaim := { program := "ytdndegonpdakkaadoor", sum := "3ad565db210bd5d64fb55068ccfc110c5a77e253cd993b2ebcf322c2eb10bfe4", func := "loop.example/g01207/laws.FnExactBlockedDice", spec := "fnExactBlockedDice", inPlace := ["internal/bytealg.CountString", "internal/bytealg.IndexByteString", "internal/bytealg.IndexString"], unfollowed := true, recurses := true, named := ["unicode/utf8.first", "unicode/utf8.acceptRanges", "internal/bytealg.MaxLen"], apart := false, laid := [("unicode/utf8.acceptRanges", laid_unicode_utf8_acceptRanges), ("unicode/utf8.first", laid_unicode_utf8_first)] }
def FnExactBlockedDiceSaid : Prop := fnExactBlockedDiceRow.holds Tryd.pinned (OpenSpec.ofChange fnExactBlockedDiceSpec)

/-- ITS FALSE NEIGHBOUR: 'it returns false'. Refute it at one input. -/
def fnExactBlockedDiceWrong : ChangeSpec := { name := "fnExactBlockedDice", fn := fun _ => fun
  | [d1, d2] => { results := [.lit (.bool false)], args := [d1, d2] }
  | _ => none }
def FnExactBlockedDiceWrongFalsely : Prop := fnExactBlockedDiceRow.holds Tryd.pinned (OpenSpec.ofChange fnExactBlockedDiceWrong)

/-- 'laws.FnExactTouchingPairs': WHATEVER THE INPUT: true; the input reads as it did. -/
def fnExactTouchingPairsSpec : ChangeSpec := { name := "fnExactTouchingPairs", fn := fun _ => fun
  | [d1, d2] => { results := [.lit (.bool true)], args := [d1, d2] }
  | _ => none }
def fnExactTouchingPairsRow : OpenClaim := { program := "ytdndegonpdakkaadoor", sum := "3ad565db210bd5d64fb55068ccfc110c5a77e253cd993b2ebcf322c2eb10bfe4", func := "loop.example/g01207/laws.FnExactTouchingPairs", spec := "fnExactTouchingPairs", inPlace := ["internal/bytealg.CountString", "internal/bytealg.IndexByteString", "internal/bytealg.IndexString"], unfollowed := true, recurses := true, named := ["unicode/utf8.first", "unicode/utf8.acceptRanges", "internal/bytealg.MaxLen"], apart := false, laid := [("unicode/utf8.acceptRanges", laid_unicode_utf8_acceptRanges), ("unicode/utf8.first", laid_unicode_utf8_first)] }
def FnExactTouchingPairsSaid : Prop := fnExactTouchingPairsRow.holds Tryd.pinned (OpenSpec.ofChange fnExactTouchingPairsSpec)

/-- ITS FALSE NEIGHBOUR: 'it returns false'. Refute it at one input. -/
def fnExactTouchingPairsWrong : ChangeSpec := { name := "fnExactTouchingPairs", fn := fun _ => fun
  | [d1, d2] => { results := [.lit (.bool false)], args := [d1, d2] }
  | _ => none }
def FnExactTouchingPairsWrongFalsely : Prop := fnExactTouchingPairsRow.holds Tryd.pinned (OpenSpec.ofChange fnExactTouchingPairsWrong)

/-- 'laws.FnExactSumOfDice': WHATEVER THE INPUT: true; the input reads as it did. -/
def fnExactSumOfDiceSpec : ChangeSpec := { name := "fnExactSumOfDice", fn := fun _ => fun
  | [d1, d2] => { results := [.lit (.bool true)], args := [d1, d2] }
  | _ => none }
def fnExactSumOfDiceRow : OpenClaim := { program := "ytdndegonpdakkaadoor", sum := "3ad565db210bd5d64fb55068ccfc110c5a77e253cd993b2ebcf322c2eb10bfe4", func := "loop.example/g01207/laws.FnExactSumOfDice", spec := "fnExactSumOfDice", inPlace := ["internal/bytealg.CountString", "internal/bytealg.IndexByteString", "internal/bytealg.IndexString"], unfollowed := true, recurses := true, named := ["unicode/utf8.first", "unicode/utf8.acceptRanges", "internal/bytealg.MaxLen"], apart := false, laid := [("unicode/utf8.acceptRanges", laid_unicode_utf8_acceptRanges), ("unicode/utf8.first", laid_unicode_utf8_first)] }
def FnExactSumOfDiceSaid : Prop := fnExactSumOfDiceRow.holds Tryd.pinned (OpenSpec.ofChange fnExactSumOfDiceSpec)

/-- ITS FALSE NEIGHBOUR: 'it returns false'. Refute it at one input. -/
def fnExactSumOfDiceWrong : ChangeSpec := { name := "fnExactSumOfDice", fn := fun _ => fun
  | [d1, d2] => { results := [.lit (.bool false)], args := [d1, d2] }
  | _ => none }
def FnExactSumOfDiceWrongFalsely : Prop := fnExactSumOfDiceRow.holds Tryd.pinned (OpenSpec.ofChange fnExactSumOfDiceWrong)

/- THE SECOND FORM. 'bulk': how many values and letters a reading holds, each counted each time it is reached (what is shared counts as often as it is met; a slice's spare places count too). A statement '..UptoSaid' is the law's where the arguments, and the package variables that the reading takes, are together of bulk at most 1048576: NARROWER than '..Said'. Prove '..Said' where nothing that the law and all that it calls make is longer than what came in: it says more and counts as full. Else prove '..UptoSaid'. A law counts once. -/
mutual
def uptoBulk {H : Type} : DataW H → Nat
  | .lit (.string bytes) => bytes.length + 1
  | .lit _ => 1
  | .nil => 1
  | .ptr d => uptoBulk d + 1
  | .slice elems spare => uptoBulkAll elems + uptoBulkAll spare + 1
  | .agg parts => uptoBulkAll parts + 1
  | .iface _ d => uptoBulk d + 1
  | .map entries => uptoBulkEntries entries + 1
  | .held _ => 1
def uptoBulkAll {H : Type} : List (DataW H) → Nat
  | [] => 0
  | d :: r => uptoBulk d + uptoBulkAll r
def uptoBulkEntries {H : Type} : List (Lit × DataW H) → Nat
  | [] => 0
  | x :: r => uptoBulkEntry x + uptoBulkEntries r
def uptoBulkEntry {H : Type} : Lit × DataW H → Nat
  | (.string bytes, d) => bytes.length + uptoBulk d + 1
  | (_, d) => uptoBulk d + 1
 end
def uptoSmall : (H : Type) → List (DataW H) → Bool := fun _ ds => decide (uptoBulkAll ds ≤ 1048576)
def OpenSpec.upto (s : _root_.Go.ChangeSpec) : _root_.Go.OpenSpec := { _root_.Go.OpenSpec.ofChange s with cond := some uptoSmall }

/-- 'laws.FnExactAreDice', WHERE WHAT IT READS IS OF BULK AT MOST 1048576: true; the input reads as it did. -/
def fnExactAreDiceUptoRow : OpenClaim := { program := "ytdndegonpdakkaadoor", sum := "3ad565db210bd5d64fb55068ccfc110c5a77e253cd993b2ebcf322c2eb10bfe4", func := "loop.example/g01207/laws.FnExactAreDice", spec := "fnExactAreDice", inPlace := ["internal/bytealg.CountString", "internal/bytealg.IndexByteString", "internal/bytealg.IndexString"], unfollowed := true, recurses := true, named := ["unicode/utf8.first", "unicode/utf8.acceptRanges", "internal/bytealg.MaxLen"], apart := false, laid := [("unicode/utf8.acceptRanges", laid_unicode_utf8_acceptRanges), ("unicode/utf8.first", laid_unicode_utf8_first)], narrowed := true }
def FnExactAreDiceUptoSaid : Prop := fnExactAreDiceUptoRow.holds Tryd.pinned (OpenSpec.upto fnExactAreDiceSpec)

/-- 'laws.FnExactDiceMoves', WHERE WHAT IT READS IS OF BULK AT MOST 1048576: true; the input reads as it did. -/
def fnExactDiceMovesUptoRow : OpenClaim := { program := "ytdndegonpdakkaadoor", sum := "3ad565db210bd5d64fb55068ccfc110c5a77e253cd993b2ebcf322c2eb10bfe4", func := "loop.example/g01207/laws.FnExactDiceMoves", spec := "fnExactDiceMoves", inPlace := ["internal/bytealg.CountString", "internal/bytealg.IndexByteString", "internal/bytealg.IndexString"], unfollowed := true, recurses := true, named := ["unicode/utf8.first", "unicode/utf8.acceptRanges", "internal/bytealg.MaxLen"], apart := false, laid := [("unicode/utf8.acceptRanges", laid_unicode_utf8_acceptRanges), ("unicode/utf8.first", laid_unicode_utf8_first)], narrowed := true }
def FnExactDiceMovesUptoSaid : Prop := fnExactDiceMovesUptoRow.holds Tryd.pinned (OpenSpec.upto fnExactDiceMovesSpec)

/-- 'laws.FnExactMoveOne', WHERE WHAT IT READS IS OF BULK AT MOST 1048576: true; the input reads as it did. -/
def fnExactMoveOneUptoRow : OpenClaim := { program := "ytdndegonpdakkaadoor", sum := "3ad565db210bd5d64fb55068ccfc110c5a77e253cd993b2ebcf322c2eb10bfe4", func := "loop.example/g01207/laws.FnExactMoveOne", spec := "fnExactMoveOne", inPlace := ["internal/bytealg.IndexByteString", "internal/bytealg.CountString", "internal/bytealg.IndexString"], unfollowed := true, recurses := true, named := ["unicode/utf8.first", "unicode/utf8.acceptRanges", "internal/bytealg.MaxLen"], apart := false, laid := [("unicode/utf8.acceptRanges", laid_unicode_utf8_acceptRanges), ("unicode/utf8.first", laid_unicode_utf8_first)], narrowed := true }
def FnExactMoveOneUptoSaid : Prop := fnExactMoveOneUptoRow.holds Tryd.pinned (OpenSpec.upto fnExactMoveOneSpec)

/-- 'laws.FnExactMoveDice', WHERE WHAT IT READS IS OF BULK AT MOST 1048576: true; the input reads as it did. -/
def fnExactMoveDiceUptoRow : OpenClaim := { program := "ytdndegonpdakkaadoor", sum := "3ad565db210bd5d64fb55068ccfc110c5a77e253cd993b2ebcf322c2eb10bfe4", func := "loop.example/g01207/laws.FnExactMoveDice", spec := "fnExactMoveDice", inPlace := ["internal/bytealg.CountString", "internal/bytealg.IndexByteString", "internal/bytealg.IndexString"], unfollowed := true, recurses := true, named := ["unicode/utf8.first", "unicode/utf8.acceptRanges", "internal/bytealg.MaxLen"], apart := false, laid := [("unicode/utf8.acceptRanges", laid_unicode_utf8_acceptRanges), ("unicode/utf8.first", laid_unicode_utf8_first)], narrowed := true }
def FnExactMoveDiceUptoSaid : Prop := fnExactMoveDiceUptoRow.holds Tryd.pinned (OpenSpec.upto fnExactMoveDiceSpec)

/-- 'laws.FnExactBlockedDice', WHERE WHAT IT READS IS OF BULK AT MOST 1048576: true; the input reads as it did. -/
def fnExactBlockedDiceUptoRow : OpenClaim := { program := "ytdndegonpdakkaadoor", sum := "3ad565db210bd5d64fb55068ccfc110c5a77e253cd993b2ebcf322c2eb10bfe4", func := "loop.example/g01207/laws.FnExactBlockedDice", spec := "fnExactBlockedDice", inPlace := ["internal/bytealg.CountString", "internal/bytealg.IndexByteString", "internal/bytealg.IndexString"], unfollowed := true, recurses := true, named := ["unicode/utf8.first", "unicode/utf8.acceptRanges", "internal/bytealg.MaxLen"], apart := false, laid := [("unicode/utf8.acceptRanges", laid_unicode_utf8_acceptRanges), ("unicode/utf8.first", laid_unicode_utf8_first)], narrowed := true }
def FnExactBlockedDiceUptoSaid : Prop := fnExactBlockedDiceUptoRow.holds Tryd.pinned (OpenSpec.upto fnExactBlockedDiceSpec)

/-- 'laws.FnExactTouchingPairs', WHERE WHAT IT READS IS OF BULK AT MOST 1048576: true; the input reads as it did. -/
def fnExactTouchingPairsUptoRow : OpenClaim := { program := "ytdndegonpdakkaadoor", sum := "3ad565db210bd5d64fb55068ccfc110c5a77e253cd993b2ebcf322c2eb10bfe4", func := "loop.example/g01207/laws.FnExactTouchingPairs", spec := "fnExactTouchingPairs", inPlace := ["internal/bytealg.CountString", "internal/bytealg.IndexByteString", "internal/bytealg.IndexString"], unfollowed := true, recurses := true, named := ["unicode/utf8.first", "unicode/utf8.acceptRanges", "internal/bytealg.MaxLen"], apart := false, laid := [("unicode/utf8.acceptRanges", laid_unicode_utf8_acceptRanges), ("unicode/utf8.first", laid_unicode_utf8_first)], narrowed := true }
def FnExactTouchingPairsUptoSaid : Prop := fnExactTouchingPairsUptoRow.holds Tryd.pinned (OpenSpec.upto fnExactTouchingPairsSpec)

/-- 'laws.FnExactSumOfDice', WHERE WHAT IT READS IS OF BULK AT MOST 1048576: true; the input reads as it did. -/
def fnExactSumOfDiceUptoRow : OpenClaim := { program := "ytdndegonpdakkaadoor", sum := "3ad565db210bd5d64fb55068ccfc110c5a77e253cd993b2ebcf322c2eb10bfe4", func := "loop.example/g01207/laws.FnExactSumOfDice", spec := "fnExactSumOfDice", inPlace := ["internal/bytealg.CountString", "internal/bytealg.IndexByteString", "internal/bytealg.IndexString"], unfollowed := true, recurses := true, named := ["unicode/utf8.first", "unicode/utf8.acceptRanges", "internal/bytealg.MaxLen"], apart := false, laid := [("unicode/utf8.acceptRanges", laid_unicode_utf8_acceptRanges), ("unicode/utf8.first", laid_unicode_utf8_first)], narrowed := true }
def FnExactSumOfDiceUptoSaid : Prop := fnExactSumOfDiceUptoRow.holds Tryd.pinned (OpenSpec.upto fnExactSumOfDiceSpec)

end Rows
end Go.Proofs.YtdndegonpdakkaaDoor
