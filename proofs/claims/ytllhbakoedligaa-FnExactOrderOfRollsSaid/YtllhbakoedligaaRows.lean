/-
  No cell of these rows narrows 'for every input' (looked for: loops, veiled, ifaces, maps, wideKeys, modest, calm, conditions, laid).
  DERIVED. THE GIVEN ROWS OF THIS SEAT. 16 by the template 'for every input the law returns true; each argument reads behind the call as it read before'; 0 by the template 'total and deterministic' (their statements: YtllhbakoedligaaTotals.lean).
  GIVEN WITH THE SEED: the statements are not yours to turn. If you find one false, say at which input.
  Laid BY PROGRAM, IN A SANDBOX (cutbox-rows.mjs): the forced cells as the released guide's own fill.sh prints them over the translation 54540b7155bd8971… (all of the seat's roots in one cut). By AI agents, Wed Nov 11 2026. No macro, syntax, notation, axiom, sorry.
-/
import Derived.Test.YtllhbakoedligaaChecked
import GoSem.Claim
import GoSem.ClaimJoined
import GoSem.ClaimMapViews
import Derived.JoinedTies
import Derived.KernelRfl
namespace Go.Proofs.Ytllhbakoedligaa
/- THE CELL 'sum', in the pinned program and in every row, IS THE sha256 OF THE DUMP (.gsa) THAT YtllhbakoedligaaProg.lean LOADS. Nothing in Lean hashes anything: it is a label: what it is worth is what the hold of that sum in a sandbox is worth. -/
noncomputable def Try.pinned : Pinned := { name := "ytllhbakoedligaa", sum := "54540b7155bd8971435a5db102fdf443eb97d2293941c13db99338cd13aaa3df", checked := Try.checked }
namespace Rows
def none {H : Type} : Left H := { results := [], args := [] }

/-- 'laws.FnExactIsDie': WHATEVER THE INPUT: true; the input reads as it did. -/
def fnExactIsDieSpec : ChangeSpec := { name := "fnExactIsDie", fn := fun _ => fun
  | [d] => { results := [.lit (.bool true)], args := [d] }
  | _ => none }
def fnExactIsDieRow : OpenClaim := { program := "ytllhbakoedligaa", sum := "54540b7155bd8971435a5db102fdf443eb97d2293941c13db99338cd13aaa3df", func := "loop.example/g01207/laws.FnExactIsDie", spec := "fnExactIsDie", plainKeys := false, apart := false }
def FnExactIsDieSaid : Prop := fnExactIsDieRow.holds Try.pinned (OpenSpec.ofChange fnExactIsDieSpec)

/-- ITS FALSE NEIGHBOUR: 'it returns false'. Refute it at one input. -/
def fnExactIsDieWrong : ChangeSpec := { name := "fnExactIsDie", fn := fun _ => fun
  | [d] => { results := [.lit (.bool false)], args := [d] }
  | _ => none }
def FnExactIsDieWrongFalsely : Prop := fnExactIsDieRow.holds Try.pinned (OpenSpec.ofChange fnExactIsDieWrong)

/-- 'laws.FnExactRollDie': WHATEVER THE INPUT: true; the input reads as it did. -/
def fnExactRollDieSpec : ChangeSpec := { name := "fnExactRollDie", fn := fun _ => fun
  | [d1, d2] => { results := [.lit (.bool true)], args := [d1, d2] }
  | _ => none }
def fnExactRollDieRow : OpenClaim := { program := "ytllhbakoedligaa", sum := "54540b7155bd8971435a5db102fdf443eb97d2293941c13db99338cd13aaa3df", func := "loop.example/g01207/laws.FnExactRollDie", spec := "fnExactRollDie", inPlace := ["internal/bytealg.IndexByteString"], plainKeys := false, apart := false }
def FnExactRollDieSaid : Prop := fnExactRollDieRow.holds Try.pinned (OpenSpec.ofChange fnExactRollDieSpec)

/-- ITS FALSE NEIGHBOUR: 'it returns false'. Refute it at one input. -/
def fnExactRollDieWrong : ChangeSpec := { name := "fnExactRollDie", fn := fun _ => fun
  | [d1, d2] => { results := [.lit (.bool false)], args := [d1, d2] }
  | _ => none }
def FnExactRollDieWrongFalsely : Prop := fnExactRollDieRow.holds Try.pinned (OpenSpec.ofChange fnExactRollDieWrong)

/-- 'laws.FnExactTurnDie': WHATEVER THE INPUT: true; the input reads as it did. -/
def fnExactTurnDieSpec : ChangeSpec := { name := "fnExactTurnDie", fn := fun _ => fun
  | [d1, d2] => { results := [.lit (.bool true)], args := [d1, d2] }
  | _ => none }
def fnExactTurnDieRow : OpenClaim := { program := "ytllhbakoedligaa", sum := "54540b7155bd8971435a5db102fdf443eb97d2293941c13db99338cd13aaa3df", func := "loop.example/g01207/laws.FnExactTurnDie", spec := "fnExactTurnDie", plainKeys := false, apart := false }
def FnExactTurnDieSaid : Prop := fnExactTurnDieRow.holds Try.pinned (OpenSpec.ofChange fnExactTurnDieSpec)

/-- ITS FALSE NEIGHBOUR: 'it returns false'. Refute it at one input. -/
def fnExactTurnDieWrong : ChangeSpec := { name := "fnExactTurnDie", fn := fun _ => fun
  | [d1, d2] => { results := [.lit (.bool false)], args := [d1, d2] }
  | _ => none }
def FnExactTurnDieWrongFalsely : Prop := fnExactTurnDieRow.holds Try.pinned (OpenSpec.ofChange fnExactTurnDieWrong)

/-- 'laws.FnExactIsRolls': WHATEVER THE INPUT: true; the input reads as it did. -/
def fnExactIsRollsSpec : ChangeSpec := { name := "fnExactIsRolls", fn := fun _ => fun
  | [d] => { results := [.lit (.bool true)], args := [d] }
  | _ => none }
def fnExactIsRollsRow : OpenClaim := { program := "ytllhbakoedligaa", sum := "54540b7155bd8971435a5db102fdf443eb97d2293941c13db99338cd13aaa3df", func := "loop.example/g01207/laws.FnExactIsRolls", spec := "fnExactIsRolls", inPlace := ["internal/bytealg.IndexByteString"], plainKeys := false, apart := false }
def FnExactIsRollsSaid : Prop := fnExactIsRollsRow.holds Try.pinned (OpenSpec.ofChange fnExactIsRollsSpec)

/-- ITS FALSE NEIGHBOUR: 'it returns false'. Refute it at one input. -/
def fnExactIsRollsWrong : ChangeSpec := { name := "fnExactIsRolls", fn := fun _ => fun
  | [d] => { results := [.lit (.bool false)], args := [d] }
  | _ => none }
def FnExactIsRollsWrongFalsely : Prop := fnExactIsRollsRow.holds Try.pinned (OpenSpec.ofChange fnExactIsRollsWrong)

/-- 'laws.FnExactRollWord': WHATEVER THE INPUT: true; the input reads as it did. -/
def fnExactRollWordSpec : ChangeSpec := { name := "fnExactRollWord", fn := fun _ => fun
  | [d1, d2] => { results := [.lit (.bool true)], args := [d1, d2] }
  | _ => none }
def fnExactRollWordRow : OpenClaim := { program := "ytllhbakoedligaa", sum := "54540b7155bd8971435a5db102fdf443eb97d2293941c13db99338cd13aaa3df", func := "loop.example/g01207/laws.FnExactRollWord", spec := "fnExactRollWord", inPlace := ["internal/bytealg.IndexByteString"], plainKeys := false, apart := false }
def FnExactRollWordSaid : Prop := fnExactRollWordRow.holds Try.pinned (OpenSpec.ofChange fnExactRollWordSpec)

/-- ITS FALSE NEIGHBOUR: 'it returns false'. Refute it at one input. -/
def fnExactRollWordWrong : ChangeSpec := { name := "fnExactRollWord", fn := fun _ => fun
  | [d1, d2] => { results := [.lit (.bool false)], args := [d1, d2] }
  | _ => none }
def FnExactRollWordWrongFalsely : Prop := fnExactRollWordRow.holds Try.pinned (OpenSpec.ofChange fnExactRollWordWrong)

/-- 'laws.FnExactBackWord': WHATEVER THE INPUT: true; the input reads as it did. -/
def fnExactBackWordSpec : ChangeSpec := { name := "fnExactBackWord", fn := fun _ => fun
  | [d] => { results := [.lit (.bool true)], args := [d] }
  | _ => none }
def fnExactBackWordRow : OpenClaim := { program := "ytllhbakoedligaa", sum := "54540b7155bd8971435a5db102fdf443eb97d2293941c13db99338cd13aaa3df", func := "loop.example/g01207/laws.FnExactBackWord", spec := "fnExactBackWord", inPlace := ["internal/bytealg.IndexByteString"], plainKeys := false, apart := false }
def FnExactBackWordSaid : Prop := fnExactBackWordRow.holds Try.pinned (OpenSpec.ofChange fnExactBackWordSpec)

/-- ITS FALSE NEIGHBOUR: 'it returns false'. Refute it at one input. -/
def fnExactBackWordWrong : ChangeSpec := { name := "fnExactBackWord", fn := fun _ => fun
  | [d] => { results := [.lit (.bool false)], args := [d] }
  | _ => none }
def FnExactBackWordWrongFalsely : Prop := fnExactBackWordRow.holds Try.pinned (OpenSpec.ofChange fnExactBackWordWrong)

/-- 'laws.FnExactOrderOfRolls': WHATEVER THE INPUT: true; the input reads as it did. -/
def fnExactOrderOfRollsSpec : ChangeSpec := { name := "fnExactOrderOfRolls", fn := fun _ => fun
  | [d] => { results := [.lit (.bool true)], args := [d] }
  | _ => none }
def fnExactOrderOfRollsRow : OpenClaim := { program := "ytllhbakoedligaa", sum := "54540b7155bd8971435a5db102fdf443eb97d2293941c13db99338cd13aaa3df", func := "loop.example/g01207/laws.FnExactOrderOfRolls", spec := "fnExactOrderOfRolls", inPlace := ["internal/bytealg.IndexByteString"], plainKeys := false, apart := false }
def FnExactOrderOfRollsSaid : Prop := fnExactOrderOfRollsRow.holds Try.pinned (OpenSpec.ofChange fnExactOrderOfRollsSpec)

/-- ITS FALSE NEIGHBOUR: 'it returns false'. Refute it at one input. -/
def fnExactOrderOfRollsWrong : ChangeSpec := { name := "fnExactOrderOfRolls", fn := fun _ => fun
  | [d] => { results := [.lit (.bool false)], args := [d] }
  | _ => none }
def FnExactOrderOfRollsWrongFalsely : Prop := fnExactOrderOfRollsRow.holds Try.pinned (OpenSpec.ofChange fnExactOrderOfRollsWrong)

/-- 'laws.FnExactAreSameRolls': WHATEVER THE INPUT: true; the input reads as it did. -/
def fnExactAreSameRollsSpec : ChangeSpec := { name := "fnExactAreSameRolls", fn := fun _ => fun
  | [d1, d2] => { results := [.lit (.bool true)], args := [d1, d2] }
  | _ => none }
def fnExactAreSameRollsRow : OpenClaim := { program := "ytllhbakoedligaa", sum := "54540b7155bd8971435a5db102fdf443eb97d2293941c13db99338cd13aaa3df", func := "loop.example/g01207/laws.FnExactAreSameRolls", spec := "fnExactAreSameRolls", inPlace := ["internal/bytealg.IndexByteString"], plainKeys := false, apart := false }
def FnExactAreSameRollsSaid : Prop := fnExactAreSameRollsRow.holds Try.pinned (OpenSpec.ofChange fnExactAreSameRollsSpec)

/-- ITS FALSE NEIGHBOUR: 'it returns false'. Refute it at one input. -/
def fnExactAreSameRollsWrong : ChangeSpec := { name := "fnExactAreSameRolls", fn := fun _ => fun
  | [d1, d2] => { results := [.lit (.bool false)], args := [d1, d2] }
  | _ => none }
def FnExactAreSameRollsWrongFalsely : Prop := fnExactAreSameRollsRow.holds Try.pinned (OpenSpec.ofChange fnExactAreSameRollsWrong)

/-- 'laws.FnExactShortestRolls': WHATEVER THE INPUT: true; the input reads as it did. -/
def fnExactShortestRollsSpec : ChangeSpec := { name := "fnExactShortestRolls", fn := fun _ => fun
  | [d] => { results := [.lit (.bool true)], args := [d] }
  | _ => none }
def fnExactShortestRollsRow : OpenClaim := { program := "ytllhbakoedligaa", sum := "54540b7155bd8971435a5db102fdf443eb97d2293941c13db99338cd13aaa3df", func := "loop.example/g01207/laws.FnExactShortestRolls", spec := "fnExactShortestRolls", inPlace := ["internal/bytealg.IndexByteString"], plainKeys := false, apart := false }
def FnExactShortestRollsSaid : Prop := fnExactShortestRollsRow.holds Try.pinned (OpenSpec.ofChange fnExactShortestRollsSpec)

/-- ITS FALSE NEIGHBOUR: 'it returns false'. Refute it at one input. -/
def fnExactShortestRollsWrong : ChangeSpec := { name := "fnExactShortestRolls", fn := fun _ => fun
  | [d] => { results := [.lit (.bool false)], args := [d] }
  | _ => none }
def FnExactShortestRollsWrongFalsely : Prop := fnExactShortestRollsRow.holds Try.pinned (OpenSpec.ofChange fnExactShortestRollsWrong)

/-- 'laws.FnExactCountWays': WHATEVER THE INPUT: true; the input reads as it did. -/
def fnExactCountWaysSpec : ChangeSpec := { name := "fnExactCountWays", fn := fun _ => fun
  | [d] => { results := [.lit (.bool true)], args := [d] }
  | _ => none }
def fnExactCountWaysRow : OpenClaim := { program := "ytllhbakoedligaa", sum := "54540b7155bd8971435a5db102fdf443eb97d2293941c13db99338cd13aaa3df", func := "loop.example/g01207/laws.FnExactCountWays", spec := "fnExactCountWays", plainKeys := false, apart := false }
def FnExactCountWaysSaid : Prop := fnExactCountWaysRow.holds Try.pinned (OpenSpec.ofChange fnExactCountWaysSpec)

/-- ITS FALSE NEIGHBOUR: 'it returns false'. Refute it at one input. -/
def fnExactCountWaysWrong : ChangeSpec := { name := "fnExactCountWays", fn := fun _ => fun
  | [d] => { results := [.lit (.bool false)], args := [d] }
  | _ => none }
def FnExactCountWaysWrongFalsely : Prop := fnExactCountWaysRow.holds Try.pinned (OpenSpec.ofChange fnExactCountWaysWrong)

/-- 'laws.FnExactIsTurned': WHATEVER THE INPUT: true; the input reads as it did. -/
def fnExactIsTurnedSpec : ChangeSpec := { name := "fnExactIsTurned", fn := fun _ => fun
  | [d1, d2] => { results := [.lit (.bool true)], args := [d1, d2] }
  | _ => none }
def fnExactIsTurnedRow : OpenClaim := { program := "ytllhbakoedligaa", sum := "54540b7155bd8971435a5db102fdf443eb97d2293941c13db99338cd13aaa3df", func := "loop.example/g01207/laws.FnExactIsTurned", spec := "fnExactIsTurned", plainKeys := false, apart := false }
def FnExactIsTurnedSaid : Prop := fnExactIsTurnedRow.holds Try.pinned (OpenSpec.ofChange fnExactIsTurnedSpec)

/-- ITS FALSE NEIGHBOUR: 'it returns false'. Refute it at one input. -/
def fnExactIsTurnedWrong : ChangeSpec := { name := "fnExactIsTurned", fn := fun _ => fun
  | [d1, d2] => { results := [.lit (.bool false)], args := [d1, d2] }
  | _ => none }
def FnExactIsTurnedWrongFalsely : Prop := fnExactIsTurnedRow.holds Try.pinned (OpenSpec.ofChange fnExactIsTurnedWrong)

/-- 'laws.FnExactRollsBetween': WHATEVER THE INPUT: true; the input reads as it did. -/
def fnExactRollsBetweenSpec : ChangeSpec := { name := "fnExactRollsBetween", fn := fun _ => fun
  | [d1, d2] => { results := [.lit (.bool true)], args := [d1, d2] }
  | _ => none }
def fnExactRollsBetweenRow : OpenClaim := { program := "ytllhbakoedligaa", sum := "54540b7155bd8971435a5db102fdf443eb97d2293941c13db99338cd13aaa3df", func := "loop.example/g01207/laws.FnExactRollsBetween", spec := "fnExactRollsBetween", plainKeys := false, apart := false }
def FnExactRollsBetweenSaid : Prop := fnExactRollsBetweenRow.holds Try.pinned (OpenSpec.ofChange fnExactRollsBetweenSpec)

/-- ITS FALSE NEIGHBOUR: 'it returns false'. Refute it at one input. -/
def fnExactRollsBetweenWrong : ChangeSpec := { name := "fnExactRollsBetween", fn := fun _ => fun
  | [d1, d2] => { results := [.lit (.bool false)], args := [d1, d2] }
  | _ => none }
def FnExactRollsBetweenWrongFalsely : Prop := fnExactRollsBetweenRow.holds Try.pinned (OpenSpec.ofChange fnExactRollsBetweenWrong)

/-- 'laws.FnExactMirrorDie': WHATEVER THE INPUT: true; the input reads as it did. -/
def fnExactMirrorDieSpec : ChangeSpec := { name := "fnExactMirrorDie", fn := fun _ => fun
  | [d] => { results := [.lit (.bool true)], args := [d] }
  | _ => none }
def fnExactMirrorDieRow : OpenClaim := { program := "ytllhbakoedligaa", sum := "54540b7155bd8971435a5db102fdf443eb97d2293941c13db99338cd13aaa3df", func := "loop.example/g01207/laws.FnExactMirrorDie", spec := "fnExactMirrorDie", plainKeys := false, apart := false }
def FnExactMirrorDieSaid : Prop := fnExactMirrorDieRow.holds Try.pinned (OpenSpec.ofChange fnExactMirrorDieSpec)

/-- ITS FALSE NEIGHBOUR: 'it returns false'. Refute it at one input. -/
def fnExactMirrorDieWrong : ChangeSpec := { name := "fnExactMirrorDie", fn := fun _ => fun
  | [d] => { results := [.lit (.bool false)], args := [d] }
  | _ => none }
def FnExactMirrorDieWrongFalsely : Prop := fnExactMirrorDieRow.holds Try.pinned (OpenSpec.ofChange fnExactMirrorDieWrong)

/-- 'laws.FnExactIsHanded': WHATEVER THE INPUT: true; the input reads as it did. -/
def fnExactIsHandedSpec : ChangeSpec := { name := "fnExactIsHanded", fn := fun _ => fun
  | [d] => { results := [.lit (.bool true)], args := [d] }
  | _ => none }
def fnExactIsHandedRow : OpenClaim := { program := "ytllhbakoedligaa", sum := "54540b7155bd8971435a5db102fdf443eb97d2293941c13db99338cd13aaa3df", func := "loop.example/g01207/laws.FnExactIsHanded", spec := "fnExactIsHanded", plainKeys := false, apart := false }
def FnExactIsHandedSaid : Prop := fnExactIsHandedRow.holds Try.pinned (OpenSpec.ofChange fnExactIsHandedSpec)

/-- ITS FALSE NEIGHBOUR: 'it returns false'. Refute it at one input. -/
def fnExactIsHandedWrong : ChangeSpec := { name := "fnExactIsHanded", fn := fun _ => fun
  | [d] => { results := [.lit (.bool false)], args := [d] }
  | _ => none }
def FnExactIsHandedWrongFalsely : Prop := fnExactIsHandedRow.holds Try.pinned (OpenSpec.ofChange fnExactIsHandedWrong)

/-- 'laws.FnExactDieText': WHATEVER THE INPUT: true; the input reads as it did. -/
def fnExactDieTextSpec : ChangeSpec := { name := "fnExactDieText", fn := fun _ => fun
  | [d] => { results := [.lit (.bool true)], args := [d] }
  | _ => none }
def fnExactDieTextRow : OpenClaim := { program := "ytllhbakoedligaa", sum := "54540b7155bd8971435a5db102fdf443eb97d2293941c13db99338cd13aaa3df", func := "loop.example/g01207/laws.FnExactDieText", spec := "fnExactDieText", recurses := true, plainKeys := false, apart := false }
def FnExactDieTextSaid : Prop := fnExactDieTextRow.holds Try.pinned (OpenSpec.ofChange fnExactDieTextSpec)

/-- ITS FALSE NEIGHBOUR: 'it returns false'. Refute it at one input. -/
def fnExactDieTextWrong : ChangeSpec := { name := "fnExactDieText", fn := fun _ => fun
  | [d] => { results := [.lit (.bool false)], args := [d] }
  | _ => none }
def FnExactDieTextWrongFalsely : Prop := fnExactDieTextRow.holds Try.pinned (OpenSpec.ofChange fnExactDieTextWrong)

/-- 'laws.FnExactParseDie': WHATEVER THE INPUT: true; the input reads as it did. -/
def fnExactParseDieSpec : ChangeSpec := { name := "fnExactParseDie", fn := fun _ => fun
  | [d] => { results := [.lit (.bool true)], args := [d] }
  | _ => none }
def fnExactParseDieRow : OpenClaim := { program := "ytllhbakoedligaa", sum := "54540b7155bd8971435a5db102fdf443eb97d2293941c13db99338cd13aaa3df", func := "loop.example/g01207/laws.FnExactParseDie", spec := "fnExactParseDie", plainKeys := false, apart := false }
def FnExactParseDieSaid : Prop := fnExactParseDieRow.holds Try.pinned (OpenSpec.ofChange fnExactParseDieSpec)

/-- ITS FALSE NEIGHBOUR: 'it returns false'. Refute it at one input. -/
def fnExactParseDieWrong : ChangeSpec := { name := "fnExactParseDie", fn := fun _ => fun
  | [d] => { results := [.lit (.bool false)], args := [d] }
  | _ => none }
def FnExactParseDieWrongFalsely : Prop := fnExactParseDieRow.holds Try.pinned (OpenSpec.ofChange fnExactParseDieWrong)

/- THE SECOND FORM. 'bulk': how many values and letters a reading holds, each counted each time it is reached (what is shared counts as often as it is met; a slice's spare places count too). A statement '..UptoSaid' is the law's where the arguments, and the package variables that the reading takes, are together of bulk at most 1048576: NARROWER than '..Said'. Prove '..Said' where nothing that the law and all that it calls make is longer than what came in: it says more and counts as full. Else prove '..UptoSaid'. A law counts once. -/
mutual
def uptoBulk {H : Type} : DataW H → Nat
  | .lit (.string bytes) => bytes.length + 1
  | .lit _ => 1
  | .nil => 1
  | .ptr d => uptoBulk d + 1
  | .slice elems spare => uptoBulkAll elems + uptoBulkAll spare + 1
  | .agg parts => uptoBulkAll parts + 1
  | .iface _ d => uptoBulk d + 1
  | .map entries => uptoBulkEntries entries + 1
  | .held _ => 1
def uptoBulkAll {H : Type} : List (DataW H) → Nat
  | [] => 0
  | d :: r => uptoBulk d + uptoBulkAll r
def uptoBulkEntries {H : Type} : List (Lit × DataW H) → Nat
  | [] => 0
  | x :: r => uptoBulkEntry x + uptoBulkEntries r
def uptoBulkEntry {H : Type} : Lit × DataW H → Nat
  | (.string bytes, d) => bytes.length + uptoBulk d + 1
  | (_, d) => uptoBulk d + 1
 end
def uptoSmall : (H : Type) → List (DataW H) → Bool := fun _ ds => decide (uptoBulkAll ds ≤ 1048576)
def OpenSpec.upto (s : _root_.Go.ChangeSpec) : _root_.Go.OpenSpec := { _root_.Go.OpenSpec.ofChange s with cond := some uptoSmall }

/-- 'laws.FnExactIsDie', WHERE WHAT IT READS IS OF BULK AT MOST 1048576: true; the input reads as it did. -/
def fnExactIsDieUptoRow : OpenClaim := { program := "ytllhbakoedligaa", sum := "54540b7155bd8971435a5db102fdf443eb97d2293941c13db99338cd13aaa3df", func := "loop.example/g01207/laws.FnExactIsDie", spec := "fnExactIsDie", plainKeys := false, apart := false, narrowed := true }
def FnExactIsDieUptoSaid : Prop := fnExactIsDieUptoRow.holds Try.pinned (OpenSpec.upto fnExactIsDieSpec)

/-- 'laws.FnExactRollDie', WHERE WHAT IT READS IS OF BULK AT MOST 1048576: true; the input reads as it did. -/
def fnExactRollDieUptoRow : OpenClaim := { program := "ytllhbakoedligaa", sum := "54540b7155bd8971435a5db102fdf443eb97d2293941c13db99338cd13aaa3df", func := "loop.example/g01207/laws.FnExactRollDie", spec := "fnExactRollDie", inPlace := ["internal/bytealg.IndexByteString"], plainKeys := false, apart := false, narrowed := true }
def FnExactRollDieUptoSaid : Prop := fnExactRollDieUptoRow.holds Try.pinned (OpenSpec.upto fnExactRollDieSpec)

/-- 'laws.FnExactTurnDie', WHERE WHAT IT READS IS OF BULK AT MOST 1048576: true; the input reads as it did. -/
def fnExactTurnDieUptoRow : OpenClaim := { program := "ytllhbakoedligaa", sum := "54540b7155bd8971435a5db102fdf443eb97d2293941c13db99338cd13aaa3df", func := "loop.example/g01207/laws.FnExactTurnDie", spec := "fnExactTurnDie", plainKeys := false, apart := false, narrowed := true }
def FnExactTurnDieUptoSaid : Prop := fnExactTurnDieUptoRow.holds Try.pinned (OpenSpec.upto fnExactTurnDieSpec)

/-- 'laws.FnExactIsRolls', WHERE WHAT IT READS IS OF BULK AT MOST 1048576: true; the input reads as it did. -/
def fnExactIsRollsUptoRow : OpenClaim := { program := "ytllhbakoedligaa", sum := "54540b7155bd8971435a5db102fdf443eb97d2293941c13db99338cd13aaa3df", func := "loop.example/g01207/laws.FnExactIsRolls", spec := "fnExactIsRolls", inPlace := ["internal/bytealg.IndexByteString"], plainKeys := false, apart := false, narrowed := true }
def FnExactIsRollsUptoSaid : Prop := fnExactIsRollsUptoRow.holds Try.pinned (OpenSpec.upto fnExactIsRollsSpec)

/-- 'laws.FnExactRollWord', WHERE WHAT IT READS IS OF BULK AT MOST 1048576: true; the input reads as it did. -/
def fnExactRollWordUptoRow : OpenClaim := { program := "ytllhbakoedligaa", sum := "54540b7155bd8971435a5db102fdf443eb97d2293941c13db99338cd13aaa3df", func := "loop.example/g01207/laws.FnExactRollWord", spec := "fnExactRollWord", inPlace := ["internal/bytealg.IndexByteString"], plainKeys := false, apart := false, narrowed := true }
def FnExactRollWordUptoSaid : Prop := fnExactRollWordUptoRow.holds Try.pinned (OpenSpec.upto fnExactRollWordSpec)

/-- 'laws.FnExactBackWord', WHERE WHAT IT READS IS OF BULK AT MOST 1048576: true; the input reads as it did. -/
def fnExactBackWordUptoRow : OpenClaim := { program := "ytllhbakoedligaa", sum := "54540b7155bd8971435a5db102fdf443eb97d2293941c13db99338cd13aaa3df", func := "loop.example/g01207/laws.FnExactBackWord", spec := "fnExactBackWord", inPlace := ["internal/bytealg.IndexByteString"], plainKeys := false, apart := false, narrowed := true }
def FnExactBackWordUptoSaid : Prop := fnExactBackWordUptoRow.holds Try.pinned (OpenSpec.upto fnExactBackWordSpec)

/-- 'laws.FnExactOrderOfRolls', WHERE WHAT IT READS IS OF BULK AT MOST 1048576: true; the input reads as it did. -/
def fnExactOrderOfRollsUptoRow : OpenClaim := { program := "ytllhbakoedligaa", sum := "54540b7155bd8971435a5db102fdf443eb97d2293941c13db99338cd13aaa3df", func := "loop.example/g01207/laws.FnExactOrderOfRolls", spec := "fnExactOrderOfRolls", inPlace := ["internal/bytealg.IndexByteString"], plainKeys := false, apart := false, narrowed := true }
def FnExactOrderOfRollsUptoSaid : Prop := fnExactOrderOfRollsUptoRow.holds Try.pinned (OpenSpec.upto fnExactOrderOfRollsSpec)

/-- 'laws.FnExactAreSameRolls', WHERE WHAT IT READS IS OF BULK AT MOST 1048576: true; the input reads as it did. -/
def fnExactAreSameRollsUptoRow : OpenClaim := { program := "ytllhbakoedligaa", sum := "54540b7155bd8971435a5db102fdf443eb97d2293941c13db99338cd13aaa3df", func := "loop.example/g01207/laws.FnExactAreSameRolls", spec := "fnExactAreSameRolls", inPlace := ["internal/bytealg.IndexByteString"], plainKeys := false, apart := false, narrowed := true }
def FnExactAreSameRollsUptoSaid : Prop := fnExactAreSameRollsUptoRow.holds Try.pinned (OpenSpec.upto fnExactAreSameRollsSpec)

/-- 'laws.FnExactShortestRolls', WHERE WHAT IT READS IS OF BULK AT MOST 1048576: true; the input reads as it did. -/
def fnExactShortestRollsUptoRow : OpenClaim := { program := "ytllhbakoedligaa", sum := "54540b7155bd8971435a5db102fdf443eb97d2293941c13db99338cd13aaa3df", func := "loop.example/g01207/laws.FnExactShortestRolls", spec := "fnExactShortestRolls", inPlace := ["internal/bytealg.IndexByteString"], plainKeys := false, apart := false, narrowed := true }
def FnExactShortestRollsUptoSaid : Prop := fnExactShortestRollsUptoRow.holds Try.pinned (OpenSpec.upto fnExactShortestRollsSpec)

/-- 'laws.FnExactCountWays', WHERE WHAT IT READS IS OF BULK AT MOST 1048576: true; the input reads as it did. -/
def fnExactCountWaysUptoRow : OpenClaim := { program := "ytllhbakoedligaa", sum := "54540b7155bd8971435a5db102fdf443eb97d2293941c13db99338cd13aaa3df", func := "loop.example/g01207/laws.FnExactCountWays", spec := "fnExactCountWays", plainKeys := false, apart := false, narrowed := true }
def FnExactCountWaysUptoSaid : Prop := fnExactCountWaysUptoRow.holds Try.pinned (OpenSpec.upto fnExactCountWaysSpec)

/-- 'laws.FnExactIsTurned', WHERE WHAT IT READS IS OF BULK AT MOST 1048576: true; the input reads as it did. -/
def fnExactIsTurnedUptoRow : OpenClaim := { program := "ytllhbakoedligaa", sum := "54540b7155bd8971435a5db102fdf443eb97d2293941c13db99338cd13aaa3df", func := "loop.example/g01207/laws.FnExactIsTurned", spec := "fnExactIsTurned", plainKeys := false, apart := false, narrowed := true }
def FnExactIsTurnedUptoSaid : Prop := fnExactIsTurnedUptoRow.holds Try.pinned (OpenSpec.upto fnExactIsTurnedSpec)

/-- 'laws.FnExactRollsBetween', WHERE WHAT IT READS IS OF BULK AT MOST 1048576: true; the input reads as it did. -/
def fnExactRollsBetweenUptoRow : OpenClaim := { program := "ytllhbakoedligaa", sum := "54540b7155bd8971435a5db102fdf443eb97d2293941c13db99338cd13aaa3df", func := "loop.example/g01207/laws.FnExactRollsBetween", spec := "fnExactRollsBetween", plainKeys := false, apart := false, narrowed := true }
def FnExactRollsBetweenUptoSaid : Prop := fnExactRollsBetweenUptoRow.holds Try.pinned (OpenSpec.upto fnExactRollsBetweenSpec)

/-- 'laws.FnExactMirrorDie', WHERE WHAT IT READS IS OF BULK AT MOST 1048576: true; the input reads as it did. -/
def fnExactMirrorDieUptoRow : OpenClaim := { program := "ytllhbakoedligaa", sum := "54540b7155bd8971435a5db102fdf443eb97d2293941c13db99338cd13aaa3df", func := "loop.example/g01207/laws.FnExactMirrorDie", spec := "fnExactMirrorDie", plainKeys := false, apart := false, narrowed := true }
def FnExactMirrorDieUptoSaid : Prop := fnExactMirrorDieUptoRow.holds Try.pinned (OpenSpec.upto fnExactMirrorDieSpec)

/-- 'laws.FnExactIsHanded', WHERE WHAT IT READS IS OF BULK AT MOST 1048576: true; the input reads as it did. -/
def fnExactIsHandedUptoRow : OpenClaim := { program := "ytllhbakoedligaa", sum := "54540b7155bd8971435a5db102fdf443eb97d2293941c13db99338cd13aaa3df", func := "loop.example/g01207/laws.FnExactIsHanded", spec := "fnExactIsHanded", plainKeys := false, apart := false, narrowed := true }
def FnExactIsHandedUptoSaid : Prop := fnExactIsHandedUptoRow.holds Try.pinned (OpenSpec.upto fnExactIsHandedSpec)

/-- 'laws.FnExactDieText', WHERE WHAT IT READS IS OF BULK AT MOST 1048576: true; the input reads as it did. -/
def fnExactDieTextUptoRow : OpenClaim := { program := "ytllhbakoedligaa", sum := "54540b7155bd8971435a5db102fdf443eb97d2293941c13db99338cd13aaa3df", func := "loop.example/g01207/laws.FnExactDieText", spec := "fnExactDieText", recurses := true, plainKeys := false, apart := false, narrowed := true }
def FnExactDieTextUptoSaid : Prop := fnExactDieTextUptoRow.holds Try.pinned (OpenSpec.upto fnExactDieTextSpec)

/-- 'laws.FnExactParseDie', WHERE WHAT IT READS IS OF BULK AT MOST 1048576: true; the input reads as it did. -/
def fnExactParseDieUptoRow : OpenClaim := { program := "ytllhbakoedligaa", sum := "54540b7155bd8971435a5db102fdf443eb97d2293941c13db99338cd13aaa3df", func := "loop.example/g01207/laws.FnExactParseDie", spec := "fnExactParseDie", plainKeys := false, apart := false, narrowed := true }
def FnExactParseDieUptoSaid : Prop := fnExactParseDieUptoRow.holds Try.pinned (OpenSpec.upto fnExactParseDieSpec)

end Rows
end Go.Proofs.Ytllhbakoedligaa
