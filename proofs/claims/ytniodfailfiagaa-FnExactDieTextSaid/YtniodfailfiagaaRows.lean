/-
  No cell of these rows narrows 'for every input' (looked for: loops, veiled, ifaces, maps, wideKeys, modest, calm, conditions, laid).
  DERIVED. THE GIVEN ROWS OF THIS SEAT. 9 by the template 'for every input the law returns true; each argument reads behind the call as it read before'; 0 by the template 'total and deterministic' (their statements: YtniodfailfiagaaTotals.lean).
  GIVEN WITH THE SEED: the statements are not yours to turn. If you find one false, say at which input.
  Laid BY PROGRAM, IN A SANDBOX (cutbox-rows.mjs): the forced cells as the released guide's own fill.sh prints them over the translation c163962c359112ea… (all of the seat's roots in one cut). By AI agents, Wed Nov 11 2026. No macro, syntax, notation, axiom, sorry.
-/
import Derived.Test.YtniodfailfiagaaChecked
import GoSem.Claim
import GoSem.ClaimJoined
import GoSem.ClaimMapViews
import Derived.JoinedTies
import Derived.KernelRfl
namespace Go.Proofs.Ytniodfailfiagaa
/- THE CELL 'sum', in the pinned program and in every row, IS THE sha256 OF THE DUMP (.gsa) THAT YtniodfailfiagaaProg.lean LOADS. Nothing in Lean hashes anything: it is a label: what it is worth is what the hold of that sum in a sandbox is worth. -/
noncomputable def Try.pinned : Pinned := { name := "ytniodfailfiagaa", sum := "c163962c359112ea7cad40e6e3b476c2eb681c63dba423168893ddf65cd4d626", checked := Try.checked }
namespace Rows
def none {H : Type} : Left H := { results := [], args := [] }

/-- 'laws.FnExactIsClosedWay': WHATEVER THE INPUT: true; the input reads as it did. -/
def fnExactIsClosedWaySpec : ChangeSpec := { name := "fnExactIsClosedWay", fn := fun _ => fun
  | [d] => { results := [.lit (.bool true)], args := [d] }
  | _ => none }
def fnExactIsClosedWayRow : OpenClaim := { program := "ytniodfailfiagaa", sum := "c163962c359112ea7cad40e6e3b476c2eb681c63dba423168893ddf65cd4d626", func := "loop.example/g01207/laws.FnExactIsClosedWay", spec := "fnExactIsClosedWay", inPlace := ["internal/bytealg.IndexByteString", "internal/bytealg.CountString", "internal/bytealg.IndexString"], named := ["internal/bytealg.MaxLen"], plainKeys := false, apart := false }
def FnExactIsClosedWaySaid : Prop := fnExactIsClosedWayRow.holds Try.pinned (OpenSpec.ofChange fnExactIsClosedWaySpec)

/-- ITS FALSE NEIGHBOUR: 'it returns false'. Refute it at one input. -/
def fnExactIsClosedWayWrong : ChangeSpec := { name := "fnExactIsClosedWay", fn := fun _ => fun
  | [d] => { results := [.lit (.bool false)], args := [d] }
  | _ => none }
def FnExactIsClosedWayWrongFalsely : Prop := fnExactIsClosedWayRow.holds Try.pinned (OpenSpec.ofChange fnExactIsClosedWayWrong)

/-- 'laws.FnExactTurnRolls': WHATEVER THE INPUT: true; the input reads as it did. -/
def fnExactTurnRollsSpec : ChangeSpec := { name := "fnExactTurnRolls", fn := fun _ => fun
  | [d] => { results := [.lit (.bool true)], args := [d] }
  | _ => none }
def fnExactTurnRollsRow : OpenClaim := { program := "ytniodfailfiagaa", sum := "c163962c359112ea7cad40e6e3b476c2eb681c63dba423168893ddf65cd4d626", func := "loop.example/g01207/laws.FnExactTurnRolls", spec := "fnExactTurnRolls", inPlace := ["internal/bytealg.IndexByteString"], plainKeys := false, apart := false }
def FnExactTurnRollsSaid : Prop := fnExactTurnRollsRow.holds Try.pinned (OpenSpec.ofChange fnExactTurnRollsSpec)

/-- ITS FALSE NEIGHBOUR: 'it returns false'. Refute it at one input. -/
def fnExactTurnRollsWrong : ChangeSpec := { name := "fnExactTurnRolls", fn := fun _ => fun
  | [d] => { results := [.lit (.bool false)], args := [d] }
  | _ => none }
def FnExactTurnRollsWrongFalsely : Prop := fnExactTurnRollsRow.holds Try.pinned (OpenSpec.ofChange fnExactTurnRollsWrong)

/-- 'laws.FnExactBackWord': WHATEVER THE INPUT: true; the input reads as it did. -/
def fnExactBackWordSpec : ChangeSpec := { name := "fnExactBackWord", fn := fun _ => fun
  | [d] => { results := [.lit (.bool true)], args := [d] }
  | _ => none }
def fnExactBackWordRow : OpenClaim := { program := "ytniodfailfiagaa", sum := "c163962c359112ea7cad40e6e3b476c2eb681c63dba423168893ddf65cd4d626", func := "loop.example/g01207/laws.FnExactBackWord", spec := "fnExactBackWord", inPlace := ["internal/bytealg.IndexByteString"], plainKeys := false, apart := false }
def FnExactBackWordSaid : Prop := fnExactBackWordRow.holds Try.pinned (OpenSpec.ofChange fnExactBackWordSpec)

/-- ITS FALSE NEIGHBOUR: 'it returns false'. Refute it at one input. -/
def fnExactBackWordWrong : ChangeSpec := { name := "fnExactBackWord", fn := fun _ => fun
  | [d] => { results := [.lit (.bool false)], args := [d] }
  | _ => none }
def FnExactBackWordWrongFalsely : Prop := fnExactBackWordRow.holds Try.pinned (OpenSpec.ofChange fnExactBackWordWrong)

/-- 'laws.FnExactDieText': WHATEVER THE INPUT: true; the input reads as it did. -/
def fnExactDieTextSpec : ChangeSpec := { name := "fnExactDieText", fn := fun _ => fun
  | [d] => { results := [.lit (.bool true)], args := [d] }
  | _ => none }
def fnExactDieTextRow : OpenClaim := { program := "ytniodfailfiagaa", sum := "c163962c359112ea7cad40e6e3b476c2eb681c63dba423168893ddf65cd4d626", func := "loop.example/g01207/laws.FnExactDieText", spec := "fnExactDieText", recurses := true, plainKeys := false, apart := false }
def FnExactDieTextSaid : Prop := fnExactDieTextRow.holds Try.pinned (OpenSpec.ofChange fnExactDieTextSpec)

/-- ITS FALSE NEIGHBOUR: 'it returns false'. Refute it at one input. -/
def fnExactDieTextWrong : ChangeSpec := { name := "fnExactDieText", fn := fun _ => fun
  | [d] => { results := [.lit (.bool false)], args := [d] }
  | _ => none }
def FnExactDieTextWrongFalsely : Prop := fnExactDieTextRow.holds Try.pinned (OpenSpec.ofChange fnExactDieTextWrong)

/-- 'laws.FnExactParseDie': WHATEVER THE INPUT: true; the input reads as it did. -/
def fnExactParseDieSpec : ChangeSpec := { name := "fnExactParseDie", fn := fun _ => fun
  | [d] => { results := [.lit (.bool true)], args := [d] }
  | _ => none }
def fnExactParseDieRow : OpenClaim := { program := "ytniodfailfiagaa", sum := "c163962c359112ea7cad40e6e3b476c2eb681c63dba423168893ddf65cd4d626", func := "loop.example/g01207/laws.FnExactParseDie", spec := "fnExactParseDie", plainKeys := false, apart := false }
def FnExactParseDieSaid : Prop := fnExactParseDieRow.holds Try.pinned (OpenSpec.ofChange fnExactParseDieSpec)

/-- ITS FALSE NEIGHBOUR: 'it returns false'. Refute it at one input. -/
def fnExactParseDieWrong : ChangeSpec := { name := "fnExactParseDie", fn := fun _ => fun
  | [d] => { results := [.lit (.bool false)], args := [d] }
  | _ => none }
def FnExactParseDieWrongFalsely : Prop := fnExactParseDieRow.holds Try.pinned (OpenSpec.ofChange fnExactParseDieWrong)

/-- 'laws.FnExactCountWays': WHATEVER THE INPUT: true; the input reads as it did. -/
def fnExactCountWaysSpec : ChangeSpec := { name := "fnExactCountWays", fn := fun _ => fun
  | [d] => { results := [.lit (.bool true)], args := [d] }
  | _ => none }
def fnExactCountWaysRow : OpenClaim := { program := "ytniodfailfiagaa", sum := "c163962c359112ea7cad40e6e3b476c2eb681c63dba423168893ddf65cd4d626", func := "loop.example/g01207/laws.FnExactCountWays", spec := "fnExactCountWays", plainKeys := false, apart := false }
def FnExactCountWaysSaid : Prop := fnExactCountWaysRow.holds Try.pinned (OpenSpec.ofChange fnExactCountWaysSpec)

/-- ITS FALSE NEIGHBOUR: 'it returns false'. Refute it at one input. -/
def fnExactCountWaysWrong : ChangeSpec := { name := "fnExactCountWays", fn := fun _ => fun
  | [d] => { results := [.lit (.bool false)], args := [d] }
  | _ => none }
def FnExactCountWaysWrongFalsely : Prop := fnExactCountWaysRow.holds Try.pinned (OpenSpec.ofChange fnExactCountWaysWrong)

/-- 'laws.FnExactTurnOfWay': WHATEVER THE INPUT: true; the input reads as it did. -/
def fnExactTurnOfWaySpec : ChangeSpec := { name := "fnExactTurnOfWay", fn := fun _ => fun
  | [d] => { results := [.lit (.bool true)], args := [d] }
  | _ => none }
def fnExactTurnOfWayRow : OpenClaim := { program := "ytniodfailfiagaa", sum := "c163962c359112ea7cad40e6e3b476c2eb681c63dba423168893ddf65cd4d626", func := "loop.example/g01207/laws.FnExactTurnOfWay", spec := "fnExactTurnOfWay", inPlace := ["internal/bytealg.CountString", "internal/bytealg.IndexByteString", "internal/bytealg.IndexString"], named := ["internal/bytealg.MaxLen"], plainKeys := false, apart := false }
def FnExactTurnOfWaySaid : Prop := fnExactTurnOfWayRow.holds Try.pinned (OpenSpec.ofChange fnExactTurnOfWaySpec)

/-- ITS FALSE NEIGHBOUR: 'it returns false'. Refute it at one input. -/
def fnExactTurnOfWayWrong : ChangeSpec := { name := "fnExactTurnOfWay", fn := fun _ => fun
  | [d] => { results := [.lit (.bool false)], args := [d] }
  | _ => none }
def FnExactTurnOfWayWrongFalsely : Prop := fnExactTurnOfWayRow.holds Try.pinned (OpenSpec.ofChange fnExactTurnOfWayWrong)

/-- 'laws.FnExactIsEvenDie': WHATEVER THE INPUT: true; the input reads as it did. -/
def fnExactIsEvenDieSpec : ChangeSpec := { name := "fnExactIsEvenDie", fn := fun _ => fun
  | [d1, d2] => { results := [.lit (.bool true)], args := [d1, d2] }
  | _ => none }
def fnExactIsEvenDieRow : OpenClaim := { program := "ytniodfailfiagaa", sum := "c163962c359112ea7cad40e6e3b476c2eb681c63dba423168893ddf65cd4d626", func := "loop.example/g01207/laws.FnExactIsEvenDie", spec := "fnExactIsEvenDie", recurses := true, plainKeys := false, apart := false }
def FnExactIsEvenDieSaid : Prop := fnExactIsEvenDieRow.holds Try.pinned (OpenSpec.ofChange fnExactIsEvenDieSpec)

/-- ITS FALSE NEIGHBOUR: 'it returns false'. Refute it at one input. -/
def fnExactIsEvenDieWrong : ChangeSpec := { name := "fnExactIsEvenDie", fn := fun _ => fun
  | [d1, d2] => { results := [.lit (.bool false)], args := [d1, d2] }
  | _ => none }
def FnExactIsEvenDieWrongFalsely : Prop := fnExactIsEvenDieRow.holds Try.pinned (OpenSpec.ofChange fnExactIsEvenDieWrong)

/-- 'laws.FnExactParityOfState': WHATEVER THE INPUT: true; the input reads as it did. -/
def fnExactParityOfStateSpec : ChangeSpec := { name := "fnExactParityOfState", fn := fun _ => fun
  | [d1, d2] => { results := [.lit (.bool true)], args := [d1, d2] }
  | _ => none }
def fnExactParityOfStateRow : OpenClaim := { program := "ytniodfailfiagaa", sum := "c163962c359112ea7cad40e6e3b476c2eb681c63dba423168893ddf65cd4d626", func := "loop.example/g01207/laws.FnExactParityOfState", spec := "fnExactParityOfState", recurses := true, plainKeys := false, apart := false }
def FnExactParityOfStateSaid : Prop := fnExactParityOfStateRow.holds Try.pinned (OpenSpec.ofChange fnExactParityOfStateSpec)

/-- ITS FALSE NEIGHBOUR: 'it returns false'. Refute it at one input. -/
def fnExactParityOfStateWrong : ChangeSpec := { name := "fnExactParityOfState", fn := fun _ => fun
  | [d1, d2] => { results := [.lit (.bool false)], args := [d1, d2] }
  | _ => none }
def FnExactParityOfStateWrongFalsely : Prop := fnExactParityOfStateRow.holds Try.pinned (OpenSpec.ofChange fnExactParityOfStateWrong)

/- THE SECOND FORM. 'bulk': how many values and letters a reading holds, each counted each time it is reached (what is shared counts as often as it is met; a slice's spare places count too). A statement '..UptoSaid' is the law's where the arguments, and the package variables that the reading takes, are together of bulk at most 1048576: NARROWER than '..Said'. Prove '..Said' where nothing that the law and all that it calls make is longer than what came in: it says more and counts as full. Else prove '..UptoSaid'. A law counts once. -/
mutual
def uptoBulk {H : Type} : DataW H → Nat
  | .lit (.string bytes) => bytes.length + 1
  | .lit _ => 1
  | .nil => 1
  | .ptr d => uptoBulk d + 1
  | .slice elems spare => uptoBulkAll elems + uptoBulkAll spare + 1
  | .agg parts => uptoBulkAll parts + 1
  | .iface _ d => uptoBulk d + 1
  | .map entries => uptoBulkEntries entries + 1
  | .held _ => 1
def uptoBulkAll {H : Type} : List (DataW H) → Nat
  | [] => 0
  | d :: r => uptoBulk d + uptoBulkAll r
def uptoBulkEntries {H : Type} : List (Lit × DataW H) → Nat
  | [] => 0
  | x :: r => uptoBulkEntry x + uptoBulkEntries r
def uptoBulkEntry {H : Type} : Lit × DataW H → Nat
  | (.string bytes, d) => bytes.length + uptoBulk d + 1
  | (_, d) => uptoBulk d + 1
 end
def uptoSmall : (H : Type) → List (DataW H) → Bool := fun _ ds => decide (uptoBulkAll ds ≤ 1048576)
def OpenSpec.upto (s : _root_.Go.ChangeSpec) : _root_.Go.OpenSpec := { _root_.Go.OpenSpec.ofChange s with cond := some uptoSmall }

/-- 'laws.FnExactIsClosedWay', WHERE WHAT IT READS IS OF BULK AT MOST 1048576: true; the input reads as it did. -/
def fnExactIsClosedWayUptoRow : OpenClaim := { program := "ytniodfailfiagaa", sum := "c163962c359112ea7cad40e6e3b476c2eb681c63dba423168893ddf65cd4d626", func := "loop.example/g01207/laws.FnExactIsClosedWay", spec := "fnExactIsClosedWay", inPlace := ["internal/bytealg.IndexByteString", "internal/bytealg.CountString", "internal/bytealg.IndexString"], named := ["internal/bytealg.MaxLen"], plainKeys := false, apart := false, narrowed := true }
def FnExactIsClosedWayUptoSaid : Prop := fnExactIsClosedWayUptoRow.holds Try.pinned (OpenSpec.upto fnExactIsClosedWaySpec)

/-- 'laws.FnExactTurnRolls', WHERE WHAT IT READS IS OF BULK AT MOST 1048576: true; the input reads as it did. -/
def fnExactTurnRollsUptoRow : OpenClaim := { program := "ytniodfailfiagaa", sum := "c163962c359112ea7cad40e6e3b476c2eb681c63dba423168893ddf65cd4d626", func := "loop.example/g01207/laws.FnExactTurnRolls", spec := "fnExactTurnRolls", inPlace := ["internal/bytealg.IndexByteString"], plainKeys := false, apart := false, narrowed := true }
def FnExactTurnRollsUptoSaid : Prop := fnExactTurnRollsUptoRow.holds Try.pinned (OpenSpec.upto fnExactTurnRollsSpec)

/-- 'laws.FnExactBackWord', WHERE WHAT IT READS IS OF BULK AT MOST 1048576: true; the input reads as it did. -/
def fnExactBackWordUptoRow : OpenClaim := { program := "ytniodfailfiagaa", sum := "c163962c359112ea7cad40e6e3b476c2eb681c63dba423168893ddf65cd4d626", func := "loop.example/g01207/laws.FnExactBackWord", spec := "fnExactBackWord", inPlace := ["internal/bytealg.IndexByteString"], plainKeys := false, apart := false, narrowed := true }
def FnExactBackWordUptoSaid : Prop := fnExactBackWordUptoRow.holds Try.pinned (OpenSpec.upto fnExactBackWordSpec)

/-- 'laws.FnExactDieText', WHERE WHAT IT READS IS OF BULK AT MOST 1048576: true; the input reads as it did. -/
def fnExactDieTextUptoRow : OpenClaim := { program := "ytniodfailfiagaa", sum := "c163962c359112ea7cad40e6e3b476c2eb681c63dba423168893ddf65cd4d626", func := "loop.example/g01207/laws.FnExactDieText", spec := "fnExactDieText", recurses := true, plainKeys := false, apart := false, narrowed := true }
def FnExactDieTextUptoSaid : Prop := fnExactDieTextUptoRow.holds Try.pinned (OpenSpec.upto fnExactDieTextSpec)

/-- 'laws.FnExactParseDie', WHERE WHAT IT READS IS OF BULK AT MOST 1048576: true; the input reads as it did. -/
def fnExactParseDieUptoRow : OpenClaim := { program := "ytniodfailfiagaa", sum := "c163962c359112ea7cad40e6e3b476c2eb681c63dba423168893ddf65cd4d626", func := "loop.example/g01207/laws.FnExactParseDie", spec := "fnExactParseDie", plainKeys := false, apart := false, narrowed := true }
def FnExactParseDieUptoSaid : Prop := fnExactParseDieUptoRow.holds Try.pinned (OpenSpec.upto fnExactParseDieSpec)

/-- 'laws.FnExactCountWays', WHERE WHAT IT READS IS OF BULK AT MOST 1048576: true; the input reads as it did. -/
def fnExactCountWaysUptoRow : OpenClaim := { program := "ytniodfailfiagaa", sum := "c163962c359112ea7cad40e6e3b476c2eb681c63dba423168893ddf65cd4d626", func := "loop.example/g01207/laws.FnExactCountWays", spec := "fnExactCountWays", plainKeys := false, apart := false, narrowed := true }
def FnExactCountWaysUptoSaid : Prop := fnExactCountWaysUptoRow.holds Try.pinned (OpenSpec.upto fnExactCountWaysSpec)

/-- 'laws.FnExactTurnOfWay', WHERE WHAT IT READS IS OF BULK AT MOST 1048576: true; the input reads as it did. -/
def fnExactTurnOfWayUptoRow : OpenClaim := { program := "ytniodfailfiagaa", sum := "c163962c359112ea7cad40e6e3b476c2eb681c63dba423168893ddf65cd4d626", func := "loop.example/g01207/laws.FnExactTurnOfWay", spec := "fnExactTurnOfWay", inPlace := ["internal/bytealg.CountString", "internal/bytealg.IndexByteString", "internal/bytealg.IndexString"], named := ["internal/bytealg.MaxLen"], plainKeys := false, apart := false, narrowed := true }
def FnExactTurnOfWayUptoSaid : Prop := fnExactTurnOfWayUptoRow.holds Try.pinned (OpenSpec.upto fnExactTurnOfWaySpec)

/-- 'laws.FnExactIsEvenDie', WHERE WHAT IT READS IS OF BULK AT MOST 1048576: true; the input reads as it did. -/
def fnExactIsEvenDieUptoRow : OpenClaim := { program := "ytniodfailfiagaa", sum := "c163962c359112ea7cad40e6e3b476c2eb681c63dba423168893ddf65cd4d626", func := "loop.example/g01207/laws.FnExactIsEvenDie", spec := "fnExactIsEvenDie", recurses := true, plainKeys := false, apart := false, narrowed := true }
def FnExactIsEvenDieUptoSaid : Prop := fnExactIsEvenDieUptoRow.holds Try.pinned (OpenSpec.upto fnExactIsEvenDieSpec)

/-- 'laws.FnExactParityOfState', WHERE WHAT IT READS IS OF BULK AT MOST 1048576: true; the input reads as it did. -/
def fnExactParityOfStateUptoRow : OpenClaim := { program := "ytniodfailfiagaa", sum := "c163962c359112ea7cad40e6e3b476c2eb681c63dba423168893ddf65cd4d626", func := "loop.example/g01207/laws.FnExactParityOfState", spec := "fnExactParityOfState", recurses := true, plainKeys := false, apart := false, narrowed := true }
def FnExactParityOfStateUptoSaid : Prop := fnExactParityOfStateUptoRow.holds Try.pinned (OpenSpec.upto fnExactParityOfStateSpec)

end Rows
end Go.Proofs.Ytniodfailfiagaa
