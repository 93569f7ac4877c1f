/-
  No cell of these rows narrows 'for every input' (looked for: loops, veiled, ifaces, maps, wideKeys, modest, calm, conditions, laid).
  DERIVED. THE GIVEN ROWS OF THIS SEAT. 8 by the template 'for every input the law returns true; each argument reads behind the call as it read before'; 0 by the template 'total and deterministic' (their statements: YtphcaikggfmpaaaTotals.lean).
  GIVEN WITH THE SEED: the statements are not yours to turn. If you find one false, say at which input.
  Laid BY PROGRAM, IN A SANDBOX (cutbox-rows.mjs): the forced cells as the released guide's own fill.sh prints them over the translation 4d0af80ed92e7be4… (all of the seat's roots in one cut). By AI agents, Wed Nov 11 2026. No macro, syntax, notation, axiom, sorry.
-/
import Derived.Test.YtphcaikggfmpaaaChecked
import GoSem.Claim
import GoSem.ClaimJoined
import GoSem.ClaimMapViews
import Derived.JoinedTies
import Derived.KernelRfl
namespace Go.Proofs.Ytphcaikggfmpaaa
/- THE CELL 'sum', in the pinned program and in every row, IS THE sha256 OF THE DUMP (.gsa) THAT YtphcaikggfmpaaaProg.lean LOADS. Nothing in Lean hashes anything: it is a label: what it is worth is what the hold of that sum in a sandbox is worth. -/
noncomputable def Try.pinned : Pinned := { name := "ytphcaikggfmpaaa", sum := "4d0af80ed92e7be44c2ed961322b56d1d335ab4aae8ce585c00553286e6cf7dc", checked := Try.checked }
namespace Rows
def none {H : Type} : Left H := { results := [], args := [] }

/-- 'laws.FnExactRollDie': WHATEVER THE INPUT: true; the input reads as it did. -/
def fnExactRollDieSpec : ChangeSpec := { name := "fnExactRollDie", fn := fun _ => fun
  | [d1, d2] => { results := [.lit (.bool true)], args := [d1, d2] }
  | _ => none }
def fnExactRollDieRow : OpenClaim := { program := "ytphcaikggfmpaaa", sum := "4d0af80ed92e7be44c2ed961322b56d1d335ab4aae8ce585c00553286e6cf7dc", func := "loop.example/g01207/laws.FnExactRollDie", spec := "fnExactRollDie", inPlace := ["internal/bytealg.IndexByteString"], apart := false }
def FnExactRollDieSaid : Prop := fnExactRollDieRow.holds Try.pinned (OpenSpec.ofChange fnExactRollDieSpec)

/-- ITS FALSE NEIGHBOUR: 'it returns false'. Refute it at one input. -/
def fnExactRollDieWrong : ChangeSpec := { name := "fnExactRollDie", fn := fun _ => fun
  | [d1, d2] => { results := [.lit (.bool false)], args := [d1, d2] }
  | _ => none }
def FnExactRollDieWrongFalsely : Prop := fnExactRollDieRow.holds Try.pinned (OpenSpec.ofChange fnExactRollDieWrong)

/-- 'laws.FnExactIsRolls': WHATEVER THE INPUT: true; the input reads as it did. -/
def fnExactIsRollsSpec : ChangeSpec := { name := "fnExactIsRolls", fn := fun _ => fun
  | [d] => { results := [.lit (.bool true)], args := [d] }
  | _ => none }
def fnExactIsRollsRow : OpenClaim := { program := "ytphcaikggfmpaaa", sum := "4d0af80ed92e7be44c2ed961322b56d1d335ab4aae8ce585c00553286e6cf7dc", func := "loop.example/g01207/laws.FnExactIsRolls", spec := "fnExactIsRolls", inPlace := ["internal/bytealg.IndexByteString"], apart := false }
def FnExactIsRollsSaid : Prop := fnExactIsRollsRow.holds Try.pinned (OpenSpec.ofChange fnExactIsRollsSpec)

/-- ITS FALSE NEIGHBOUR: 'it returns false'. Refute it at one input. -/
def fnExactIsRollsWrong : ChangeSpec := { name := "fnExactIsRolls", fn := fun _ => fun
  | [d] => { results := [.lit (.bool false)], args := [d] }
  | _ => none }
def FnExactIsRollsWrongFalsely : Prop := fnExactIsRollsRow.holds Try.pinned (OpenSpec.ofChange fnExactIsRollsWrong)

/-- 'laws.FnExactRollWord': WHATEVER THE INPUT: true; the input reads as it did. -/
def fnExactRollWordSpec : ChangeSpec := { name := "fnExactRollWord", fn := fun _ => fun
  | [d1, d2] => { results := [.lit (.bool true)], args := [d1, d2] }
  | _ => none }
def fnExactRollWordRow : OpenClaim := { program := "ytphcaikggfmpaaa", sum := "4d0af80ed92e7be44c2ed961322b56d1d335ab4aae8ce585c00553286e6cf7dc", func := "loop.example/g01207/laws.FnExactRollWord", spec := "fnExactRollWord", inPlace := ["internal/bytealg.IndexByteString"], apart := false }
def FnExactRollWordSaid : Prop := fnExactRollWordRow.holds Try.pinned (OpenSpec.ofChange fnExactRollWordSpec)

/-- ITS FALSE NEIGHBOUR: 'it returns false'. Refute it at one input. -/
def fnExactRollWordWrong : ChangeSpec := { name := "fnExactRollWord", fn := fun _ => fun
  | [d1, d2] => { results := [.lit (.bool false)], args := [d1, d2] }
  | _ => none }
def FnExactRollWordWrongFalsely : Prop := fnExactRollWordRow.holds Try.pinned (OpenSpec.ofChange fnExactRollWordWrong)

/-- 'laws.FnExactBackWord': WHATEVER THE INPUT: true; the input reads as it did. -/
def fnExactBackWordSpec : ChangeSpec := { name := "fnExactBackWord", fn := fun _ => fun
  | [d] => { results := [.lit (.bool true)], args := [d] }
  | _ => none }
def fnExactBackWordRow : OpenClaim := { program := "ytphcaikggfmpaaa", sum := "4d0af80ed92e7be44c2ed961322b56d1d335ab4aae8ce585c00553286e6cf7dc", func := "loop.example/g01207/laws.FnExactBackWord", spec := "fnExactBackWord", inPlace := ["internal/bytealg.IndexByteString"], apart := false }
def FnExactBackWordSaid : Prop := fnExactBackWordRow.holds Try.pinned (OpenSpec.ofChange fnExactBackWordSpec)

/-- ITS FALSE NEIGHBOUR: 'it returns false'. Refute it at one input. -/
def fnExactBackWordWrong : ChangeSpec := { name := "fnExactBackWord", fn := fun _ => fun
  | [d] => { results := [.lit (.bool false)], args := [d] }
  | _ => none }
def FnExactBackWordWrongFalsely : Prop := fnExactBackWordRow.holds Try.pinned (OpenSpec.ofChange fnExactBackWordWrong)

/-- 'laws.FnExactOrderOfRolls': WHATEVER THE INPUT: true; the input reads as it did. -/
def fnExactOrderOfRollsSpec : ChangeSpec := { name := "fnExactOrderOfRolls", fn := fun _ => fun
  | [d] => { results := [.lit (.bool true)], args := [d] }
  | _ => none }
def fnExactOrderOfRollsRow : OpenClaim := { program := "ytphcaikggfmpaaa", sum := "4d0af80ed92e7be44c2ed961322b56d1d335ab4aae8ce585c00553286e6cf7dc", func := "loop.example/g01207/laws.FnExactOrderOfRolls", spec := "fnExactOrderOfRolls", inPlace := ["internal/bytealg.IndexByteString"], apart := false }
def FnExactOrderOfRollsSaid : Prop := fnExactOrderOfRollsRow.holds Try.pinned (OpenSpec.ofChange fnExactOrderOfRollsSpec)

/-- ITS FALSE NEIGHBOUR: 'it returns false'. Refute it at one input. -/
def fnExactOrderOfRollsWrong : ChangeSpec := { name := "fnExactOrderOfRolls", fn := fun _ => fun
  | [d] => { results := [.lit (.bool false)], args := [d] }
  | _ => none }
def FnExactOrderOfRollsWrongFalsely : Prop := fnExactOrderOfRollsRow.holds Try.pinned (OpenSpec.ofChange fnExactOrderOfRollsWrong)

/-- 'laws.FnExactAreSameRolls': WHATEVER THE INPUT: true; the input reads as it did. -/
def fnExactAreSameRollsSpec : ChangeSpec := { name := "fnExactAreSameRolls", fn := fun _ => fun
  | [d1, d2] => { results := [.lit (.bool true)], args := [d1, d2] }
  | _ => none }
def fnExactAreSameRollsRow : OpenClaim := { program := "ytphcaikggfmpaaa", sum := "4d0af80ed92e7be44c2ed961322b56d1d335ab4aae8ce585c00553286e6cf7dc", func := "loop.example/g01207/laws.FnExactAreSameRolls", spec := "fnExactAreSameRolls", inPlace := ["internal/bytealg.IndexByteString"], apart := false }
def FnExactAreSameRollsSaid : Prop := fnExactAreSameRollsRow.holds Try.pinned (OpenSpec.ofChange fnExactAreSameRollsSpec)

/-- ITS FALSE NEIGHBOUR: 'it returns false'. Refute it at one input. -/
def fnExactAreSameRollsWrong : ChangeSpec := { name := "fnExactAreSameRolls", fn := fun _ => fun
  | [d1, d2] => { results := [.lit (.bool false)], args := [d1, d2] }
  | _ => none }
def FnExactAreSameRollsWrongFalsely : Prop := fnExactAreSameRollsRow.holds Try.pinned (OpenSpec.ofChange fnExactAreSameRollsWrong)

/-- 'laws.FnExactIsClosedWay': WHATEVER THE INPUT: true; the input reads as it did. -/
def fnExactIsClosedWaySpec : ChangeSpec := { name := "fnExactIsClosedWay", fn := fun _ => fun
  | [d] => { results := [.lit (.bool true)], args := [d] }
  | _ => none }
def fnExactIsClosedWayRow : OpenClaim := { program := "ytphcaikggfmpaaa", sum := "4d0af80ed92e7be44c2ed961322b56d1d335ab4aae8ce585c00553286e6cf7dc", func := "loop.example/g01207/laws.FnExactIsClosedWay", spec := "fnExactIsClosedWay", inPlace := ["internal/bytealg.IndexByteString", "internal/bytealg.CountString", "internal/bytealg.IndexString"], named := ["internal/bytealg.MaxLen"], apart := false }
def FnExactIsClosedWaySaid : Prop := fnExactIsClosedWayRow.holds Try.pinned (OpenSpec.ofChange fnExactIsClosedWaySpec)

/-- ITS FALSE NEIGHBOUR: 'it returns false'. Refute it at one input. -/
def fnExactIsClosedWayWrong : ChangeSpec := { name := "fnExactIsClosedWay", fn := fun _ => fun
  | [d] => { results := [.lit (.bool false)], args := [d] }
  | _ => none }
def FnExactIsClosedWayWrongFalsely : Prop := fnExactIsClosedWayRow.holds Try.pinned (OpenSpec.ofChange fnExactIsClosedWayWrong)

/-- 'laws.FnExactTurnRolls': WHATEVER THE INPUT: true; the input reads as it did. -/
def fnExactTurnRollsSpec : ChangeSpec := { name := "fnExactTurnRolls", fn := fun _ => fun
  | [d] => { results := [.lit (.bool true)], args := [d] }
  | _ => none }
def fnExactTurnRollsRow : OpenClaim := { program := "ytphcaikggfmpaaa", sum := "4d0af80ed92e7be44c2ed961322b56d1d335ab4aae8ce585c00553286e6cf7dc", func := "loop.example/g01207/laws.FnExactTurnRolls", spec := "fnExactTurnRolls", inPlace := ["internal/bytealg.IndexByteString"], apart := false }
def FnExactTurnRollsSaid : Prop := fnExactTurnRollsRow.holds Try.pinned (OpenSpec.ofChange fnExactTurnRollsSpec)

/-- ITS FALSE NEIGHBOUR: 'it returns false'. Refute it at one input. -/
def fnExactTurnRollsWrong : ChangeSpec := { name := "fnExactTurnRolls", fn := fun _ => fun
  | [d] => { results := [.lit (.bool false)], args := [d] }
  | _ => none }
def FnExactTurnRollsWrongFalsely : Prop := fnExactTurnRollsRow.holds Try.pinned (OpenSpec.ofChange fnExactTurnRollsWrong)

/- THE SECOND FORM. 'bulk': how many values and letters a reading holds, each counted each time it is reached (what is shared counts as often as it is met; a slice's spare places count too). A statement '..UptoSaid' is the law's where the arguments, and the package variables that the reading takes, are together of bulk at most 1048576: NARROWER than '..Said'. Prove '..Said' where nothing that the law and all that it calls make is longer than what came in: it says more and counts as full. Else prove '..UptoSaid'. A law counts once. -/
mutual
def uptoBulk {H : Type} : DataW H → Nat
  | .lit (.string bytes) => bytes.length + 1
  | .lit _ => 1
  | .nil => 1
  | .ptr d => uptoBulk d + 1
  | .slice elems spare => uptoBulkAll elems + uptoBulkAll spare + 1
  | .agg parts => uptoBulkAll parts + 1
  | .iface _ d => uptoBulk d + 1
  | .map entries => uptoBulkEntries entries + 1
  | .held _ => 1
def uptoBulkAll {H : Type} : List (DataW H) → Nat
  | [] => 0
  | d :: r => uptoBulk d + uptoBulkAll r
def uptoBulkEntries {H : Type} : List (Lit × DataW H) → Nat
  | [] => 0
  | x :: r => uptoBulkEntry x + uptoBulkEntries r
def uptoBulkEntry {H : Type} : Lit × DataW H → Nat
  | (.string bytes, d) => bytes.length + uptoBulk d + 1
  | (_, d) => uptoBulk d + 1
 end
def uptoSmall : (H : Type) → List (DataW H) → Bool := fun _ ds => decide (uptoBulkAll ds ≤ 1048576)
def OpenSpec.upto (s : _root_.Go.ChangeSpec) : _root_.Go.OpenSpec := { _root_.Go.OpenSpec.ofChange s with cond := some uptoSmall }

/-- 'laws.FnExactRollDie', WHERE WHAT IT READS IS OF BULK AT MOST 1048576: true; the input reads as it did. -/
def fnExactRollDieUptoRow : OpenClaim := { program := "ytphcaikggfmpaaa", sum := "4d0af80ed92e7be44c2ed961322b56d1d335ab4aae8ce585c00553286e6cf7dc", func := "loop.example/g01207/laws.FnExactRollDie", spec := "fnExactRollDie", inPlace := ["internal/bytealg.IndexByteString"], apart := false, narrowed := true }
def FnExactRollDieUptoSaid : Prop := fnExactRollDieUptoRow.holds Try.pinned (OpenSpec.upto fnExactRollDieSpec)

/-- 'laws.FnExactIsRolls', WHERE WHAT IT READS IS OF BULK AT MOST 1048576: true; the input reads as it did. -/
def fnExactIsRollsUptoRow : OpenClaim := { program := "ytphcaikggfmpaaa", sum := "4d0af80ed92e7be44c2ed961322b56d1d335ab4aae8ce585c00553286e6cf7dc", func := "loop.example/g01207/laws.FnExactIsRolls", spec := "fnExactIsRolls", inPlace := ["internal/bytealg.IndexByteString"], apart := false, narrowed := true }
def FnExactIsRollsUptoSaid : Prop := fnExactIsRollsUptoRow.holds Try.pinned (OpenSpec.upto fnExactIsRollsSpec)

/-- 'laws.FnExactRollWord', WHERE WHAT IT READS IS OF BULK AT MOST 1048576: true; the input reads as it did. -/
def fnExactRollWordUptoRow : OpenClaim := { program := "ytphcaikggfmpaaa", sum := "4d0af80ed92e7be44c2ed961322b56d1d335ab4aae8ce585c00553286e6cf7dc", func := "loop.example/g01207/laws.FnExactRollWord", spec := "fnExactRollWord", inPlace := ["internal/bytealg.IndexByteString"], apart := false, narrowed := true }
def FnExactRollWordUptoSaid : Prop := fnExactRollWordUptoRow.holds Try.pinned (OpenSpec.upto fnExactRollWordSpec)

/-- 'laws.FnExactBackWord', WHERE WHAT IT READS IS OF BULK AT MOST 1048576: true; the input reads as it did. -/
def fnExactBackWordUptoRow : OpenClaim := { program := "ytphcaikggfmpaaa", sum := "4d0af80ed92e7be44c2ed961322b56d1d335ab4aae8ce585c00553286e6cf7dc", func := "loop.example/g01207/laws.FnExactBackWord", spec := "fnExactBackWord", inPlace := ["internal/bytealg.IndexByteString"], apart := false, narrowed := true }
def FnExactBackWordUptoSaid : Prop := fnExactBackWordUptoRow.holds Try.pinned (OpenSpec.upto fnExactBackWordSpec)

/-- 'laws.FnExactOrderOfRolls', WHERE WHAT IT READS IS OF BULK AT MOST 1048576: true; the input reads as it did. -/
def fnExactOrderOfRollsUptoRow : OpenClaim := { program := "ytphcaikggfmpaaa", sum := "4d0af80ed92e7be44c2ed961322b56d1d335ab4aae8ce585c00553286e6cf7dc", func := "loop.example/g01207/laws.FnExactOrderOfRolls", spec := "fnExactOrderOfRolls", inPlace := ["internal/bytealg.IndexByteString"], apart := false, narrowed := true }
def FnExactOrderOfRollsUptoSaid : Prop := fnExactOrderOfRollsUptoRow.holds Try.pinned (OpenSpec.upto fnExactOrderOfRollsSpec)

/-- 'laws.FnExactAreSameRolls', WHERE WHAT IT READS IS OF BULK AT MOST 1048576: true; the input reads as it did. -/
def fnExactAreSameRollsUptoRow : OpenClaim := { program := "ytphcaikggfmpaaa", sum := "4d0af80ed92e7be44c2ed961322b56d1d335ab4aae8ce585c00553286e6cf7dc", func := "loop.example/g01207/laws.FnExactAreSameRolls", spec := "fnExactAreSameRolls", inPlace := ["internal/bytealg.IndexByteString"], apart := false, narrowed := true }
def FnExactAreSameRollsUptoSaid : Prop := fnExactAreSameRollsUptoRow.holds Try.pinned (OpenSpec.upto fnExactAreSameRollsSpec)

/-- 'laws.FnExactIsClosedWay', WHERE WHAT IT READS IS OF BULK AT MOST 1048576: true; the input reads as it did. -/
def fnExactIsClosedWayUptoRow : OpenClaim := { program := "ytphcaikggfmpaaa", sum := "4d0af80ed92e7be44c2ed961322b56d1d335ab4aae8ce585c00553286e6cf7dc", func := "loop.example/g01207/laws.FnExactIsClosedWay", spec := "fnExactIsClosedWay", inPlace := ["internal/bytealg.IndexByteString", "internal/bytealg.CountString", "internal/bytealg.IndexString"], named := ["internal/bytealg.MaxLen"], apart := false, narrowed := true }
def FnExactIsClosedWayUptoSaid : Prop := fnExactIsClosedWayUptoRow.holds Try.pinned (OpenSpec.upto fnExactIsClosedWaySpec)

/-- 'laws.FnExactTurnRolls', WHERE WHAT IT READS IS OF BULK AT MOST 1048576: true; the input reads as it did. -/
def fnExactTurnRollsUptoRow : OpenClaim := { program := "ytphcaikggfmpaaa", sum := "4d0af80ed92e7be44c2ed961322b56d1d335ab4aae8ce585c00553286e6cf7dc", func := "loop.example/g01207/laws.FnExactTurnRolls", spec := "fnExactTurnRolls", inPlace := ["internal/bytealg.IndexByteString"], apart := false, narrowed := true }
def FnExactTurnRollsUptoSaid : Prop := fnExactTurnRollsUptoRow.holds Try.pinned (OpenSpec.upto fnExactTurnRollsSpec)

end Rows
end Go.Proofs.Ytphcaikggfmpaaa
