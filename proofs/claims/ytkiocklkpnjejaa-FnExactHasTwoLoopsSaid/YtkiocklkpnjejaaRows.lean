/-
  No cell of these rows narrows 'for every input' (looked for: loops, veiled, ifaces, maps, wideKeys, modest, calm, conditions, laid).
  DERIVED. THE GIVEN ROWS OF THIS SEAT. 10 by the template 'for every input the law returns true; each argument reads behind the call as it read before'; 0 by the template 'total and deterministic' (their statements: YtkiocklkpnjejaaTotals.lean).
  GIVEN WITH THE SEED: the statements are not yours to turn. If you find one false, say at which input.
  Laid BY PROGRAM, IN A SANDBOX (cutbox-rows.mjs): the forced cells as the released guide's own fill.sh prints them over the translation 7ec5cd3eaee244a6… (all of the seat's roots in one cut). By AI agents, Wed Nov 11 2026. No macro, syntax, notation, axiom, sorry.
-/
import Derived.Test.YtkiocklkpnjejaaChecked
import GoSem.Claim
import GoSem.ClaimJoined
import GoSem.ClaimMapViews
import Derived.JoinedTies
import Derived.KernelRfl
namespace Go.Proofs.Ytkiocklkpnjejaa
/- THE CELL 'sum', in the pinned program and in every row, IS THE sha256 OF THE DUMP (.gsa) THAT YtkiocklkpnjejaaProg.lean LOADS. Nothing in Lean hashes anything: it is a label: what it is worth is what the hold of that sum in a sandbox is worth. -/
noncomputable def Try.pinned : Pinned := { name := "ytkiocklkpnjejaa", sum := "7ec5cd3eaee244a6d79abd0d0d4a7a2e0ca02fc353cc4e3f62c1799b2fc11142", checked := Try.checked }
namespace Rows
def none {H : Type} : Left H := { results := [], args := [] }

/-- 'laws.FnExactCountKept': WHATEVER THE INPUT: true; the input reads as it did. -/
def fnExactCountKeptSpec : ChangeSpec := { name := "fnExactCountKept", fn := fun _ => fun
  | [d1, d2] => { results := [.lit (.bool true)], args := [d1, d2] }
  | _ => none }
def fnExactCountKeptRow : OpenClaim := { program := "ytkiocklkpnjejaa", sum := "7ec5cd3eaee244a6d79abd0d0d4a7a2e0ca02fc353cc4e3f62c1799b2fc11142", func := "loop.example/g01207/laws.FnExactCountKept", spec := "fnExactCountKept", inPlace := ["internal/bytealg.IndexByteString"], unfollowed := true, recurses := true, apart := false }
def FnExactCountKeptSaid : Prop := fnExactCountKeptRow.holds Try.pinned (OpenSpec.ofChange fnExactCountKeptSpec)

/-- ITS FALSE NEIGHBOUR: 'it returns false'. Refute it at one input. -/
def fnExactCountKeptWrong : ChangeSpec := { name := "fnExactCountKept", fn := fun _ => fun
  | [d1, d2] => { results := [.lit (.bool false)], args := [d1, d2] }
  | _ => none }
def FnExactCountKeptWrongFalsely : Prop := fnExactCountKeptRow.holds Try.pinned (OpenSpec.ofChange fnExactCountKeptWrong)

/-- 'laws.FnExactColorsOf': WHATEVER THE INPUT: true; the input reads as it did. -/
def fnExactColorsOfSpec : ChangeSpec := { name := "fnExactColorsOf", fn := fun _ => fun
  | [d] => { results := [.lit (.bool true)], args := [d] }
  | _ => none }
def fnExactColorsOfRow : OpenClaim := { program := "ytkiocklkpnjejaa", sum := "7ec5cd3eaee244a6d79abd0d0d4a7a2e0ca02fc353cc4e3f62c1799b2fc11142", func := "loop.example/g01207/laws.FnExactColorsOf", spec := "fnExactColorsOf", apart := false }
def FnExactColorsOfSaid : Prop := fnExactColorsOfRow.holds Try.pinned (OpenSpec.ofChange fnExactColorsOfSpec)

/-- ITS FALSE NEIGHBOUR: 'it returns false'. Refute it at one input. -/
def fnExactColorsOfWrong : ChangeSpec := { name := "fnExactColorsOf", fn := fun _ => fun
  | [d] => { results := [.lit (.bool false)], args := [d] }
  | _ => none }
def FnExactColorsOfWrongFalsely : Prop := fnExactColorsOfRow.holds Try.pinned (OpenSpec.ofChange fnExactColorsOfWrong)

/-- 'laws.FnExactFaceCycles': WHATEVER THE INPUT: true; the input reads as it did. -/
def fnExactFaceCyclesSpec : ChangeSpec := { name := "fnExactFaceCycles", fn := fun _ => fun
  | [d] => { results := [.lit (.bool true)], args := [d] }
  | _ => none }
def fnExactFaceCyclesRow : OpenClaim := { program := "ytkiocklkpnjejaa", sum := "7ec5cd3eaee244a6d79abd0d0d4a7a2e0ca02fc353cc4e3f62c1799b2fc11142", func := "loop.example/g01207/laws.FnExactFaceCycles", spec := "fnExactFaceCycles", inPlace := ["internal/bytealg.IndexByteString"], recurses := true, apart := false }
def FnExactFaceCyclesSaid : Prop := fnExactFaceCyclesRow.holds Try.pinned (OpenSpec.ofChange fnExactFaceCyclesSpec)

/-- ITS FALSE NEIGHBOUR: 'it returns false'. Refute it at one input. -/
def fnExactFaceCyclesWrong : ChangeSpec := { name := "fnExactFaceCycles", fn := fun _ => fun
  | [d] => { results := [.lit (.bool false)], args := [d] }
  | _ => none }
def FnExactFaceCyclesWrongFalsely : Prop := fnExactFaceCyclesRow.holds Try.pinned (OpenSpec.ofChange fnExactFaceCyclesWrong)

/-- 'laws.FnExactSidesOfTower': WHATEVER THE INPUT: true; the input reads as it did. -/
def fnExactSidesOfTowerSpec : ChangeSpec := { name := "fnExactSidesOfTower", fn := fun _ => fun
  | [d] => { results := [.lit (.bool true)], args := [d] }
  | _ => none }
def fnExactSidesOfTowerRow : OpenClaim := { program := "ytkiocklkpnjejaa", sum := "7ec5cd3eaee244a6d79abd0d0d4a7a2e0ca02fc353cc4e3f62c1799b2fc11142", func := "loop.example/g01207/laws.FnExactSidesOfTower", spec := "fnExactSidesOfTower", unfollowed := true, recurses := true, apart := false }
def FnExactSidesOfTowerSaid : Prop := fnExactSidesOfTowerRow.holds Try.pinned (OpenSpec.ofChange fnExactSidesOfTowerSpec)

/-- ITS FALSE NEIGHBOUR: 'it returns false'. Refute it at one input. -/
def fnExactSidesOfTowerWrong : ChangeSpec := { name := "fnExactSidesOfTower", fn := fun _ => fun
  | [d] => { results := [.lit (.bool false)], args := [d] }
  | _ => none }
def FnExactSidesOfTowerWrongFalsely : Prop := fnExactSidesOfTowerRow.holds Try.pinned (OpenSpec.ofChange fnExactSidesOfTowerWrong)

/-- 'laws.FnExactIsTower': WHATEVER THE INPUT: true; the input reads as it did. -/
def fnExactIsTowerSpec : ChangeSpec := { name := "fnExactIsTower", fn := fun _ => fun
  | [d] => { results := [.lit (.bool true)], args := [d] }
  | _ => none }
def fnExactIsTowerRow : OpenClaim := { program := "ytkiocklkpnjejaa", sum := "7ec5cd3eaee244a6d79abd0d0d4a7a2e0ca02fc353cc4e3f62c1799b2fc11142", func := "loop.example/g01207/laws.FnExactIsTower", spec := "fnExactIsTower", unfollowed := true, recurses := true, apart := false }
def FnExactIsTowerSaid : Prop := fnExactIsTowerRow.holds Try.pinned (OpenSpec.ofChange fnExactIsTowerSpec)

/-- ITS FALSE NEIGHBOUR: 'it returns false'. Refute it at one input. -/
def fnExactIsTowerWrong : ChangeSpec := { name := "fnExactIsTower", fn := fun _ => fun
  | [d] => { results := [.lit (.bool false)], args := [d] }
  | _ => none }
def FnExactIsTowerWrongFalsely : Prop := fnExactIsTowerRow.holds Try.pinned (OpenSpec.ofChange fnExactIsTowerWrong)

/-- 'laws.FnExactPairsOf': WHATEVER THE INPUT: true; the input reads as it did. -/
def fnExactPairsOfSpec : ChangeSpec := { name := "fnExactPairsOf", fn := fun _ => fun
  | [d] => { results := [.lit (.bool true)], args := [d] }
  | _ => none }
def fnExactPairsOfRow : OpenClaim := { program := "ytkiocklkpnjejaa", sum := "7ec5cd3eaee244a6d79abd0d0d4a7a2e0ca02fc353cc4e3f62c1799b2fc11142", func := "loop.example/g01207/laws.FnExactPairsOf", spec := "fnExactPairsOf", recurses := true, apart := false }
def FnExactPairsOfSaid : Prop := fnExactPairsOfRow.holds Try.pinned (OpenSpec.ofChange fnExactPairsOfSpec)

/-- ITS FALSE NEIGHBOUR: 'it returns false'. Refute it at one input. -/
def fnExactPairsOfWrong : ChangeSpec := { name := "fnExactPairsOf", fn := fun _ => fun
  | [d] => { results := [.lit (.bool false)], args := [d] }
  | _ => none }
def FnExactPairsOfWrongFalsely : Prop := fnExactPairsOfRow.holds Try.pinned (OpenSpec.ofChange fnExactPairsOfWrong)

/-- 'laws.FnExactCountLoops': WHATEVER THE INPUT: true; the input reads as it did. -/
def fnExactCountLoopsSpec : ChangeSpec := { name := "fnExactCountLoops", fn := fun _ => fun
  | [d] => { results := [.lit (.bool true)], args := [d] }
  | _ => none }
def fnExactCountLoopsRow : OpenClaim := { program := "ytkiocklkpnjejaa", sum := "7ec5cd3eaee244a6d79abd0d0d4a7a2e0ca02fc353cc4e3f62c1799b2fc11142", func := "loop.example/g01207/laws.FnExactCountLoops", spec := "fnExactCountLoops", unfollowed := true, recurses := true, apart := false }
def FnExactCountLoopsSaid : Prop := fnExactCountLoopsRow.holds Try.pinned (OpenSpec.ofChange fnExactCountLoopsSpec)

/-- ITS FALSE NEIGHBOUR: 'it returns false'. Refute it at one input. -/
def fnExactCountLoopsWrong : ChangeSpec := { name := "fnExactCountLoops", fn := fun _ => fun
  | [d] => { results := [.lit (.bool false)], args := [d] }
  | _ => none }
def FnExactCountLoopsWrongFalsely : Prop := fnExactCountLoopsRow.holds Try.pinned (OpenSpec.ofChange fnExactCountLoopsWrong)

/-- 'laws.FnExactAllLoops': WHATEVER THE INPUT: true; the input reads as it did. -/
def fnExactAllLoopsSpec : ChangeSpec := { name := "fnExactAllLoops", fn := fun _ => fun
  | [d] => { results := [.lit (.bool true)], args := [d] }
  | _ => none }
def fnExactAllLoopsRow : OpenClaim := { program := "ytkiocklkpnjejaa", sum := "7ec5cd3eaee244a6d79abd0d0d4a7a2e0ca02fc353cc4e3f62c1799b2fc11142", func := "loop.example/g01207/laws.FnExactAllLoops", spec := "fnExactAllLoops", unfollowed := true, recurses := true, apart := false }
def FnExactAllLoopsSaid : Prop := fnExactAllLoopsRow.holds Try.pinned (OpenSpec.ofChange fnExactAllLoopsSpec)

/-- ITS FALSE NEIGHBOUR: 'it returns false'. Refute it at one input. -/
def fnExactAllLoopsWrong : ChangeSpec := { name := "fnExactAllLoops", fn := fun _ => fun
  | [d] => { results := [.lit (.bool false)], args := [d] }
  | _ => none }
def FnExactAllLoopsWrongFalsely : Prop := fnExactAllLoopsRow.holds Try.pinned (OpenSpec.ofChange fnExactAllLoopsWrong)

/-- 'laws.FnExactHasTwoLoops': WHATEVER THE INPUT: true; the input reads as it did. -/
def fnExactHasTwoLoopsSpec : ChangeSpec := { name := "fnExactHasTwoLoops", fn := fun _ => fun
  | [d] => { results := [.lit (.bool true)], args := [d] }
  | _ => none }
def fnExactHasTwoLoopsRow : OpenClaim := { program := "ytkiocklkpnjejaa", sum := "7ec5cd3eaee244a6d79abd0d0d4a7a2e0ca02fc353cc4e3f62c1799b2fc11142", func := "loop.example/g01207/laws.FnExactHasTwoLoops", spec := "fnExactHasTwoLoops", unfollowed := true, recurses := true, apart := false }
def FnExactHasTwoLoopsSaid : Prop := fnExactHasTwoLoopsRow.holds Try.pinned (OpenSpec.ofChange fnExactHasTwoLoopsSpec)

/-- ITS FALSE NEIGHBOUR: 'it returns false'. Refute it at one input. -/
def fnExactHasTwoLoopsWrong : ChangeSpec := { name := "fnExactHasTwoLoops", fn := fun _ => fun
  | [d] => { results := [.lit (.bool false)], args := [d] }
  | _ => none }
def FnExactHasTwoLoopsWrongFalsely : Prop := fnExactHasTwoLoopsRow.holds Try.pinned (OpenSpec.ofChange fnExactHasTwoLoopsWrong)

/-- 'laws.FnExactTurnTower': WHATEVER THE INPUT: true; the input reads as it did. -/
def fnExactTurnTowerSpec : ChangeSpec := { name := "fnExactTurnTower", fn := fun _ => fun
  | [d1, d2] => { results := [.lit (.bool true)], args := [d1, d2] }
  | _ => none }
def fnExactTurnTowerRow : OpenClaim := { program := "ytkiocklkpnjejaa", sum := "7ec5cd3eaee244a6d79abd0d0d4a7a2e0ca02fc353cc4e3f62c1799b2fc11142", func := "loop.example/g01207/laws.FnExactTurnTower", spec := "fnExactTurnTower", unfollowed := true, recurses := true, apart := false }
def FnExactTurnTowerSaid : Prop := fnExactTurnTowerRow.holds Try.pinned (OpenSpec.ofChange fnExactTurnTowerSpec)

/-- ITS FALSE NEIGHBOUR: 'it returns false'. Refute it at one input. -/
def fnExactTurnTowerWrong : ChangeSpec := { name := "fnExactTurnTower", fn := fun _ => fun
  | [d1, d2] => { results := [.lit (.bool false)], args := [d1, d2] }
  | _ => none }
def FnExactTurnTowerWrongFalsely : Prop := fnExactTurnTowerRow.holds Try.pinned (OpenSpec.ofChange fnExactTurnTowerWrong)

/- THE SECOND FORM. 'bulk': how many values and letters a reading holds, each counted each time it is reached (what is shared counts as often as it is met; a slice's spare places count too). A statement '..UptoSaid' is the law's where the arguments, and the package variables that the reading takes, are together of bulk at most 1048576: NARROWER than '..Said'. Prove '..Said' where nothing that the law and all that it calls make is longer than what came in: it says more and counts as full. Else prove '..UptoSaid'. A law counts once. -/
mutual
def uptoBulk {H : Type} : DataW H → Nat
  | .lit (.string bytes) => bytes.length + 1
  | .lit _ => 1
  | .nil => 1
  | .ptr d => uptoBulk d + 1
  | .slice elems spare => uptoBulkAll elems + uptoBulkAll spare + 1
  | .agg parts => uptoBulkAll parts + 1
  | .iface _ d => uptoBulk d + 1
  | .map entries => uptoBulkEntries entries + 1
  | .held _ => 1
def uptoBulkAll {H : Type} : List (DataW H) → Nat
  | [] => 0
  | d :: r => uptoBulk d + uptoBulkAll r
def uptoBulkEntries {H : Type} : List (Lit × DataW H) → Nat
  | [] => 0
  | x :: r => uptoBulkEntry x + uptoBulkEntries r
def uptoBulkEntry {H : Type} : Lit × DataW H → Nat
  | (.string bytes, d) => bytes.length + uptoBulk d + 1
  | (_, d) => uptoBulk d + 1
 end
def uptoSmall : (H : Type) → List (DataW H) → Bool := fun _ ds => decide (uptoBulkAll ds ≤ 1048576)
def OpenSpec.upto (s : _root_.Go.ChangeSpec) : _root_.Go.OpenSpec := { _root_.Go.OpenSpec.ofChange s with cond := some uptoSmall }

/-- 'laws.FnExactCountKept', WHERE WHAT IT READS IS OF BULK AT MOST 1048576: true; the input reads as it did. -/
def fnExactCountKeptUptoRow : OpenClaim := { program := "ytkiocklkpnjejaa", sum := "7ec5cd3eaee244a6d79abd0d0d4a7a2e0ca02fc353cc4e3f62c1799b2fc11142", func := "loop.example/g01207/laws.FnExactCountKept", spec := "fnExactCountKept", inPlace := ["internal/bytealg.IndexByteString"], unfollowed := true, recurses := true, apart := false, narrowed := true }
def FnExactCountKeptUptoSaid : Prop := fnExactCountKeptUptoRow.holds Try.pinned (OpenSpec.upto fnExactCountKeptSpec)

/-- 'laws.FnExactColorsOf', WHERE WHAT IT READS IS OF BULK AT MOST 1048576: true; the input reads as it did. -/
def fnExactColorsOfUptoRow : OpenClaim := { program := "ytkiocklkpnjejaa", sum := "7ec5cd3eaee244a6d79abd0d0d4a7a2e0ca02fc353cc4e3f62c1799b2fc11142", func := "loop.example/g01207/laws.FnExactColorsOf", spec := "fnExactColorsOf", apart := false, narrowed := true }
def FnExactColorsOfUptoSaid : Prop := fnExactColorsOfUptoRow.holds Try.pinned (OpenSpec.upto fnExactColorsOfSpec)

/-- 'laws.FnExactFaceCycles', WHERE WHAT IT READS IS OF BULK AT MOST 1048576: true; the input reads as it did. -/
def fnExactFaceCyclesUptoRow : OpenClaim := { program := "ytkiocklkpnjejaa", sum := "7ec5cd3eaee244a6d79abd0d0d4a7a2e0ca02fc353cc4e3f62c1799b2fc11142", func := "loop.example/g01207/laws.FnExactFaceCycles", spec := "fnExactFaceCycles", inPlace := ["internal/bytealg.IndexByteString"], recurses := true, apart := false, narrowed := true }
def FnExactFaceCyclesUptoSaid : Prop := fnExactFaceCyclesUptoRow.holds Try.pinned (OpenSpec.upto fnExactFaceCyclesSpec)

/-- 'laws.FnExactSidesOfTower', WHERE WHAT IT READS IS OF BULK AT MOST 1048576: true; the input reads as it did. -/
def fnExactSidesOfTowerUptoRow : OpenClaim := { program := "ytkiocklkpnjejaa", sum := "7ec5cd3eaee244a6d79abd0d0d4a7a2e0ca02fc353cc4e3f62c1799b2fc11142", func := "loop.example/g01207/laws.FnExactSidesOfTower", spec := "fnExactSidesOfTower", unfollowed := true, recurses := true, apart := false, narrowed := true }
def FnExactSidesOfTowerUptoSaid : Prop := fnExactSidesOfTowerUptoRow.holds Try.pinned (OpenSpec.upto fnExactSidesOfTowerSpec)

/-- 'laws.FnExactIsTower', WHERE WHAT IT READS IS OF BULK AT MOST 1048576: true; the input reads as it did. -/
def fnExactIsTowerUptoRow : OpenClaim := { program := "ytkiocklkpnjejaa", sum := "7ec5cd3eaee244a6d79abd0d0d4a7a2e0ca02fc353cc4e3f62c1799b2fc11142", func := "loop.example/g01207/laws.FnExactIsTower", spec := "fnExactIsTower", unfollowed := true, recurses := true, apart := false, narrowed := true }
def FnExactIsTowerUptoSaid : Prop := fnExactIsTowerUptoRow.holds Try.pinned (OpenSpec.upto fnExactIsTowerSpec)

/-- 'laws.FnExactPairsOf', WHERE WHAT IT READS IS OF BULK AT MOST 1048576: true; the input reads as it did. -/
def fnExactPairsOfUptoRow : OpenClaim := { program := "ytkiocklkpnjejaa", sum := "7ec5cd3eaee244a6d79abd0d0d4a7a2e0ca02fc353cc4e3f62c1799b2fc11142", func := "loop.example/g01207/laws.FnExactPairsOf", spec := "fnExactPairsOf", recurses := true, apart := false, narrowed := true }
def FnExactPairsOfUptoSaid : Prop := fnExactPairsOfUptoRow.holds Try.pinned (OpenSpec.upto fnExactPairsOfSpec)

/-- 'laws.FnExactCountLoops', WHERE WHAT IT READS IS OF BULK AT MOST 1048576: true; the input reads as it did. -/
def fnExactCountLoopsUptoRow : OpenClaim := { program := "ytkiocklkpnjejaa", sum := "7ec5cd3eaee244a6d79abd0d0d4a7a2e0ca02fc353cc4e3f62c1799b2fc11142", func := "loop.example/g01207/laws.FnExactCountLoops", spec := "fnExactCountLoops", unfollowed := true, recurses := true, apart := false, narrowed := true }
def FnExactCountLoopsUptoSaid : Prop := fnExactCountLoopsUptoRow.holds Try.pinned (OpenSpec.upto fnExactCountLoopsSpec)

/-- 'laws.FnExactAllLoops', WHERE WHAT IT READS IS OF BULK AT MOST 1048576: true; the input reads as it did. -/
def fnExactAllLoopsUptoRow : OpenClaim := { program := "ytkiocklkpnjejaa", sum := "7ec5cd3eaee244a6d79abd0d0d4a7a2e0ca02fc353cc4e3f62c1799b2fc11142", func := "loop.example/g01207/laws.FnExactAllLoops", spec := "fnExactAllLoops", unfollowed := true, recurses := true, apart := false, narrowed := true }
def FnExactAllLoopsUptoSaid : Prop := fnExactAllLoopsUptoRow.holds Try.pinned (OpenSpec.upto fnExactAllLoopsSpec)

/-- 'laws.FnExactHasTwoLoops', WHERE WHAT IT READS IS OF BULK AT MOST 1048576: true; the input reads as it did. -/
def fnExactHasTwoLoopsUptoRow : OpenClaim := { program := "ytkiocklkpnjejaa", sum := "7ec5cd3eaee244a6d79abd0d0d4a7a2e0ca02fc353cc4e3f62c1799b2fc11142", func := "loop.example/g01207/laws.FnExactHasTwoLoops", spec := "fnExactHasTwoLoops", unfollowed := true, recurses := true, apart := false, narrowed := true }
def FnExactHasTwoLoopsUptoSaid : Prop := fnExactHasTwoLoopsUptoRow.holds Try.pinned (OpenSpec.upto fnExactHasTwoLoopsSpec)

/-- 'laws.FnExactTurnTower', WHERE WHAT IT READS IS OF BULK AT MOST 1048576: true; the input reads as it did. -/
def fnExactTurnTowerUptoRow : OpenClaim := { program := "ytkiocklkpnjejaa", sum := "7ec5cd3eaee244a6d79abd0d0d4a7a2e0ca02fc353cc4e3f62c1799b2fc11142", func := "loop.example/g01207/laws.FnExactTurnTower", spec := "fnExactTurnTower", unfollowed := true, recurses := true, apart := false, narrowed := true }
def FnExactTurnTowerUptoSaid : Prop := fnExactTurnTowerUptoRow.holds Try.pinned (OpenSpec.upto fnExactTurnTowerSpec)

end Rows
end Go.Proofs.Ytkiocklkpnjejaa
