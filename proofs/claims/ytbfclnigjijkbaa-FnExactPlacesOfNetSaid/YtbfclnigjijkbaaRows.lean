/-
  No cell of these rows narrows 'for every input' (looked for: loops, veiled, ifaces, maps, wideKeys, modest, calm, conditions, laid).
  DERIVED. THE GIVEN ROWS OF THIS SEAT. 5 by the template 'for every input the law returns true; each argument reads behind the call as it read before'; 0 by the template 'total and deterministic' (their statements: YtbfclnigjijkbaaTotals.lean).
  GIVEN WITH THE SEED: the statements are not yours to turn. If you find one false, say at which input.
  Laid BY PROGRAM, IN A SANDBOX (cutbox-rows.mjs): the forced cells as the released guide's own fill.sh prints them over the translation 9e87da0bce19e266… (all of the seat's roots in one cut). By AI agents, Wed Nov 11 2026. No macro, syntax, notation, axiom, sorry.
-/
import Derived.Test.YtbfclnigjijkbaaChecked
import GoSem.Claim
import GoSem.ClaimJoined
import GoSem.ClaimMapViews
import Derived.JoinedTies
import Derived.KernelRfl
namespace Go.Proofs.Ytbfclnigjijkbaa
/- THE CELL 'sum', in the pinned program and in every row, IS THE sha256 OF THE DUMP (.gsa) THAT YtbfclnigjijkbaaProg.lean LOADS. Nothing in Lean hashes anything: it is a label: what it is worth is what the hold of that sum in a sandbox is worth. -/
noncomputable def Try.pinned : Pinned := { name := "ytbfclnigjijkbaa", sum := "9e87da0bce19e26686b155455a94f5484fc6e7b7f7a74a2e4251cbfd2e3628c0", checked := Try.checked }
namespace Rows
def none {H : Type} : Left H := { results := [], args := [] }

/-- 'laws.FnExactIsSix': WHATEVER THE INPUT: true; the input reads as it did. -/
def fnExactIsSixSpec : ChangeSpec := { name := "fnExactIsSix", fn := fun _ => fun
  | [d] => { results := [.lit (.bool true)], args := [d] }
  | _ => none }
def fnExactIsSixRow : OpenClaim := { program := "ytbfclnigjijkbaa", sum := "9e87da0bce19e26686b155455a94f5484fc6e7b7f7a74a2e4251cbfd2e3628c0", func := "loop.example/g01207/laws.FnExactIsSix", spec := "fnExactIsSix", unfollowed := true, recurses := true, apart := false }
def FnExactIsSixSaid : Prop := fnExactIsSixRow.holds Try.pinned (OpenSpec.ofChange fnExactIsSixSpec)

/-- ITS FALSE NEIGHBOUR: 'it returns false'. Refute it at one input. -/
def fnExactIsSixWrong : ChangeSpec := { name := "fnExactIsSix", fn := fun _ => fun
  | [d] => { results := [.lit (.bool false)], args := [d] }
  | _ => none }
def FnExactIsSixWrongFalsely : Prop := fnExactIsSixRow.holds Try.pinned (OpenSpec.ofChange fnExactIsSixWrong)

/-- 'laws.FnExactIsNet': WHATEVER THE INPUT: true; the input reads as it did. -/
def fnExactIsNetSpec : ChangeSpec := { name := "fnExactIsNet", fn := fun _ => fun
  | [d] => { results := [.lit (.bool true)], args := [d] }
  | _ => none }
def fnExactIsNetRow : OpenClaim := { program := "ytbfclnigjijkbaa", sum := "9e87da0bce19e26686b155455a94f5484fc6e7b7f7a74a2e4251cbfd2e3628c0", func := "loop.example/g01207/laws.FnExactIsNet", spec := "fnExactIsNet", unfollowed := true, recurses := true, apart := false }
def FnExactIsNetSaid : Prop := fnExactIsNetRow.holds Try.pinned (OpenSpec.ofChange fnExactIsNetSpec)

/-- ITS FALSE NEIGHBOUR: 'it returns false'. Refute it at one input. -/
def fnExactIsNetWrong : ChangeSpec := { name := "fnExactIsNet", fn := fun _ => fun
  | [d] => { results := [.lit (.bool false)], args := [d] }
  | _ => none }
def FnExactIsNetWrongFalsely : Prop := fnExactIsNetRow.holds Try.pinned (OpenSpec.ofChange fnExactIsNetWrong)

/-- 'laws.FnExactFoldNet': WHATEVER THE INPUT: true; the input reads as it did. -/
def fnExactFoldNetSpec : ChangeSpec := { name := "fnExactFoldNet", fn := fun _ => fun
  | [d] => { results := [.lit (.bool true)], args := [d] }
  | _ => none }
def fnExactFoldNetRow : OpenClaim := { program := "ytbfclnigjijkbaa", sum := "9e87da0bce19e26686b155455a94f5484fc6e7b7f7a74a2e4251cbfd2e3628c0", func := "loop.example/g01207/laws.FnExactFoldNet", spec := "fnExactFoldNet", unfollowed := true, recurses := true, apart := false }
def FnExactFoldNetSaid : Prop := fnExactFoldNetRow.holds Try.pinned (OpenSpec.ofChange fnExactFoldNetSpec)

/-- ITS FALSE NEIGHBOUR: 'it returns false'. Refute it at one input. -/
def fnExactFoldNetWrong : ChangeSpec := { name := "fnExactFoldNet", fn := fun _ => fun
  | [d] => { results := [.lit (.bool false)], args := [d] }
  | _ => none }
def FnExactFoldNetWrongFalsely : Prop := fnExactFoldNetRow.holds Try.pinned (OpenSpec.ofChange fnExactFoldNetWrong)

/-- 'laws.FnExactPlacesOfNet': WHATEVER THE INPUT: true; the input reads as it did. -/
def fnExactPlacesOfNetSpec : ChangeSpec := { name := "fnExactPlacesOfNet", fn := fun _ => fun
  | [d] => { results := [.lit (.bool true)], args := [d] }
  | _ => none }
def fnExactPlacesOfNetRow : OpenClaim := { program := "ytbfclnigjijkbaa", sum := "9e87da0bce19e26686b155455a94f5484fc6e7b7f7a74a2e4251cbfd2e3628c0", func := "loop.example/g01207/laws.FnExactPlacesOfNet", spec := "fnExactPlacesOfNet", unfollowed := true, recurses := true, apart := false }
def FnExactPlacesOfNetSaid : Prop := fnExactPlacesOfNetRow.holds Try.pinned (OpenSpec.ofChange fnExactPlacesOfNetSpec)

/-- ITS FALSE NEIGHBOUR: 'it returns false'. Refute it at one input. -/
def fnExactPlacesOfNetWrong : ChangeSpec := { name := "fnExactPlacesOfNet", fn := fun _ => fun
  | [d] => { results := [.lit (.bool false)], args := [d] }
  | _ => none }
def FnExactPlacesOfNetWrongFalsely : Prop := fnExactPlacesOfNetRow.holds Try.pinned (OpenSpec.ofChange fnExactPlacesOfNetWrong)

/-- 'laws.FnExactFoldOrder': WHATEVER THE INPUT: true; the input reads as it did. -/
def fnExactFoldOrderSpec : ChangeSpec := { name := "fnExactFoldOrder", fn := fun _ => fun
  | [d] => { results := [.lit (.bool true)], args := [d] }
  | _ => none }
def fnExactFoldOrderRow : OpenClaim := { program := "ytbfclnigjijkbaa", sum := "9e87da0bce19e26686b155455a94f5484fc6e7b7f7a74a2e4251cbfd2e3628c0", func := "loop.example/g01207/laws.FnExactFoldOrder", spec := "fnExactFoldOrder", unfollowed := true, recurses := true, apart := false }
def FnExactFoldOrderSaid : Prop := fnExactFoldOrderRow.holds Try.pinned (OpenSpec.ofChange fnExactFoldOrderSpec)

/-- ITS FALSE NEIGHBOUR: 'it returns false'. Refute it at one input. -/
def fnExactFoldOrderWrong : ChangeSpec := { name := "fnExactFoldOrder", fn := fun _ => fun
  | [d] => { results := [.lit (.bool false)], args := [d] }
  | _ => none }
def FnExactFoldOrderWrongFalsely : Prop := fnExactFoldOrderRow.holds Try.pinned (OpenSpec.ofChange fnExactFoldOrderWrong)

/- THE SECOND FORM. 'bulk': how many values and letters a reading holds, each counted each time it is reached (what is shared counts as often as it is met; a slice's spare places count too). A statement '..UptoSaid' is the law's where the arguments, and the package variables that the reading takes, are together of bulk at most 1048576: NARROWER than '..Said'. Prove '..Said' where nothing that the law and all that it calls make is longer than what came in: it says more and counts as full. Else prove '..UptoSaid'. A law counts once. -/
mutual
def uptoBulk {H : Type} : DataW H → Nat
  | .lit (.string bytes) => bytes.length + 1
  | .lit _ => 1
  | .nil => 1
  | .ptr d => uptoBulk d + 1
  | .slice elems spare => uptoBulkAll elems + uptoBulkAll spare + 1
  | .agg parts => uptoBulkAll parts + 1
  | .iface _ d => uptoBulk d + 1
  | .map entries => uptoBulkEntries entries + 1
  | .held _ => 1
def uptoBulkAll {H : Type} : List (DataW H) → Nat
  | [] => 0
  | d :: r => uptoBulk d + uptoBulkAll r
def uptoBulkEntries {H : Type} : List (Lit × DataW H) → Nat
  | [] => 0
  | x :: r => uptoBulkEntry x + uptoBulkEntries r
def uptoBulkEntry {H : Type} : Lit × DataW H → Nat
  | (.string bytes, d) => bytes.length + uptoBulk d + 1
  | (_, d) => uptoBulk d + 1
 end
def uptoSmall : (H : Type) → List (DataW H) → Bool := fun _ ds => decide (uptoBulkAll ds ≤ 1048576)
def OpenSpec.upto (s : _root_.Go.ChangeSpec) : _root_.Go.OpenSpec := { _root_.Go.OpenSpec.ofChange s with cond := some uptoSmall }

/-- 'laws.FnExactIsSix', WHERE WHAT IT READS IS OF BULK AT MOST 1048576: true; the input reads as it did. -/
def fnExactIsSixUptoRow : OpenClaim := { program := "ytbfclnigjijkbaa", sum := "9e87da0bce19e26686b155455a94f5484fc6e7b7f7a74a2e4251cbfd2e3628c0", func := "loop.example/g01207/laws.FnExactIsSix", spec := "fnExactIsSix", unfollowed := true, recurses := true, apart := false, narrowed := true }
def FnExactIsSixUptoSaid : Prop := fnExactIsSixUptoRow.holds Try.pinned (OpenSpec.upto fnExactIsSixSpec)

/-- 'laws.FnExactIsNet', WHERE WHAT IT READS IS OF BULK AT MOST 1048576: true; the input reads as it did. -/
def fnExactIsNetUptoRow : OpenClaim := { program := "ytbfclnigjijkbaa", sum := "9e87da0bce19e26686b155455a94f5484fc6e7b7f7a74a2e4251cbfd2e3628c0", func := "loop.example/g01207/laws.FnExactIsNet", spec := "fnExactIsNet", unfollowed := true, recurses := true, apart := false, narrowed := true }
def FnExactIsNetUptoSaid : Prop := fnExactIsNetUptoRow.holds Try.pinned (OpenSpec.upto fnExactIsNetSpec)

/-- 'laws.FnExactFoldNet', WHERE WHAT IT READS IS OF BULK AT MOST 1048576: true; the input reads as it did. -/
def fnExactFoldNetUptoRow : OpenClaim := { program := "ytbfclnigjijkbaa", sum := "9e87da0bce19e26686b155455a94f5484fc6e7b7f7a74a2e4251cbfd2e3628c0", func := "loop.example/g01207/laws.FnExactFoldNet", spec := "fnExactFoldNet", unfollowed := true, recurses := true, apart := false, narrowed := true }
def FnExactFoldNetUptoSaid : Prop := fnExactFoldNetUptoRow.holds Try.pinned (OpenSpec.upto fnExactFoldNetSpec)

/-- 'laws.FnExactPlacesOfNet', WHERE WHAT IT READS IS OF BULK AT MOST 1048576: true; the input reads as it did. -/
def fnExactPlacesOfNetUptoRow : OpenClaim := { program := "ytbfclnigjijkbaa", sum := "9e87da0bce19e26686b155455a94f5484fc6e7b7f7a74a2e4251cbfd2e3628c0", func := "loop.example/g01207/laws.FnExactPlacesOfNet", spec := "fnExactPlacesOfNet", unfollowed := true, recurses := true, apart := false, narrowed := true }
def FnExactPlacesOfNetUptoSaid : Prop := fnExactPlacesOfNetUptoRow.holds Try.pinned (OpenSpec.upto fnExactPlacesOfNetSpec)

/-- 'laws.FnExactFoldOrder', WHERE WHAT IT READS IS OF BULK AT MOST 1048576: true; the input reads as it did. -/
def fnExactFoldOrderUptoRow : OpenClaim := { program := "ytbfclnigjijkbaa", sum := "9e87da0bce19e26686b155455a94f5484fc6e7b7f7a74a2e4251cbfd2e3628c0", func := "loop.example/g01207/laws.FnExactFoldOrder", spec := "fnExactFoldOrder", unfollowed := true, recurses := true, apart := false, narrowed := true }
def FnExactFoldOrderUptoSaid : Prop := fnExactFoldOrderUptoRow.holds Try.pinned (OpenSpec.upto fnExactFoldOrderSpec)

end Rows
end Go.Proofs.Ytbfclnigjijkbaa
