/- What the cards' proofs share: the library's variables, a world for the witness, a state that comes in. -/
import Derived.Test.YthdkhikkdcjifaaDoorCards
import Derived.Test.YthdkhikkdcjifaaDoorTie
import Derived.Test.YthdkhikkdcjifaaDoorOpen
import Derived.Test.YthdkhikkdcjifaaDoorState
import Derived.Test.YthdkhikkdcjifaaDoorRowsOf
import Derived.WalkKit
import Derived.ProofKit
import Derived.OpenShut
import Derived.Deep.DeepHandedRow
import Derived.SevenTiedAt
import Derived.Shelf.Vars
namespace Go.Proofs.YthdkhikkdcjifaaDoor
set_option maxRecDepth 100000
set_option linter.all false
open Go.Joins Go.ChangeShapes Go.WideShapes Go.RowKit Go.Deep

/-- The library's variable, out of the world's shape. -/
theorem glob_shaped {W : World} (h : W.ShapedOpen Tryd.prog) : Glob W :=
  cell_of_shapedOpen_int (P := Tryd.prog) (g := 0) (t := 3) (zero := #[.int .i64 0]) (k := .i64) h (of_decide_eq_true (by kernel_rfl)) (by kernel_rfl) rfl (by kernel_rfl) (by kernel_rfl) Tryd.underlying3

/-- A world for the witness: the two tables hold what their initialisers lay. -/
def firstCells : Array Value := (Go.Pinned.utf8FirstZ.map fun n : Nat => Value.int .u8 (n : Int)).toArray
def acceptCells : Array Value := ([128, 191, 160, 191, 128, 159, 144, 191, 128, 143, 0, 0, 0, 0, 0, 0, 0, 0, 0, 0, 0, 0, 0, 0, 0, 0, 0, 0, 0, 0, 0, 0].map fun n : Int => Value.int .u8 n).toArray
def layAt (h : Array Obj) (g : Nat) (cs : Array Value) : Array Obj := h.modify g fun
  | .cells _ t frozen => .cells cs t frozen
  | o => o
noncomputable def laidWorld (os : Os) : World :=
  { World.holding Tryd.prog os ⟨#[], #[], []⟩ with heap := layAt (layAt (World.holding Tryd.prog os ⟨#[], #[], []⟩).heap 1 firstCells) 2 acceptCells }

theorem cells_state : Tryd.prog.cellsOf 25 = 8 := by kernel_rfl
theorem cells_inner : Tryd.prog.cellsOf 23 = 6 := by kernel_rfl
theorem cells_int : Tryd.prog.cellsOf 3 = 1 := by kernel_rfl
theorem one_int {H : Type} {enc : TypeId × Value → H} {w : World} {base : Nat} {spare : Nat → Bool} {held : Bool} {n : Nat} (c : Value) (y : DataW H × List MemPlace) (hy : DataW.trod enc Tryd.prog w base spare held n 3 [c] = some y) : ∃ a : Int, c = .int .i64 a ∧ (Lit.int .i64 a).wf = true := by
  obtain ⟨a, e, _, h3⟩ := DataW.trod_int Tryd.underlying3 hy
  exact ⟨a, by simpa using e, h3⟩
set_option maxHeartbeats 400000 in
/-- A state that comes in is eight integers. -/
theorem open_state {H : Type} {enc : TypeId × Value → H} {w : World} {base : Nat} {spare : Nat → Bool} {held : Bool} {r : Reach} {b0 : Nat} {v : Value} {x : DataW H} {p : List MemPlace}
    (hv : Value.okWide Tryd.prog w r b0 25 v) (h : DataW.Trod enc Tryd.prog w base spare held 25 v x p) : ∃ s : St, (Lit.int .i64 s.x).wf = true ∧ (Lit.int .i64 s.y).wf = true ∧ v = St.v s := by
  obtain ⟨cs, rfl, hsz⟩ := okWide_struct Tryd.underlying25 hv
  obtain ⟨l⟩ := cs
  match l, hsz.trans cells_state with
  | [c0, c1, c2, c3, c4, c5, c6, c7], _ =>
    obtain ⟨fuel, hf⟩ := h
    obtain ⟨xs, n, _, hx, _, hlen, hg⟩ := DataW.trod_struct Tryd.underlying25 hf
    have ci := cells_int
    have cd := cells_inner
    have g0 := hg 0 _ rfl
    have g1 := hg 1 _ rfl
    have g2 := hg 2 _ rfl
    simp only [Value.cells] at g0 g1 g2
    have hl : ∀ j, j < 3 → ∃ y, xs[j]? = some y := fun j hj => ⟨xs[j]'(by simp_all), List.getElem?_eq_getElem _⟩
    obtain ⟨y0, e0⟩ := hl 0 (by omega)
    obtain ⟨y1, e1⟩ := hl 1 (by omega)
    obtain ⟨y2, e2⟩ := hl 2 (by omega)
    obtain ⟨a0, rfl, wf0⟩ := one_int c0 y0 (g0.trans e0)
    obtain ⟨a1, rfl, wf1⟩ := one_int c1 y1 (g1.trans e1)
    have h2 : DataW.trod enc Tryd.prog w base spare held n 23 [c2, c3, c4, c5, c6, c7] = some y2 := g2.trans e2
    obtain ⟨zs, m, _, hz, _, hzl, hq⟩ := DataW.trod_struct Tryd.underlying23 h2
    have q0 := hq 0 _ rfl
    have q1 := hq 1 _ rfl
    have q2 := hq 2 _ rfl
    have q3 := hq 3 _ rfl
    have q4 := hq 4 _ rfl
    have q5 := hq 5 _ rfl
    have kl : ∀ j, j < 6 → ∃ y, zs[j]? = some y := fun j hj => ⟨zs[j]'(by simp_all), List.getElem?_eq_getElem _⟩
    obtain ⟨z0, k0⟩ := kl 0 (by omega)
    obtain ⟨z1, k1⟩ := kl 1 (by omega)
    obtain ⟨z2, k2⟩ := kl 2 (by omega)
    obtain ⟨z3, k3⟩ := kl 3 (by omega)
    obtain ⟨z4, k4⟩ := kl 4 (by omega)
    obtain ⟨z5, k5⟩ := kl 5 (by omega)
    obtain ⟨b0, rfl, _⟩ := one_int c2 z0 (q0.trans k0)
    obtain ⟨b1, rfl, _⟩ := one_int c3 z1 (q1.trans k1)
    obtain ⟨b2, rfl, _⟩ := one_int c4 z2 (q2.trans k2)
    obtain ⟨b3, rfl, _⟩ := one_int c5 z3 (q3.trans k3)
    obtain ⟨b4, rfl, _⟩ := one_int c6 z4 (q4.trans k4)
    obtain ⟨b5, rfl, _⟩ := one_int c7 z5 (q5.trans k5)
    exact ⟨⟨a0, a1, ⟨b0, b1, b2, b3, b4, b5⟩⟩, wf0, wf1, rfl⟩
end Go.Proofs.YthdkhikkdcjifaaDoor
