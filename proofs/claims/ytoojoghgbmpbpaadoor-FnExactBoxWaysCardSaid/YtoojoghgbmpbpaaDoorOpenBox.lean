/- A box that comes in. -/
import Derived.Test.YtoojoghgbmpbpaaDoorOpen
import Derived.Test.YtoojoghgbmpbpaaDoorBox
import Derived.WalkKit
import Derived.ProofKit
import Derived.OpenShut
namespace Go.Proofs.YtoojoghgbmpbpaaDoor
set_option maxRecDepth 100000
set_option linter.all false
open Go.Joins Go.ChangeShapes Go.WideShapes Go.RowKit

theorem cells_box : Tryd.prog.cellsOf 24 = 3 := by kernel_rfl
theorem cells_intB : Tryd.prog.cellsOf 3 = 1 := by kernel_rfl
theorem one_intB {H : Type} {enc : TypeId × Value → H} {w : World} {base : Nat} {spare : Nat → Bool} {held : Bool} {n : Nat} (c : Value) (y : DataW H × List MemPlace) (hy : DataW.trod enc Tryd.prog w base spare held n 3 [c] = some y) : ∃ a : Int, c = .int .i64 a := by
  obtain ⟨a, e, _, _⟩ := DataW.trod_int Tryd.underlying3 hy
  exact ⟨a, by simpa using e⟩
set_option maxHeartbeats 400000 in
/-- A box that comes in is three integers. -/
theorem open_box {H : Type} {enc : TypeId × Value → H} {w : World} {base : Nat} {spare : Nat → Bool} {held : Bool} {r : Reach} {b0 : Nat} {v : Value} {x : DataW H} {p : List MemPlace}
    (hv : Value.okWide Tryd.prog w r b0 24 v) (h : DataW.Trod enc Tryd.prog w base spare held 24 v x p) : ∃ q : Bx, v = Bx.v q := by
  obtain ⟨cs, rfl, hsz⟩ := okWide_struct Tryd.underlying24 hv
  obtain ⟨l⟩ := cs
  match l, hsz.trans cells_box with
  | [c0, c1, c2], _ =>
    obtain ⟨fuel, hf⟩ := h
    obtain ⟨xs, n, _, hx, _, hlen, hg⟩ := DataW.trod_struct Tryd.underlying24 hf
    have ci := cells_intB
    have g0 := hg 0 _ rfl
    have g1 := hg 1 _ rfl
    have g2 := hg 2 _ rfl
    simp only [Value.cells] at g0 g1 g2
    have hl : ∀ j, j < 3 → ∃ y, xs[j]? = some y := fun j hj => ⟨xs[j]'(by simp_all), List.getElem?_eq_getElem _⟩
    obtain ⟨y0, e0⟩ := hl 0 (by omega)
    obtain ⟨y1, e1⟩ := hl 1 (by omega)
    obtain ⟨y2, e2⟩ := hl 2 (by omega)
    obtain ⟨a0, rfl⟩ := one_intB c0 y0 (g0.trans e0)
    obtain ⟨a1, rfl⟩ := one_intB c1 y1 (g1.trans e1)
    obtain ⟨a2, rfl⟩ := one_intB c2 y2 (g2.trans e2)
    exact ⟨⟨a0, a1, a2⟩, rfl⟩
end Go.Proofs.YtoojoghgbmpbpaaDoor
