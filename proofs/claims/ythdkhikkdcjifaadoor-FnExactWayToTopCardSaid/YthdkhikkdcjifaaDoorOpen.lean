/- How a die that comes in as an argument is opened: six integers. -/
import Derived.Test.YthdkhikkdcjifaaDoorBase
import Derived.ProofKit
import Derived.OpenShut
import Derived.ShutString
import Derived.ChangeOld
import Derived.Below
import Derived.Lib.SmallJoins
namespace Go.Proofs.YthdkhikkdcjifaaDoor
set_option maxRecDepth 100000
set_option linter.all false
open Go.Joins Go.ChangeShapes Go.WideShapes Go.RowKit Go.Deep

theorem own : ownKnob Tryd.prog.godebug = none := by kernel_rfl
theorem laidOut : laidOutB Tryd.prog = true := by kernel_rfl
theorem cells_die : Tryd.prog.cellsOf 23 = 6 := by kernel_rfl

set_option maxRecDepth 100000 in
/-- A die that comes in is six integers. -/
theorem open_die {H : Type} {enc : TypeId × Value → H} {w : World} {base : Nat} {spare : Nat → Bool} {held : Bool} {r : Reach} {b0 : Nat} {v : Value} {x : DataW H} {p : List MemPlace}
    (hv : Value.okWide Tryd.prog w r b0 23 v) (h : DataW.Trod enc Tryd.prog w base spare held 23 v x p) : ∃ d : D, v = D.v d := by
  obtain ⟨cs, rfl, hsz⟩ := okWide_struct Tryd.underlying23 hv
  obtain ⟨l⟩ := cs
  match l, hsz.trans cells_die with
  | [c0, c1, c2, c3', c4, c5], _ =>
    obtain ⟨fuel, hf⟩ := h
    obtain ⟨xs, n, _, hx, _, hlen, hg⟩ := DataW.trod_struct Tryd.underlying23 hf
    have c3 : Tryd.prog.cellsOf 3 = 1 := by kernel_rfl
    have one : ∀ (c : Value) (y : DataW H × List MemPlace), DataW.trod enc Tryd.prog w base spare held n 3 [c] = some y → ∃ a : Int, c = .int .i64 a := by
      intro c y hy
      obtain ⟨a, e, _⟩ := DataW.trod_int Tryd.underlying3 hy
      exact ⟨a, by simpa using e⟩
    have g0 := hg 0 _ rfl
    have g1 := hg 1 _ rfl
    have g2 := hg 2 _ rfl
    have g3 := hg 3 _ rfl
    have g4 := hg 4 _ rfl
    have g5 := hg 5 _ rfl
    simp only [Value.cells] at g0 g1 g2 g3 g4 g5
    have hl : ∀ j, j < 6 → ∃ y, xs[j]? = some y := fun j hj => ⟨xs[j]'(by simp_all), List.getElem?_eq_getElem _⟩
    obtain ⟨y0, e0⟩ := hl 0 (by omega)
    obtain ⟨y1, e1⟩ := hl 1 (by omega)
    obtain ⟨y2, e2⟩ := hl 2 (by omega)
    obtain ⟨y3, e3⟩ := hl 3 (by omega)
    obtain ⟨y4, e4⟩ := hl 4 (by omega)
    obtain ⟨y5, e5⟩ := hl 5 (by omega)
    obtain ⟨a0, rfl⟩ := one c0 y0 (g0.trans e0)
    obtain ⟨a1, rfl⟩ := one c1 y1 (g1.trans e1)
    obtain ⟨a2, rfl⟩ := one c2 y2 (g2.trans e2)
    obtain ⟨a3, rfl⟩ := one c3' y3 (g3.trans e3)
    obtain ⟨a4, rfl⟩ := one c4 y4 (g4.trans e4)
    obtain ⟨a5, rfl⟩ := one c5 y5 (g5.trans e5)
    exact ⟨⟨a0, a1, a2, a3, a4, a5⟩, rfl⟩
end Go.Proofs.YthdkhikkdcjifaaDoor
