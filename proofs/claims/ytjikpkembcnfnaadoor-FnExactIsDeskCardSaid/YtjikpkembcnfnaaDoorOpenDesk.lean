/- A desk that comes in. -/
import Derived.Test.YtjikpkembcnfnaaDoorCardKit
import Derived.Test.YtjikpkembcnfnaaDoorOpen
import Derived.Test.YtjikpkembcnfnaaDoorDesk
import Derived.WalkKit
import Derived.ProofKit
import Derived.OpenShut
namespace Go.Proofs.YtjikpkembcnfnaaDoor
set_option maxRecDepth 100000
set_option linter.all false
open Go.Joins Go.ChangeShapes Go.WideShapes Go.RowKit

theorem cells_desk : Tryd.prog.cellsOf 27 = 9 := by kernel_rfl
theorem cells_dkS : Tryd.prog.cellsOf 25 = 8 := by kernel_rfl
theorem cells_dkD : Tryd.prog.cellsOf 23 = 6 := by kernel_rfl
theorem cells_dkI : Tryd.prog.cellsOf 3 = 1 := by kernel_rfl
theorem cells_dkT : Tryd.prog.cellsOf 9 = 1 := by kernel_rfl
theorem one_intK {H : Type} {enc : TypeId × Value → H} {w : World} {base : Nat} {spare : Nat → Bool} {held : Bool} {n : Nat} (c : Value) (y : DataW H × List MemPlace) (hy : DataW.trod enc Tryd.prog w base spare held n 3 [c] = some y) : ∃ a : Int, c = .int .i64 a ∧ (Lit.int .i64 a).wf = true := by
  obtain ⟨a, e, _, h3⟩ := DataW.trod_int Tryd.underlying3 hy
  exact ⟨a, by simpa using e, h3⟩
theorem one_strK {H : Type} {enc : TypeId × Value → H} {w : World} {base : Nat} {spare : Nat → Bool} {held : Bool} {n : Nat} (c : Value) (y : DataW H × List MemPlace) (hy : DataW.trod enc Tryd.prog w base spare held n 9 [c] = some y) : ∃ s : ByteArray, c = .string s ∧ s.size ≤ maxLen := by
  obtain ⟨s, e, _, h3⟩ := DataW.trod_string Tryd.underlying9 hy
  exact ⟨s, by simpa using e, h3⟩
set_option maxHeartbeats 800000 in
/-- A desk that comes in is a text and eight integers. -/
theorem open_desk {H : Type} {enc : TypeId × Value → H} {w : World} {base : Nat} {spare : Nat → Bool} {held : Bool} {r : Reach} {b0 : Nat} {v : Value} {x : DataW H} {p : List MemPlace}
    (hv : Value.okWide Tryd.prog w r b0 27 v) (h : DataW.Trod enc Tryd.prog w base spare held 27 v x p) : ∃ q : Dk, q.b.size ≤ maxLen ∧ (Lit.int .i64 q.s.x).wf = true ∧ (Lit.int .i64 q.s.y).wf = true ∧ v = Dk.v q := by
  obtain ⟨cs, rfl, hsz⟩ := okWide_struct Tryd.underlying27 hv
  obtain ⟨l⟩ := cs
  match l, hsz.trans cells_desk with
  | [c0, c1, c2, c3, c4, c5, c6, c7, c8], _ =>
    obtain ⟨fuel, hf⟩ := h
    obtain ⟨xs, n, _, hx, _, hlen, hg⟩ := DataW.trod_struct Tryd.underlying27 hf
    have ci := cells_dkI
    have cd := cells_dkD
    have cc := cells_dkS
    have ct := cells_dkT
    have g0 := hg 0 _ rfl
    have g1 := hg 1 _ rfl
    simp only [Value.cells] at g0 g1
    have hl : ∀ j, j < 2 → ∃ y, xs[j]? = some y := fun j hj => ⟨xs[j]'(by simp_all), List.getElem?_eq_getElem _⟩
    obtain ⟨y0, e0⟩ := hl 0 (by omega)
    obtain ⟨y1, e1⟩ := hl 1 (by omega)
    obtain ⟨s0, rfl, wf0⟩ := one_strK c0 y0 (g0.trans e0)
    have h1 : DataW.trod enc Tryd.prog w base spare held n 25 [c1, c2, c3, c4, c5, c6, c7, c8] = some y1 := g1.trans e1
    obtain ⟨us, m, _, hu, _, hul, hr⟩ := DataW.trod_struct Tryd.underlying25 h1
    have r0 := hr 0 _ rfl
    have r1 := hr 1 _ rfl
    have r2 := hr 2 _ rfl
    have ul : ∀ j, j < 3 → ∃ y, us[j]? = some y := fun j hj => ⟨us[j]'(by simp_all), List.getElem?_eq_getElem _⟩
    obtain ⟨u0, f0⟩ := ul 0 (by omega)
    obtain ⟨u1, f1⟩ := ul 1 (by omega)
    obtain ⟨u2, f2⟩ := ul 2 (by omega)
    obtain ⟨p0, rfl, wp0⟩ := one_intK c1 u0 (r0.trans f0)
    obtain ⟨p1, rfl, wp1⟩ := one_intK c2 u1 (r1.trans f1)
    have h2 : DataW.trod enc Tryd.prog w base spare held m 23 [c3, c4, c5, c6, c7, c8] = some u2 := r2.trans f2
    obtain ⟨zs, m2, _, hz, _, hzl, hq⟩ := DataW.trod_struct Tryd.underlying23 h2
    have q0 := hq 0 _ rfl
    have q1 := hq 1 _ rfl
    have q2 := hq 2 _ rfl
    have q3 := hq 3 _ rfl
    have q4 := hq 4 _ rfl
    have q5 := hq 5 _ rfl
    have kl : ∀ j, j < 6 → ∃ y, zs[j]? = some y := fun j hj => ⟨zs[j]'(by simp_all), List.getElem?_eq_getElem _⟩
    obtain ⟨z0, k0⟩ := kl 0 (by omega)
    obtain ⟨z1, k1⟩ := kl 1 (by omega)
    obtain ⟨z2, k2⟩ := kl 2 (by omega)
    obtain ⟨z3, k3⟩ := kl 3 (by omega)
    obtain ⟨z4, k4⟩ := kl 4 (by omega)
    obtain ⟨z5, k5⟩ := kl 5 (by omega)
    obtain ⟨b0, rfl, _⟩ := one_intK c3 z0 (q0.trans k0)
    obtain ⟨b1, rfl, _⟩ := one_intK c4 z1 (q1.trans k1)
    obtain ⟨b2, rfl, _⟩ := one_intK c5 z2 (q2.trans k2)
    obtain ⟨b3, rfl, _⟩ := one_intK c6 z3 (q3.trans k3)
    obtain ⟨b4, rfl, _⟩ := one_intK c7 z4 (q4.trans k4)
    obtain ⟨b5, rfl, _⟩ := one_intK c8 z5 (q5.trans k5)
    exact ⟨⟨s0, ⟨p0, p1, ⟨b0, b1, b2, b3, b4, b5⟩⟩⟩, wf0, wp0, wp1, rfl⟩
end Go.Proofs.YtjikpkembcnfnaaDoor
