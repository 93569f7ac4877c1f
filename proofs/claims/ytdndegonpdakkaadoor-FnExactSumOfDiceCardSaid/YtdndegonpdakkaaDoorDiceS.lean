/- Slices of states among the arguments: opened, sized, brought over. -/
import Derived.Test.YtdndegonpdakkaaDoorWalksSA
import Derived.Test.YtdndegonpdakkaaDoorCardKit
import Derived.Deep.Slices
namespace Go.Proofs.YtdndegonpdakkaaDoor
set_option maxRecDepth 100000
set_option linter.all false
open Go.Joins Go.ChangeShapes Go.WideShapes Go.RowKit

/-- States stand in memory, from cell o of block g on. -/
def StAt (w : World) (g o : Nat) (L : List St) : Prop := g < w.heap.size ∧ ∀ (i : Nat) (s : St), L[i]? = some s → ∀ (j : Nat) (v : Value), (scells s)[j]? = some v → w.cell? ⟨g, o + (i * 8 + j), none⟩ = some v
theorem stAt_to {w w0 w1 : World} {g o : Nat} {L : List St} (hb : Below w0.heap.size w0 w1) (h : StAt w g o L) (e : w0.heap = w.heap) : StAt w1 g o L := by
  have hs := hb.size
  refine ⟨by rw [e] at hs; have := h.1; omega, fun i s hi j v hj => ?_⟩
  rw [hb.cell (p := ⟨g, _, none⟩) (by rw [e]; exact h.1)]
  have h5 : w0.heap[(⟨g, o + (i * 8 + j), none⟩ : Addr).block]? = w.heap[(⟨g, o + (i * 8 + j), none⟩ : Addr).block]? := by rw [e]
  rw [World.cell?_of_block h5]
  exact h.2 i s hi j v hj
theorem StAt.cells {w : World} {g o : Nat} {L : List St} (h : StAt w g o L) {i : Nat} {s : St} (hi : L[i]? = some s) :
    w.cell? ⟨g, o + i * 8, none⟩ = some (.int .i64 s.x) ∧ w.cell? ⟨g, o + i * 8 + 1, none⟩ = some (.int .i64 s.y) ∧ w.cell? ⟨g, o + i * 8 + 2, none⟩ = some (.int .i64 s.d.t) ∧ w.cell? ⟨g, o + i * 8 + 3, none⟩ = some (.int .i64 s.d.n) ∧ w.cell? ⟨g, o + i * 8 + 4, none⟩ = some (.int .i64 s.d.e) ∧ w.cell? ⟨g, o + i * 8 + 5, none⟩ = some (.int .i64 s.d.s) ∧ w.cell? ⟨g, o + i * 8 + 6, none⟩ = some (.int .i64 s.d.w) ∧ w.cell? ⟨g, o + i * 8 + 7, none⟩ = some (.int .i64 s.d.b) := by
  have k := h.2 i s hi
  exact ⟨k 0 _ rfl, k 1 _ rfl, k 2 _ rfl, k 3 _ rfl, k 4 _ rfl, k 5 _ rfl, k 6 _ rfl, k 7 _ rfl⟩
/-- A value that is a slice of states. -/
def StsIn (w : World) (v : Value) (L : List St) : Prop :=
  (∃ p cap, v = .slice p 0 cap ∧ L = []) ∨ (∃ g o cap, v = .slice (some ⟨g, o, none⟩) L.length cap ∧ 0 < L.length ∧ L.length ≤ maxLen ∧ StAt w g o L)
theorem stsIn_to {w w0 w1 : World} {v : Value} {L : List St} (hb : Below w0.heap.size w0 w1) (h : StsIn w v L) (e : w0.heap = w.heap) : StsIn w1 v L := by
  rcases h with h | ⟨g, o, cap, h1, h2, h3, h4⟩
  · exact .inl h
  · exact .inr ⟨g, o, cap, h1, h2, h3, stAt_to hb h4 e⟩
theorem state_cells {H : Type} {enc : TypeId × Value → H} {w : World} {base : Nat} {spare : Nat → Bool} {held : Bool} {fuel : Nat} {cs : List Value} {x : DataW H × List MemPlace} (hf : DataW.trod enc Tryd.prog w base spare held fuel 61 cs = some x) (hsz : cs.length = 8) : ∃ s : St, cs = scells s := by
  match cs, hsz with
  | [c0, c1, c2, c3, c4, c5, c6, c7], _ =>
    obtain ⟨xs, n, _, hx, _, hlen, hg⟩ := DataW.trod_struct Tryd.underlying61 hf
    have g0 := hg 0 _ rfl
    have g1 := hg 1 _ rfl
    have g2 := hg 2 _ rfl
    have hl : ∀ j, j < 3 → ∃ y, xs[j]? = some y := fun j hj => ⟨xs[j]'(by simp_all), List.getElem?_eq_getElem _⟩
    obtain ⟨y0, e0⟩ := hl 0 (by omega)
    obtain ⟨y1, e1⟩ := hl 1 (by omega)
    obtain ⟨y2, e2⟩ := hl 2 (by omega)
    obtain ⟨a0, rfl, wf0⟩ := one_int c0 y0 (g0.trans e0)
    obtain ⟨a1, rfl, wf1⟩ := one_int c1 y1 (g1.trans e1)
    have h2 : DataW.trod enc Tryd.prog w base spare held n 59 [c2, c3, c4, c5, c6, c7] = some y2 := g2.trans e2
    obtain ⟨zs, m, _, hz, _, hzl, hq⟩ := DataW.trod_struct Tryd.underlying59 h2
    have q0 := hq 0 _ rfl
    have q1 := hq 1 _ rfl
    have q2 := hq 2 _ rfl
    have q3 := hq 3 _ rfl
    have q4 := hq 4 _ rfl
    have q5 := hq 5 _ rfl
    have kl : ∀ j, j < 6 → ∃ y, zs[j]? = some y := fun j hj => ⟨zs[j]'(by simp_all), List.getElem?_eq_getElem _⟩
    obtain ⟨z0, k0⟩ := kl 0 (by omega)
    obtain ⟨z1, k1⟩ := kl 1 (by omega)
    obtain ⟨z2, k2⟩ := kl 2 (by omega)
    obtain ⟨z3, k3⟩ := kl 3 (by omega)
    obtain ⟨z4, k4⟩ := kl 4 (by omega)
    obtain ⟨z5, k5⟩ := kl 5 (by omega)
    obtain ⟨b0, rfl, _⟩ := one_int c2 z0 (q0.trans k0)
    obtain ⟨b1, rfl, _⟩ := one_int c3 z1 (q1.trans k1)
    obtain ⟨b2, rfl, _⟩ := one_int c4 z2 (q2.trans k2)
    obtain ⟨b3, rfl, _⟩ := one_int c5 z3 (q3.trans k3)
    obtain ⟨b4, rfl, _⟩ := one_int c6 z4 (q4.trans k4)
    obtain ⟨b5, rfl, _⟩ := one_int c7 z5 (q5.trans k5)
    exact ⟨⟨a0, a1, ⟨b0, b1, b2, b3, b4, b5⟩⟩, rfl⟩
instance : Inhabited St := ⟨⟨0, 0, ⟨0, 0, 0, 0, 0, 0⟩⟩⟩
/-- A slice of states that comes in. -/
theorem open_states {H : Type} {enc : TypeId × Value → H} {w : World} {base : Nat} {spare : Nat → Bool} {held : Bool} {r : Reach} {b0 : Nat} {v : Value} {x : DataW H} {p : List MemPlace}
    (hv : Value.okWide Tryd.prog w r b0 22 v) (h : DataW.Trod enc Tryd.prog w base spare held 22 v x p) : ∃ L : List St, StsIn w v L := by
  obtain ⟨a0, len0, cap0, rfl⟩ := okWide_slice Tryd.underlying22 hv
  obtain ⟨fuel, hf⟩ := h
  rcases Go.Deep.open_slice Tryd.underlying22 hf with ⟨h1, _⟩ | ⟨a, len, cap, m, n, D, Pl, hcs, hb, hl, hm, hmm, hx, hi⟩
  · simp [Value.cells] at h1
    obtain ⟨rfl, rfl, rfl⟩ := h1
    exact ⟨[], .inl ⟨none, 0, rfl, rfl⟩⟩
  · simp [Value.cells] at hcs
    obtain ⟨rfl, rfl, rfl⟩ := hcs
    have hlm : len0 ≤ m := by rw [hmm]; split <;> omega
    have hc : ∀ i, i < len0 → ∃ s : St, ∀ (j : Nat) (v : Value), (scells s)[j]? = some v → w.cell? (a.add (i * 8 + j)) = some v := by
      intro i hil
      obtain ⟨cs', hc1, hc2⟩ := hi i (by omega)
      rw [cells_state] at hc1
      obtain ⟨_, hcl, hat⟩ := World.cells?_some hc1
      obtain ⟨s, rfl⟩ := state_cells hc2 hcl
      refine ⟨s, fun j v hj => ?_⟩
      have hj8 : j < 8 := by
        have := (List.getElem?_eq_some_iff.1 hj).1
        simpa [scells] using this
      have := hat j hj8
      rw [Go.Deep.add_add] at this
      rw [this]
      exact hj
    obtain ⟨f, hf2⟩ := Go.Deep.choose_lt hc
    by_cases h0 : len0 = 0
    · subst h0
      exact ⟨[], .inl ⟨some a, cap0, rfl, rfl⟩⟩
    · obtain ⟨b, off, spot⟩ := a
      have hspot : spot = none := by
        have := hf2 0 (by omega) 0 _ rfl
        simpa [Addr.add] using World.cell?_spot this
      subst hspot
      refine ⟨(List.range len0).map f, .inr ⟨b, off, cap0, by simp, by simp; omega, by simp; omega, ?_, ?_⟩⟩
      · have := hf2 0 (by omega) 0 _ rfl
        exact World.block_lt_of_cell? w _ this
      · intro i s hs j v hj
        have hil : i < len0 := by
          have := (List.getElem?_eq_some_iff.1 hs).1
          simpa using this
        rw [List.getElem?_map, List.getElem?_range hil] at hs
        obtain rfl : f i = s := by simpa using hs
        have := hf2 i hil j v hj
        rw [Go.WideShapes.add_plain] at this
        exact this
end Go.Proofs.YtdndegonpdakkaaDoor
