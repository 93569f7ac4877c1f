/- The map of the search: from dice to words, as the list of what has been found. -/
import Derived.Test.YthdkhikkdcjifaaDoorBase
import Derived.Test.YthdkhikkdcjifaaDoorPure
import Derived.Maps.Own
import Derived.DeepKeys4
namespace Go.Proofs.YthdkhikkdcjifaaDoor
set_option maxRecDepth 100000
set_option linter.all false
open Go.RowKit Go.Maps Go.ChangeMaps

theorem laidOut' : laidOutB Tryd.prog = true := by kernel_rfl
theorem row_die : 28 < Tryd.prog.types.size := of_decide_eq_true (by kernel_rfl)
theorem wide_die : (match Tryd.prog.underlying 28 with | some (.array _ _) | some (.struct _) => true | _ => false) = true := by kernel_rfl
theorem law : Keyed Tryd.prog 28 := Keyed.of_law (deep_law_laid laidOut' (m := 2) (by omega) row_die (by kernel_rfl) wide_die)

theorem lit_wf {a : Int} (h : 0 ≤ a ∧ a ≤ 9) : (Lit.int .i64 a).wf = true := by
  have : ∀ n : Fin 10, (Lit.int .i64 (n.val : Int)).wf = true := by decide
  obtain ⟨n, rfl⟩ := Int.eq_ofNat_of_zero_le h.1
  exact this ⟨n, by omega⟩
theorem key_die {x : D} (h : goodB x = true) : ∃ l, keyOf Tryd.prog 28 (D.v x) = some l := by
  simp only [goodB, decide_eq_true_eq] at h
  have h0 := lit_wf (a := x.t) ⟨h.1, h.2.1⟩
  have h1 := lit_wf (a := x.n) ⟨h.2.2.1, h.2.2.2.1⟩
  have h2 := lit_wf (a := x.e) ⟨h.2.2.2.2.1, h.2.2.2.2.2.1⟩
  have h3 := lit_wf (a := x.s) ⟨h.2.2.2.2.2.2.1, h.2.2.2.2.2.2.2.1⟩
  have h4 := lit_wf (a := x.w) ⟨h.2.2.2.2.2.2.2.2.1, h.2.2.2.2.2.2.2.2.2.1⟩
  have h5 := lit_wf (a := x.b) ⟨h.2.2.2.2.2.2.2.2.2.2.1, h.2.2.2.2.2.2.2.2.2.2.2⟩
  have k1 : Tryd.prog.keyType 28 = true := by kernel_rfl
  have k2 : (D.v x).formed Tryd.prog 28 = true := by kernel_rfl
  have k3 : ∃ d, Tryd.prog.types.size + 1 = d + 2 := ⟨Tryd.prog.types.size - 1, by have := row_die; omega⟩
  have k4 : ∀ d a, (Lit.int .i64 a).wf = true → Tryd.prog.keyLits (d + 1) 3 [.int .i64 a] = some [.int .i64 a] := by
    intro d a ha
    unfold Program.keyLits
    rw [Tryd.underlying3]
    simp [ha]
  have c3 : Tryd.prog.cellsOf 3 = 1 := by kernel_rfl
  have c6 : Tryd.prog.cellsOf 28 = 6 := by kernel_rfl
  obtain ⟨d, hd⟩ := k3
  have k5 : ∃ ls, Tryd.prog.keyLits (d + 2) 28 (D.v x).cells.toList = some ls := by
    unfold Program.keyLits
    rw [Tryd.underlying28]
    simp [Value.cells, c3, c6, k4 d _ h0, k4 d _ h1, k4 d _ h2, k4 d _ h3, k4 d _ h4, k4 d _ h5]
  obtain ⟨ls, hls⟩ := k5
  unfold keyOf
  rw [Tryd.underlying28]
  simp only [k1, k2, hd, hls, Bool.and_self, if_true, Option.map_some]
  exact ⟨_, rfl⟩

/-- The entries of the map, by what has been found. -/
def entry (p : D × List UInt8) (i : Nat) : MapEntry := ⟨D.v p.1, .string ⟨p.2.toArray⟩, i⟩
def entries (L : Found) : List MapEntry := L.zipIdx.map fun q => entry q.1 q.2
def MapIs (w : World) (b : Nat) (L : Found) : Prop := w.heap[b]? = some (.map (entries L).toArray L.length)

theorem entries_snoc (L : Found) (p : D × List UInt8) : entries (L ++ [p]) = entries L ++ [entry p L.length] := by
  simp [entries, List.zipIdx_append]
theorem entries_get (L : Found) (j : Nat) (e : MapEntry) (h : (entries L)[j]? = some e) : ∃ p, L[j]? = some p ∧ e = entry p j := by
  simp only [entries, List.getElem?_map, Option.map_eq_some_iff] at h
  obtain ⟨⟨p, i⟩, h1, rfl⟩ := h
  rw [List.getElem?_zipIdx] at h1
  simp only [Option.map_eq_some_iff, Prod.mk.injEq] at h1
  obtain ⟨q, hq, rfl, rfl⟩ := h1
  exact ⟨q, hq, by simp⟩
theorem v_inj {x y : D} (h : D.v x = D.v y) : x = y := by
  simp only [D.v, Value.agg.injEq, Array.mk.injEq, List.cons.injEq, Value.int.injEq, true_and, and_true] at h
  obtain ⟨h0, h1, h2, h3, h4, h5⟩ := h
  exact D.ext' h0 h1 h2 h3 h4 h5

theorem zero_str (w : World) : (zeroValue 9).run Tryd.prog w = .ok (.string ⟨#[]⟩) w := by kernel_rfl

/-- What the search of a key in the entries comes to. -/
theorem find_die {d : D} (hd : goodB d = true) {L : Found} (hL : Good d L) {x : D} (hx : goodB x = true) (w : World) :
    ((Instr.findKey 28 (D.v x) (entries L)).run Tryd.prog w = .ok none w ∧ known L x = false) ∨
    ∃ j p, (Instr.findKey 28 (D.v x) (entries L)).run Tryd.prog w = .ok (some (j, .string ⟨p.2.toArray⟩)) w ∧ L[j]? = some p ∧ p.1 = x := by
  obtain ⟨kl, hk⟩ := key_die hx
  rcases law.find w hk (entries L) (by
    intro e he
    obtain ⟨j, hj⟩ := List.mem_iff_getElem?.1 he
    obtain ⟨p, hp, rfl⟩ := entries_get L j e hj
    exact key_die (orbit_good hd (hL.orb p (List.mem_of_getElem? hp)))) with ⟨h1, h2⟩ | ⟨j, e, h1, h2, h3⟩
  · refine .inl ⟨h1, ?_⟩
    rw [Bool.eq_false_iff]
    intro hkn
    obtain ⟨p, hp, rfl⟩ := List.mem_map.1 (known_iff.1 hkn)
    obtain ⟨j, hj⟩ := List.mem_iff_getElem?.1 hp
    have : entry p j ∈ entries L := by
      refine List.mem_iff_getElem?.2 ⟨j, ?_⟩
      simp [entries, hj]
    exact h2 _ this rfl
  · obtain ⟨p, hp, rfl⟩ := entries_get L j e h2
    exact .inr ⟨j, p, h1, hp, v_inj h3⟩

theorem MapIs.lt {w : World} {b : Nat} {L : Found} (h : MapIs w b L) : b < w.heap.size := by
  rcases Nat.lt_or_ge b w.heap.size with h' | h'
  · exact h'
  · simp [MapIs, Array.getElem?_eq_none h'] at h
theorem MapIs.below {w w0 w1 : World} {b : Nat} {L : Found} (hb : Below w0.heap.size w0 w1) (h : MapIs w b L) (e : w0.heap = w.heap) : MapIs w1 b L := by
  have := hb.block b (by rw [e]; exact h.lt)
  unfold MapIs at h ⊢
  rw [this, e]
  exact h
theorem MapIs.kept {w w1 : World} {b : Nat} {L : Found} {row : Option Nat} (h : MapIs w b L) (hg : w.grownBy w1 row) (hne : some b ≠ row) : MapIs w1 b L := (hg.block b h.lt hne).trans h
theorem MapIs.same {w w1 : World} {b : Nat} {L : Found} (h : MapIs w b L) (e : w1.heap[b]? = w.heap[b]?) : MapIs w1 b L := e.trans h

theorem setBlock_map {w : World} {b : Nat} {L M : Found} (h : MapIs w b L) : MapIs (setBlock w b (.map (entries M).toArray M.length)) b M := by
  have hl := h.lt
  unfold MapIs setBlock
  simp [hl]
theorem setBlock_grown {w : World} {b : Nat} {o : Obj} : w.grownBy (setBlock w b o) (some b) := by
  refine ⟨rfl, rfl, rfl, ?_, ?_⟩
  · simp [setBlock]
  · intro i hi hne
    have : i ≠ b := fun e => hne (by rw [e])
    simp only [setBlock]
    rw [Array.getElem?_setIfInBounds, if_neg (fun e => this e.symm)]
end Go.Proofs.YthdkhikkdcjifaaDoor
