/- The model's list of found states: its rows of nodes and of numbers. -/
import Derived.Test.YthdkhikkdcjifaaDoorWyC
import Derived.Test.YthdkhikkdcjifaaDoorInts
import Derived.Laws.OwnMore
import Derived.Deep.RegionLaw
namespace Go.Proofs.YthdkhikkdcjifaaDoor
set_option maxRecDepth 100000
set_option linter.all false
open Go.RowKit

/-- A node as it lies in memory: what has been found, and the numbers of the next ones. -/
structure WN where
  s : St
  far : Nat
  cnt : Int
  bf : Int
  dr : Int
  nx : Nat → Int
def wnC (x : WN) : List Value := [.int .i64 x.s.x, .int .i64 x.s.y, .int .i64 x.s.d.t, .int .i64 x.s.d.n, .int .i64 x.s.d.e, .int .i64 x.s.d.s, .int .i64 x.s.d.w, .int .i64 x.s.d.b, .int .i64 (x.far : Int), .int .i64 x.cnt, .int .i64 x.bf, .int .i64 x.dr, .int .i64 (x.nx 0), .int .i64 (x.nx 1), .int .i64 (x.nx 2), .int .i64 (x.nx 3)]
/-- What of a node the search has found. -/
def coreW (x : WN) : St × Nat × Int × Int × Int := (x.s, x.far, x.cnt, x.bf, x.dr)
def coreN (q : Nd) : St × Nat × Int × Int × Int := (q.s, q.far, wrap64 (q.ws.length : Int), q.bf, q.dr)
def wnL (L : List WN) : List Value := L.flatMap wnC
theorem wnC_len (x : WN) : (wnC x).length = 16 := rfl
theorem wnL_len : ∀ L : List WN, (wnL L).length = L.length * 16
  | [] => rfl
  | x :: L => by
    have ih := wnL_len L
    show (wnC x ++ wnL L).length = _
    rw [List.length_append, wnC_len, ih, List.length_cons]
    omega
theorem wnL_snoc (L : List WN) (x : WN) : wnL (L ++ [x]) = wnL L ++ wnC x := by simp [wnL]
theorem wnL_get : ∀ (L : List WN) (k : Nat) (x : WN), L[k]? = some x → ∀ i, i < 16 → (wnL L)[k * 16 + i]? = (wnC x)[i]?
  | [], _, _, h, _, _ => by simp at h
  | a :: L, 0, x, h, i, hi => by
    simp at h
    subst h
    show (wnC a ++ wnL L)[0 * 16 + i]? = _
    rw [List.getElem?_append_left (by rw [wnC_len]; omega)]
    simp
  | a :: L, k + 1, x, h, i, hi => by
    have ih := wnL_get L k x (by simpa using h) i hi
    show (wnC a ++ wnL L)[(k + 1) * 16 + i]? = _
    rw [List.getElem?_append_right (by rw [wnC_len]; omega), ← ih, wnC_len]
    congr 1
    omega
theorem wnL_set : ∀ (L : List WN) (k : Nat) (x y : WN) (i : Nat) (v : Value), L[k]? = some x → i < 16 → wnC y = (wnC x).set i v → (wnL L).set (k * 16 + i) v = wnL (L.set k y)
  | [], _, _, _, _, _, h, _, _ => by simp at h
  | a :: L, 0, x, y, i, v, h, hi, hy => by
    simp at h
    subst h
    show (wnC a ++ wnL L).set (0 * 16 + i) v = wnC y ++ wnL L
    rw [List.set_append_left _ _ (by rw [wnC_len]; omega), hy]
    simp
  | a :: L, k + 1, x, y, i, v, h, hi, hy => by
    have ih := wnL_set L k x y i v (by simpa using h) hi hy
    show (wnC a ++ wnL L).set ((k + 1) * 16 + i) v = wnC a ++ wnL (L.set k y)
    rw [List.set_append_right _ _ (by rw [wnC_len]; omega), ← ih, wnC_len]
    congr 2
    omega
def upd (f : Nat → Int) (j : Nat) (v : Int) : Nat → Int := fun i => if i = j then v else f i
theorem wnC_next (x : WN) (j : Nat) (hj : j < 4) (v : Int) : wnC ⟨x.s, x.far, x.cnt, x.bf, x.dr, upd x.nx j v⟩ = (wnC x).set (12 + j) (.int .i64 v) := by
  match j, hj with
  | 0, _ => rfl
  | 1, _ => rfl
  | 2, _ => rfl
  | 3, _ => rfl
theorem wnC_cnt (x : WN) (c : Int) : wnC ⟨x.s, x.far, c, x.bf, x.dr, x.nx⟩ = (wnC x).set 9 (.int .i64 c) := rfl
def codesV (Cs : List Int) : List Value := Cs.map (fun a => Value.int .i64 a)
theorem codesV_len (Cs : List Int) : (codesV Cs).length = Cs.length := by simp [codesV]
theorem codesV_get {Cs : List Int} {k : Nat} {a : Int} (h : Cs[k]? = some a) : (codesV Cs)[k]? = some (.int .i64 a) := by simp [codesV, h]
theorem info_node : (Tryd.prog.info? 77).map (fun i => (i.zero, i.size, i.bytes)) = some (some (.agg #[.int .i64 0, .int .i64 0, .int .i64 0, .int .i64 0, .int .i64 0, .int .i64 0, .int .i64 0, .int .i64 0, .int .i64 0, .int .i64 0, .int .i64 0, .int .i64 0, .int .i64 0, .int .i64 0, .int .i64 0, .int .i64 0]), 16, 128) := by kernel_rfl
theorem info_intW : (Tryd.prog.info? 3).map (fun i => (i.zero, i.size, i.bytes)) = some (some (.int .i64 0), 1, 8) := by kernel_rfl
/-- A row of nodes and a row of numbers lie apart. -/
theorem apart_NI {w : World} {B B' n m : Nat} {v u : Value} {xs ys : List Value} (h1 : w.ownsRow B 77 16 v n xs) (h2 : w.ownsRow B' 3 1 u m ys) : v.ownBlock = none ∨ v.ownBlock ≠ u.ownBlock := by
  rcases h1.2 with ⟨h0, _⟩ | ⟨g, cap, cur, hv, _, hh, _⟩
  · rw [h0]; exact .inl rfl
  · rcases h2.2 with ⟨h0, _⟩ | ⟨g', cap', cur', hu, _, hh', _⟩
    · rw [hv, h0]
      exact .inr (by simp [Value.ownBlock])
    · refine .inr (fun e => ?_)
      rw [hv, hu] at e
      have e' : g = g' := by simpa [Value.ownBlock] using e
      subst e'
      rw [hh] at hh'
      have := Option.some.inj hh'
      simp at this
theorem apart_NI' {w : World} {B B' n m : Nat} {v u : Value} {xs ys : List Value} (h1 : w.ownsRow B 77 16 v n xs) (h2 : w.ownsRow B' 3 1 u m ys) : u.ownBlock = none ∨ u.ownBlock ≠ v.ownBlock := by
  rcases apart_NI h1 h2 with e | e
  · rcases hu : u.ownBlock with _ | i
    · exact .inl rfl
    · rw [e]; exact .inr (by simp)
  · exact .inr (fun e' => e e'.symm)

/-- What holds at each head of the model's loops. -/
structure WyI (w : World) (g n cap W H : Nat) (fl : List UInt8) (s0 : St) (v u : Value) (L : List WN) (Cs : List Int) (wr : World) : Prop where
  row : wr.ownsRow (w.heap.size + 2) 77 16 v L.length (wnL L)
  cod : wr.ownsRow (w.heap.size + 2) 3 1 u Cs.length (codesV Cs)
  grd : IsG wr w.heap.size (W : Int) (H : Int) (.slice (some ⟨g, 0, none⟩) n cap)
  st : IsS wr (w.heap.size + 1) s0 30
  byt : BytesAt wr g fl
  below : Below w.heap.size w wr
theorem WyI.to {w wr w0 w1 : World} {g n cap W H : Nat} {fl : List UInt8} {s0 : St} {v u : Value} {L : List WN} {Cs : List Int} (hb : Below w0.heap.size w0 w1) (h : WyI w g n cap W H fl s0 v u L Cs wr) (e : w0.heap = wr.heap) (e1 : w0.os = wr.os) (e2 : w0.tape = wr.tape) (e3 : w0.output = wr.output) : WyI w g n cap W H fl s0 v u L Cs w1 :=
  ⟨own_to hb h.row e, own_to hb h.cod e, isG_to hb h.grd e, isS_to hb h.st e, bytesAt_to hb h.byt e, below_to hb h.below h.below.size e e1 e2 e3⟩
theorem WyI.alloc {w wr : World} {g n cap W H : Nat} {fl : List UInt8} {s0 : St} {v u : Value} {L : List WN} {Cs : List Int} (h : WyI w g n cap W H fl s0 v u L Cs wr) (o : Obj) : WyI w g n cap W H fl s0 v u L Cs (wr.alloc o) := h.to (w0 := wr) ((Below.refl _ _).alloc (Nat.le_refl _) _) rfl rfl rfl rfl
theorem bytes_block {w w' : World} {g : Nat} {L : List UInt8} (h : BytesAt w g L) (e : w'.heap[g]? = w.heap[g]?) : BytesAt w' g L := by
  obtain ⟨cur, h1, h2⟩ := h
  exact ⟨cur, e.trans h1, h2⟩
theorem IsG.keptW {w w1 : World} {b : Nat} {x y : Int} {v : Value} {row : Option Nat} (h : IsG w b x y v) (hg : w.grownBy w1 row) (hne : some b ≠ row) : IsG w1 b x y v := (hg.block b h.lt hne).trans h
/-- One of the two rows has turned; all else stands. -/
theorem WyI.rest {w wr w5 : World} {g n cap W H : Nat} {fl : List UInt8} {s0 : St} {v u : Value} {L : List WN} {Cs : List Int} (h : WyI w g n cap W H fl s0 v u L Cs wr) (hgl : g < w.heap.size) {k : Option Nat} (hk : ∀ i, k = some i → w.heap.size + 2 ≤ i) (hg : wr.grownBy w5 k) :
    IsG w5 w.heap.size (W : Int) (H : Int) (.slice (some ⟨g, 0, none⟩) n cap) ∧ IsS w5 (w.heap.size + 1) s0 30 ∧ BytesAt w5 g fl ∧ Below w.heap.size w w5 := by
  have ne : ∀ i, i < w.heap.size + 2 → some i ≠ k := fun i hi e => by have := hk i e.symm; omega
  exact ⟨h.grd.keptW hg (ne _ (by omega)), h.st.kept hg (ne _ (by omega)), bytes_block h.byt (hg.block g h.byt.lt (ne g (by omega))), h.below.grown hg h.below.size (fun i hi => by have := hk i hi; omega)⟩
theorem WyI.push0 {w wr w5 : World} {g n cap W H : Nat} {fl : List UInt8} {s0 : St} {v u v' : Value} {L L' : List WN} {Cs : List Int} (h : WyI w g n cap W H fl s0 v u L Cs wr) (hgl : g < w.heap.size)
    (hown : w5.ownsRow (w.heap.size + 2) 77 16 v' L'.length (wnL L')) (hg : wr.grownBy w5 v.ownBlock) : WyI w g n cap W H fl s0 v' u L' Cs w5 := by
  obtain ⟨g5, s5, y5, q5⟩ := h.rest hgl (fun i hi => (h.row.lt i hi).1) hg
  exact ⟨hown, h.cod.kept hg (apart_NI' h.row h.cod), g5, s5, y5, q5⟩
theorem WyI.push1 {w wr w5 : World} {g n cap W H : Nat} {fl : List UInt8} {s0 : St} {v u u' : Value} {L : List WN} {Cs Cs' : List Int} (h : WyI w g n cap W H fl s0 v u L Cs wr) (hgl : g < w.heap.size)
    (hown : w5.ownsRow (w.heap.size + 2) 3 1 u' Cs'.length (codesV Cs')) (hg : wr.grownBy w5 u.ownBlock) : WyI w g n cap W H fl s0 v u' L Cs' w5 := by
  obtain ⟨g5, s5, y5, q5⟩ := h.rest hgl (fun i hi => (h.cod.lt i hi).1) hg
  exact ⟨h.row.kept hg (apart_NI h.row h.cod), hown, g5, s5, y5, q5⟩
theorem grownCell (w : World) (p : Addr) (x : Value) : w.grownBy (w.setCell p x) (some p.block) :=
  have hb := (Below.refl 0 w).setCell (p := p) (Nat.zero_le _) x
  ⟨hb.os, hb.tape, hb.output, hb.size, fun i _ hne => Below.heap_setCell w p x i (fun e => hne (by rw [e]))⟩
/-- A cell of a node is stored. -/
theorem WyI.store {w wr : World} {g n cap W H g1 c1 : Nat} {fl : List UInt8} {s0 : St} {u : Value} {L : List WN} {Cs : List Int} (h : WyI w g n cap W H fl s0 (.slice (some ⟨g1, 0, none⟩) L.length c1) u L Cs wr) (hgl : g < w.heap.size)
    {k i : Nat} {x y : WN} {b : Value} (hx : L[k]? = some x) (hi : i < 16) (hy : wnC y = (wnC x).set i b) (hb1 : b.oneCell' = true) : WyI w g n cap W H fl s0 (.slice (some ⟨g1, 0, none⟩) L.length c1) u (L.set k y) Cs (wr.setCell ⟨g1, k * 16 + i, none⟩ b) := by
  have hk := (List.getElem?_eq_some_iff.1 hx).1
  refine h.push0 hgl ?_ (grownCell wr ⟨g1, k * 16 + i, none⟩ b)
  rw [List.length_set, ← wnL_set L k x y i b hx hi hy]
  exact own_put h.row (k * 16 + i) (by omega) b
/-- All that a walk asks of the two rows and the boxes. -/
theorem WyI.lts {w wr : World} {g n cap W H g1 c1 k : Nat} {fl : List UInt8} {s0 : St} {u : Value} {L : List WN} {Cs : List Int} (h : WyI w g n cap W H fl s0 (.slice (some ⟨g1, 0, none⟩) L.length c1) u L Cs wr) {q : WN} (hx : L[k]? = some q) :
    w.heap.size < wr.heap.size ∧ g1 < wr.heap.size ∧ (wr.cell? ⟨g1, k * 16, none⟩ = some (.int .i64 q.s.x) ∧ wr.cell? ⟨g1, k * 16 + 1, none⟩ = some (.int .i64 q.s.y) ∧ wr.cell? ⟨g1, k * 16 + 2, none⟩ = some (.int .i64 q.s.d.t) ∧ wr.cell? ⟨g1, k * 16 + 3, none⟩ = some (.int .i64 q.s.d.n) ∧ wr.cell? ⟨g1, k * 16 + 4, none⟩ = some (.int .i64 q.s.d.e) ∧ wr.cell? ⟨g1, k * 16 + 5, none⟩ = some (.int .i64 q.s.d.s) ∧ wr.cell? ⟨g1, k * 16 + 6, none⟩ = some (.int .i64 q.s.d.w) ∧ wr.cell? ⟨g1, k * 16 + 7, none⟩ = some (.int .i64 q.s.d.b) ∧ wr.cell? ⟨g1, k * 16 + 8, none⟩ = some (.int .i64 (q.far : Int)) ∧ wr.cell? ⟨g1, k * 16 + 9, none⟩ = some (.int .i64 q.cnt) ∧ wr.cell? ⟨g1, k * 16 + 10, none⟩ = some (.int .i64 q.bf) ∧ wr.cell? ⟨g1, k * 16 + 11, none⟩ = some (.int .i64 q.dr)) ∧ wr.cell? ⟨w.heap.size, 0, none⟩ = some (.int .i64 (W : Int)) ∧ wr.cell? ⟨w.heap.size, 1, none⟩ = some (.int .i64 (H : Int)) ∧ wr.cell? ⟨w.heap.size, 2, none⟩ = some (.slice (some ⟨g, 0, none⟩) n cap) := by
  have hk := (List.getElem?_eq_some_iff.1 hx).1
  obtain ⟨l1, ⟨b0, b1, b2⟩, -⟩ := h.grd.all
  obtain ⟨g', c', h1, -, h2⟩ := own_form h.row (by omega)
  have e : g1 = g' := by injection h1 with h1; injection h1 with h1; injection h1
  have hc : ∀ i x, i < 16 → (wnC q)[i]? = some x → wr.cell? ⟨g1, k * 16 + i, none⟩ = some x := fun i x hi hx' => (h.row.cellAt (k * 16 + i) (by omega)).trans ((wnL_get L k _ hx i hi).trans hx')
  exact ⟨l1, by rw [e]; exact h2, ⟨hc 0 _ (by omega) rfl, hc 1 _ (by omega) rfl, hc 2 _ (by omega) rfl, hc 3 _ (by omega) rfl, hc 4 _ (by omega) rfl, hc 5 _ (by omega) rfl, hc 6 _ (by omega) rfl, hc 7 _ (by omega) rfl, hc 8 _ (by omega) rfl, hc 9 _ (by omega) rfl, hc 10 _ (by omega) rfl, hc 11 _ (by omega) rfl⟩, b0, b1, b2⟩
theorem WyI.nextc {w wr : World} {g n cap W H g1 c1 k : Nat} {fl : List UInt8} {s0 : St} {u : Value} {L : List WN} {Cs : List Int} (h : WyI w g n cap W H fl s0 (.slice (some ⟨g1, 0, none⟩) L.length c1) u L Cs wr) {q : WN} (hx : L[k]? = some q) {j : Nat} (hj : j < 4) :
    wr.cell? ⟨g1, k * 16 + 12 + j, none⟩ = some (.int .i64 (q.nx j)) ∧ wr.frozen? ⟨g1, k * 16 + 12 + j, none⟩ = false := by
  have hk := (List.getElem?_eq_some_iff.1 hx).1
  refine ⟨?_, own_free h.row _⟩
  rw [Nat.add_assoc]
  refine (h.row.cellAt (k * 16 + (12 + j)) (by omega)).trans ((wnL_get L k _ hx (12 + j) (by omega)).trans ?_)
  match j, hj with
  | 0, _ => rfl
  | 1, _ => rfl
  | 2, _ => rfl
  | 3, _ => rfl
theorem WyI.codes {w wr : World} {g n cap W H g2 c2 : Nat} {fl : List UInt8} {s0 : St} {v : Value} {L : List WN} {Cs : List Int} (h : WyI w g n cap W H fl s0 v (.slice (some ⟨g2, 0, none⟩) Cs.length c2) L Cs wr) : ∀ k a, Cs[k]? = some a → wr.cell? ⟨g2, k, none⟩ = some (.int .i64 a) := by
  intro k a ha
  have hk := (List.getElem?_eq_some_iff.1 ha).1
  exact (h.cod.cellAt k (by omega)).trans (codesV_get ha)
theorem WyI.forms {w wr : World} {g n cap W H : Nat} {fl : List UInt8} {s0 : St} {v u : Value} {L : List WN} {Cs : List Int} (h : WyI w g n cap W H fl s0 v u L Cs wr) (h1 : 0 < L.length) (h2 : 0 < Cs.length) : ∃ g1 c1 g2 c2, v = .slice (some ⟨g1, 0, none⟩) L.length c1 ∧ u = .slice (some ⟨g2, 0, none⟩) Cs.length c2 := by
  obtain ⟨g1, c1, e1, -⟩ := own_form h.row h1
  obtain ⟨g2, c2, e2, -⟩ := own_form h.cod h2
  exact ⟨g1, c1, g2, c2, e1, e2⟩
end Go.Proofs.YthdkhikkdcjifaaDoor
