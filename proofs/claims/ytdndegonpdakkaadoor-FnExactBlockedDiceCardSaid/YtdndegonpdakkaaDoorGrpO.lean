/- Groups: three states as an array: their block in memory. The state rolled by a byte. A copy of wide elements. The contract of groupOf: some states as a group. -/
import Derived.Test.YtdndegonpdakkaaDoorTogI
import Derived.Test.YtdndegonpdakkaaDoorRoll4
import Derived.Laws.CopyRow
import Derived.Laws.CopyOwn
import Derived.Laws.Rows
import Derived.Laws.Tables
namespace Go.Proofs.YtdndegonpdakkaaDoor
set_option maxRecDepth 100000
set_option linter.all false
open Go.RowKit

/-- A group's value. -/
abbrev gV (a b c : St) : Value := .agg #[.int .i64 a.x, .int .i64 a.y, .int .i64 a.d.t, .int .i64 a.d.n, .int .i64 a.d.e, .int .i64 a.d.s, .int .i64 a.d.w, .int .i64 a.d.b, .int .i64 b.x, .int .i64 b.y, .int .i64 b.d.t, .int .i64 b.d.n, .int .i64 b.d.e, .int .i64 b.d.s, .int .i64 b.d.w, .int .i64 b.d.b, .int .i64 c.x, .int .i64 c.y, .int .i64 c.d.t, .int .i64 c.d.n, .int .i64 c.d.e, .int .i64 c.d.s, .int .i64 c.d.w, .int .i64 c.d.b]
/-- Block B holds a group. -/
def IsP (w : World) (B : Nat) (a b c : St) : Prop := w.heap[B]? = some (.cells #[.int .i64 a.x, .int .i64 a.y, .int .i64 a.d.t, .int .i64 a.d.n, .int .i64 a.d.e, .int .i64 a.d.s, .int .i64 a.d.w, .int .i64 a.d.b, .int .i64 b.x, .int .i64 b.y, .int .i64 b.d.t, .int .i64 b.d.n, .int .i64 b.d.e, .int .i64 b.d.s, .int .i64 b.d.w, .int .i64 b.d.b, .int .i64 c.x, .int .i64 c.y, .int .i64 c.d.t, .int .i64 c.d.n, .int .i64 c.d.e, .int .i64 c.d.s, .int .i64 c.d.w, .int .i64 c.d.b] 70 (0, 0))
theorem IsP.lt {w : World} {B : Nat} {a b c : St} (h : IsP w B a b c) : B < w.heap.size := by
  rcases Nat.lt_or_ge B w.heap.size with h' | h'
  · exact h'
  · simp [IsP, Array.getElem?_eq_none h'] at h
theorem isP_to {w w0 w1 : World} {B : Nat} {a b c : St} (hb : Below w0.heap.size w0 w1) (h : IsP w B a b c) (e : w0.heap = w.heap) : IsP w1 B a b c := by
  have hl := h.lt
  have := hb.block B (by rw [e]; exact hl)
  unfold IsP at h ⊢
  rw [this, e]
  exact h
theorem IsP.new {w : World} {a b c : St} : IsP (w.alloc (.cells #[.int .i64 a.x, .int .i64 a.y, .int .i64 a.d.t, .int .i64 a.d.n, .int .i64 a.d.e, .int .i64 a.d.s, .int .i64 a.d.w, .int .i64 a.d.b, .int .i64 b.x, .int .i64 b.y, .int .i64 b.d.t, .int .i64 b.d.n, .int .i64 b.d.e, .int .i64 b.d.s, .int .i64 b.d.w, .int .i64 b.d.b, .int .i64 c.x, .int .i64 c.y, .int .i64 c.d.t, .int .i64 c.d.n, .int .i64 c.d.e, .int .i64 c.d.s, .int .i64 c.d.w, .int .i64 c.d.b] 70)) w.heap.size a b c := by
  show (w.heap.push _)[w.heap.size]? = _
  simp
theorem IsP.alloc {w : World} {B : Nat} {a b c : St} (h : IsP w B a b c) (o : Obj) : IsP (w.alloc o) B a b c := (Below.heap_alloc w o B h.lt).trans h
theorem IsP.new2 {w : World} {o : Obj} {a b c : St} : IsP ((w.alloc o).alloc (.cells #[.int .i64 a.x, .int .i64 a.y, .int .i64 a.d.t, .int .i64 a.d.n, .int .i64 a.d.e, .int .i64 a.d.s, .int .i64 a.d.w, .int .i64 a.d.b, .int .i64 b.x, .int .i64 b.y, .int .i64 b.d.t, .int .i64 b.d.n, .int .i64 b.d.e, .int .i64 b.d.s, .int .i64 b.d.w, .int .i64 b.d.b, .int .i64 c.x, .int .i64 c.y, .int .i64 c.d.t, .int .i64 c.d.n, .int .i64 c.d.e, .int .i64 c.d.s, .int .i64 c.d.w, .int .i64 c.d.b] 70)) (w.heap.size + 1) a b c := by
  have := IsP.new (w := w.alloc o) (a := a) (b := b) (c := c)
  simpa using this
theorem IsP.other {w : World} {B : Nat} {a b c : St} (h : IsP w B a b c) {p : Addr} (hp : B ≠ p.block) (u : Value) : IsP (w.setCell p u) B a b c := (Below.heap_setCell w p u B hp).trans h
set_option maxHeartbeats 1600000 in
theorem IsP.all {w : World} {B : Nat} {a b c : St} (h : IsP w B a b c) : w.cell? ⟨B, 0, none⟩ = some (.int .i64 a.x) ∧ w.cell? ⟨B, 1, none⟩ = some (.int .i64 a.y) ∧ w.cell? ⟨B, 2, none⟩ = some (.int .i64 a.d.t) ∧ w.cell? ⟨B, 3, none⟩ = some (.int .i64 a.d.n) ∧ w.cell? ⟨B, 4, none⟩ = some (.int .i64 a.d.e) ∧ w.cell? ⟨B, 5, none⟩ = some (.int .i64 a.d.s) ∧ w.cell? ⟨B, 6, none⟩ = some (.int .i64 a.d.w) ∧ w.cell? ⟨B, 7, none⟩ = some (.int .i64 a.d.b) ∧ w.cell? ⟨B, 8, none⟩ = some (.int .i64 b.x) ∧ w.cell? ⟨B, 9, none⟩ = some (.int .i64 b.y) ∧ w.cell? ⟨B, 10, none⟩ = some (.int .i64 b.d.t) ∧ w.cell? ⟨B, 11, none⟩ = some (.int .i64 b.d.n) ∧ w.cell? ⟨B, 12, none⟩ = some (.int .i64 b.d.e) ∧ w.cell? ⟨B, 13, none⟩ = some (.int .i64 b.d.s) ∧ w.cell? ⟨B, 14, none⟩ = some (.int .i64 b.d.w) ∧ w.cell? ⟨B, 15, none⟩ = some (.int .i64 b.d.b) ∧ w.cell? ⟨B, 16, none⟩ = some (.int .i64 c.x) ∧ w.cell? ⟨B, 17, none⟩ = some (.int .i64 c.y) ∧ w.cell? ⟨B, 18, none⟩ = some (.int .i64 c.d.t) ∧ w.cell? ⟨B, 19, none⟩ = some (.int .i64 c.d.n) ∧ w.cell? ⟨B, 20, none⟩ = some (.int .i64 c.d.e) ∧ w.cell? ⟨B, 21, none⟩ = some (.int .i64 c.d.s) ∧ w.cell? ⟨B, 22, none⟩ = some (.int .i64 c.d.w) ∧ w.cell? ⟨B, 23, none⟩ = some (.int .i64 c.d.b) := by
  unfold IsP at h
  simp [World.cell?, h]
set_option maxHeartbeats 1600000 in
theorem IsP.free {w : World} {B : Nat} {a b c : St} (h : IsP w B a b c) : ∀ j : Nat, w.frozen? ⟨B, j, none⟩ = false := by
  intro j
  unfold IsP at h
  simp [World.frozen?, h]
theorem IsP.cell {w : World} {B : Nat} {a b c : St} (h : IsP w B a b c) : ∀ (j : Nat) (v : Value), (cellsS [a, b, c])[j]? = some v → w.cell? ⟨B, j, none⟩ = some v := by
  intro j v hj
  have e : w.heap[B]? = some (.cells (cellsS [a, b, c]).toArray 70 (0, 0)) := h
  simp [World.cell?, e, hj]
theorem stAt_p {w : World} {B : Nat} {a b c : St} (h : IsP w B a b c) : StAt w B 0 [a, b, c] := by
  refine ⟨h.lt, fun i s hi j v hj => ?_⟩
  have hj8 : j < 8 := by
    have := (List.getElem?_eq_some_iff.1 hj).1
    simpa [scells] using this
  rw [Nat.zero_add]
  exact h.cell _ _ ((cellsS_get [a, b, c] i s hi j hj8).trans hj)

set_option maxHeartbeats 1600000 in
theorem IsP.put0 {w : World} {B : Nat} {a b c : St} (h : IsP w B a b c) (t : St) : IsP ((((((((w.setCell ⟨B, 0, none⟩ (.int .i64 t.x)).setCell ⟨B, 1, none⟩ (.int .i64 t.y)).setCell ⟨B, 2, none⟩ (.int .i64 t.d.t)).setCell ⟨B, 3, none⟩ (.int .i64 t.d.n)).setCell ⟨B, 4, none⟩ (.int .i64 t.d.e)).setCell ⟨B, 5, none⟩ (.int .i64 t.d.s)).setCell ⟨B, 6, none⟩ (.int .i64 t.d.w)).setCell ⟨B, 7, none⟩ (.int .i64 t.d.b)) B t b c := by
  have h0 := cells_set h 0 (by simp) (.int .i64 t.x)
  have h1 := cells_set h0 1 (by simp) (.int .i64 t.y)
  have h2 := cells_set h1 2 (by simp) (.int .i64 t.d.t)
  have h3 := cells_set h2 3 (by simp) (.int .i64 t.d.n)
  have h4 := cells_set h3 4 (by simp) (.int .i64 t.d.e)
  have h5 := cells_set h4 5 (by simp) (.int .i64 t.d.s)
  have h6 := cells_set h5 6 (by simp) (.int .i64 t.d.w)
  have h7 := cells_set h6 7 (by simp) (.int .i64 t.d.b)
  simpa [IsP] using h7
set_option maxHeartbeats 1600000 in
theorem IsP.put1 {w : World} {B : Nat} {a b c : St} (h : IsP w B a b c) (t : St) : IsP ((((((((w.setCell ⟨B, 8, none⟩ (.int .i64 t.x)).setCell ⟨B, 9, none⟩ (.int .i64 t.y)).setCell ⟨B, 10, none⟩ (.int .i64 t.d.t)).setCell ⟨B, 11, none⟩ (.int .i64 t.d.n)).setCell ⟨B, 12, none⟩ (.int .i64 t.d.e)).setCell ⟨B, 13, none⟩ (.int .i64 t.d.s)).setCell ⟨B, 14, none⟩ (.int .i64 t.d.w)).setCell ⟨B, 15, none⟩ (.int .i64 t.d.b)) B a t c := by
  have h0 := cells_set h 8 (by simp) (.int .i64 t.x)
  have h1 := cells_set h0 9 (by simp) (.int .i64 t.y)
  have h2 := cells_set h1 10 (by simp) (.int .i64 t.d.t)
  have h3 := cells_set h2 11 (by simp) (.int .i64 t.d.n)
  have h4 := cells_set h3 12 (by simp) (.int .i64 t.d.e)
  have h5 := cells_set h4 13 (by simp) (.int .i64 t.d.s)
  have h6 := cells_set h5 14 (by simp) (.int .i64 t.d.w)
  have h7 := cells_set h6 15 (by simp) (.int .i64 t.d.b)
  simpa [IsP] using h7
set_option maxHeartbeats 1600000 in
theorem IsP.put2 {w : World} {B : Nat} {a b c : St} (h : IsP w B a b c) (t : St) : IsP ((((((((w.setCell ⟨B, 16, none⟩ (.int .i64 t.x)).setCell ⟨B, 17, none⟩ (.int .i64 t.y)).setCell ⟨B, 18, none⟩ (.int .i64 t.d.t)).setCell ⟨B, 19, none⟩ (.int .i64 t.d.n)).setCell ⟨B, 20, none⟩ (.int .i64 t.d.e)).setCell ⟨B, 21, none⟩ (.int .i64 t.d.s)).setCell ⟨B, 22, none⟩ (.int .i64 t.d.w)).setCell ⟨B, 23, none⟩ (.int .i64 t.d.b)) B a b t := by
  have h0 := cells_set h 16 (by simp) (.int .i64 t.x)
  have h1 := cells_set h0 17 (by simp) (.int .i64 t.y)
  have h2 := cells_set h1 18 (by simp) (.int .i64 t.d.t)
  have h3 := cells_set h2 19 (by simp) (.int .i64 t.d.n)
  have h4 := cells_set h3 20 (by simp) (.int .i64 t.d.e)
  have h5 := cells_set h4 21 (by simp) (.int .i64 t.d.s)
  have h6 := cells_set h5 22 (by simp) (.int .i64 t.d.w)
  have h7 := cells_set h6 23 (by simp) (.int .i64 t.d.b)
  simpa [IsP] using h7
set_option maxHeartbeats 3200000 in
theorem IsP.set24 {w : World} {B : Nat} {a b c : St} (h : IsP w B a b c) (x y z : St) : IsP ((((((((((((((((((((((((w.setCell ⟨B, 0, none⟩ (.int .i64 x.x)).setCell ⟨B, 1, none⟩ (.int .i64 x.y)).setCell ⟨B, 2, none⟩ (.int .i64 x.d.t)).setCell ⟨B, 3, none⟩ (.int .i64 x.d.n)).setCell ⟨B, 4, none⟩ (.int .i64 x.d.e)).setCell ⟨B, 5, none⟩ (.int .i64 x.d.s)).setCell ⟨B, 6, none⟩ (.int .i64 x.d.w)).setCell ⟨B, 7, none⟩ (.int .i64 x.d.b)).setCell ⟨B, 8, none⟩ (.int .i64 y.x)).setCell ⟨B, 9, none⟩ (.int .i64 y.y)).setCell ⟨B, 10, none⟩ (.int .i64 y.d.t)).setCell ⟨B, 11, none⟩ (.int .i64 y.d.n)).setCell ⟨B, 12, none⟩ (.int .i64 y.d.e)).setCell ⟨B, 13, none⟩ (.int .i64 y.d.s)).setCell ⟨B, 14, none⟩ (.int .i64 y.d.w)).setCell ⟨B, 15, none⟩ (.int .i64 y.d.b)).setCell ⟨B, 16, none⟩ (.int .i64 z.x)).setCell ⟨B, 17, none⟩ (.int .i64 z.y)).setCell ⟨B, 18, none⟩ (.int .i64 z.d.t)).setCell ⟨B, 19, none⟩ (.int .i64 z.d.n)).setCell ⟨B, 20, none⟩ (.int .i64 z.d.e)).setCell ⟨B, 21, none⟩ (.int .i64 z.d.s)).setCell ⟨B, 22, none⟩ (.int .i64 z.d.w)).setCell ⟨B, 23, none⟩ (.int .i64 z.d.b)) B x y z := by
  have h0 := h.put0 x
  have h1 := h0.put1 y
  exact h1.put2 z
theorem below_set24 {B : Nat} {a w : World} {b : Nat} (h : Below B a w) (hb : B ≤ b) (x y z : St) : Below B a ((((((((((((((((((((((((w.setCell ⟨b, 0, none⟩ (.int .i64 x.x)).setCell ⟨b, 1, none⟩ (.int .i64 x.y)).setCell ⟨b, 2, none⟩ (.int .i64 x.d.t)).setCell ⟨b, 3, none⟩ (.int .i64 x.d.n)).setCell ⟨b, 4, none⟩ (.int .i64 x.d.e)).setCell ⟨b, 5, none⟩ (.int .i64 x.d.s)).setCell ⟨b, 6, none⟩ (.int .i64 x.d.w)).setCell ⟨b, 7, none⟩ (.int .i64 x.d.b)).setCell ⟨b, 8, none⟩ (.int .i64 y.x)).setCell ⟨b, 9, none⟩ (.int .i64 y.y)).setCell ⟨b, 10, none⟩ (.int .i64 y.d.t)).setCell ⟨b, 11, none⟩ (.int .i64 y.d.n)).setCell ⟨b, 12, none⟩ (.int .i64 y.d.e)).setCell ⟨b, 13, none⟩ (.int .i64 y.d.s)).setCell ⟨b, 14, none⟩ (.int .i64 y.d.w)).setCell ⟨b, 15, none⟩ (.int .i64 y.d.b)).setCell ⟨b, 16, none⟩ (.int .i64 z.x)).setCell ⟨b, 17, none⟩ (.int .i64 z.y)).setCell ⟨b, 18, none⟩ (.int .i64 z.d.t)).setCell ⟨b, 19, none⟩ (.int .i64 z.d.n)).setCell ⟨b, 20, none⟩ (.int .i64 z.d.e)).setCell ⟨b, 21, none⟩ (.int .i64 z.d.s)).setCell ⟨b, 22, none⟩ (.int .i64 z.d.w)).setCell ⟨b, 23, none⟩ (.int .i64 z.d.b)) :=
  h |>.setCell hb _ |>.setCell hb _ |>.setCell hb _ |>.setCell hb _ |>.setCell hb _ |>.setCell hb _ |>.setCell hb _ |>.setCell hb _ |>.setCell hb _ |>.setCell hb _ |>.setCell hb _ |>.setCell hb _ |>.setCell hb _ |>.setCell hb _ |>.setCell hb _ |>.setCell hb _ |>.setCell hb _ |>.setCell hb _ |>.setCell hb _ |>.setCell hb _ |>.setCell hb _ |>.setCell hb _ |>.setCell hb _ |>.setCell hb _
theorem below_put {B : Nat} {a w : World} {b : Nat} (h : Below B a w) (hb : B ≤ b) (u0 u1 u2 u3 u4 u5 u6 u7 : Value) (o0 o1 o2 o3 o4 o5 o6 o7 : Nat) : Below B a ((((((((w.setCell ⟨b, o0, none⟩ u0).setCell ⟨b, o1, none⟩ u1).setCell ⟨b, o2, none⟩ u2).setCell ⟨b, o3, none⟩ u3).setCell ⟨b, o4, none⟩ u4).setCell ⟨b, o5, none⟩ u5).setCell ⟨b, o6, none⟩ u6).setCell ⟨b, o7, none⟩ u7) :=
  h |>.setCell hb _ |>.setCell hb _ |>.setCell hb _ |>.setCell hb _ |>.setCell hb _ |>.setCell hb _ |>.setCell hb _ |>.setCell hb _
theorem und_group : Tryd.prog.underlying 70 = some (.array 3 57) := by kernel_rfl
theorem size_group : (Tryd.prog.info? 70).map (·.size) = some 24 := by kernel_rfl
theorem IsP.load {w : World} {B : Nat} {a b c : St} (h : IsP w B a b c) : (loadVar 70 ⟨B, 0, none⟩).run Tryd.prog w = .ok (gV a b c) w :=
  run_loadVar_row w B _ _ _ (0, 0) _ h und_group rfl size_group
set_option maxRecDepth 100000 in
theorem ret_group {fn : Func} {p : Tmp} {tmps : Array Value} {w : World} {B : Nat} {a b c : St} (h : fn.results = #[.cell p 70]) (hp : tmps.getD p undef = .pointer (some ⟨B, 0, none⟩)) (hd : IsP w B a b c) : (results fn tmps).run Tryd.prog w = .ok (gV a b c) w := by
  rw [results_cell h, hp]
  exact hd.load
set_option maxRecDepth 100000 in
theorem ret_group2 {fn : Func} {p u : Tmp} {tmps : Array Value} {w : World} {B : Nat} {a b c : St} {x : Bool} (h : fn.results = #[.cell p 70, .tmp u]) (hp : tmps.getD p undef = .pointer (some ⟨B, 0, none⟩)) (hu : tmps.getD u undef = .bool x) (hd : IsP w B a b c) :
    (results fn tmps).run Tryd.prog w = .ok (.tuple #[gV a b c, .bool x]) w := by
  rw [results_cell_tmp h, hp, hu]
  show ((loadVar 70 ⟨B, 0, none⟩).run Tryd.prog w).andThen _ = _
  rw [hd.load]
  rfl

/-! ### The state rolled -/
set_option maxHeartbeats 1600000 in
theorem rolledState_any (c : UInt8) (s : St) (w : World) (hc : 0 ≤ dirIx c.toNat) (hx : -100000 ≤ s.x ∧ s.x ≤ 100000) (hy : -100000 ≤ s.y ∧ s.y ≤ 100000) : Calls Tryd.prog 74 #[St.v s, .int .u8 (c.toNat : Int)] w fun e w' => e = .returned (St.v (rollT s (dirIx c.toNat))) ∧ Below w.heap.size w w' := by
  have S0 := (IsS.new (w := w) (s := s) (ty := 57)).alloc (.cells #[.int .i64 0, .int .i64 0, .int .i64 0, .int .i64 0, .int .i64 0, .int .i64 0, .int .i64 0, .int .i64 0] 57)
  have R0 := IsS.new2 (w := w) (o := (.cells #[.int .i64 s.x, .int .i64 s.y, .int .i64 s.d.t, .int .i64 s.d.n, .int .i64 s.d.e, .int .i64 s.d.s, .int .i64 s.d.w, .int .i64 s.d.b] 57)) (s := ⟨0, 0, ⟨0, 0, 0, 0, 0, 0⟩⟩) (ty := 57)
  have q0 : Below w.heap.size w ((w.alloc (.cells #[.int .i64 s.x, .int .i64 s.y, .int .i64 s.d.t, .int .i64 s.d.n, .int .i64 s.d.e, .int .i64 s.d.s, .int .i64 s.d.w, .int .i64 s.d.b] 57)).alloc (.cells #[.int .i64 0, .int .i64 0, .int .i64 0, .int .i64 0, .int .i64 0, .int .i64 0, .int .i64 0, .int .i64 0] 57)) := by go_grown
  generalize hW : (w.alloc (.cells #[.int .i64 s.x, .int .i64 s.y, .int .i64 s.d.t, .int .i64 s.d.n, .int .i64 s.d.e, .int .i64 s.d.s, .int .i64 s.d.w, .int .i64 s.d.b] 57)).alloc (.cells #[.int .i64 0, .int .i64 0, .int .i64 0, .int .i64 0, .int .i64 0, .int .i64 0, .int .i64 0, .int .i64 0] 57) = W0 at S0 R0 q0
  have HW := hide hW
  clear hW
  have HX := hide hx
  have HY := hide hy
  clear hx hy
  have HC : 0 ≤ dirIx c.toNat := hc
  rcases dir_cases c hc with rfl | rfl | rfl | rfl <;> clear hc HC
  · have HK := hide (show dirIx (110 : UInt8).toNat = 0 from by decide)
    rw [HK.out]
    obtain ⟨r, hr⟩ : ∃ r, r = rollT s 0 := ⟨_, rfl⟩
    rw [← hr]
    have HR := hide hr
    clear hr
    obtain ⟨l0, ⟨a0, a1, a2, a3, a4, a5, a6, a7⟩, -⟩ := S0.all
    go_enter Tryd.func74, Tryd.ntmps74
    go_upto_region 1 with (fail)
    rw [HW.out]
    go_wp2_with fail
    refine (rolledNorth_any s _ HX.out HY.out).mono ?_
    rintro e w1 ⟨rfl, hb1⟩
    rw [← HR.out]
    have R1 := isS_to hb1 R0 rfl
    have q1 := below_to hb1 q0 q0.size rfl rfl rfl rfl
    clear hb1 a0 a1 a2 a3 a4 a5 a6 a7
    obtain ⟨l1, ⟨c0, c1, c2, c3, c4, c5, c6, c7⟩, f0, f1, f2, f3, f4, f5, f6, f7⟩ := R1.all
    go_wp2
    refine bodyPost_ret (ret_state Tryd.results74 rfl (R1.set8 r)) rfl ⟨rfl, ?_⟩
    exact below_set8 q1 (show w.heap.size ≤ w.heap.size + 1 from by omega) r
  · have HK := hide (show dirIx (101 : UInt8).toNat = 1 from by decide)
    rw [HK.out]
    obtain ⟨r, hr⟩ : ∃ r, r = rollT s 1 := ⟨_, rfl⟩
    rw [← hr]
    have HR := hide hr
    clear hr
    obtain ⟨l0, ⟨a0, a1, a2, a3, a4, a5, a6, a7⟩, -⟩ := S0.all
    go_enter Tryd.func74, Tryd.ntmps74
    go_upto_region 1 with (fail)
    rw [HW.out]
    go_wp2_with fail
    refine (rolledEast_any s _ HX.out HY.out).mono ?_
    rintro e w1 ⟨rfl, hb1⟩
    rw [← HR.out]
    have R1 := isS_to hb1 R0 rfl
    have q1 := below_to hb1 q0 q0.size rfl rfl rfl rfl
    clear hb1 a0 a1 a2 a3 a4 a5 a6 a7
    obtain ⟨l1, ⟨c0, c1, c2, c3, c4, c5, c6, c7⟩, f0, f1, f2, f3, f4, f5, f6, f7⟩ := R1.all
    go_wp2
    refine bodyPost_ret (ret_state Tryd.results74 rfl (R1.set8 r)) rfl ⟨rfl, ?_⟩
    exact below_set8 q1 (show w.heap.size ≤ w.heap.size + 1 from by omega) r
  · have HK := hide (show dirIx (115 : UInt8).toNat = 2 from by decide)
    rw [HK.out]
    obtain ⟨r, hr⟩ : ∃ r, r = rollT s 2 := ⟨_, rfl⟩
    rw [← hr]
    have HR := hide hr
    clear hr
    obtain ⟨l0, ⟨a0, a1, a2, a3, a4, a5, a6, a7⟩, -⟩ := S0.all
    go_enter Tryd.func74, Tryd.ntmps74
    go_upto_region 1 with (fail)
    rw [HW.out]
    go_wp2_with fail
    refine (rolledSouth_any s _ HX.out HY.out).mono ?_
    rintro e w1 ⟨rfl, hb1⟩
    rw [← HR.out]
    have R1 := isS_to hb1 R0 rfl
    have q1 := below_to hb1 q0 q0.size rfl rfl rfl rfl
    clear hb1 a0 a1 a2 a3 a4 a5 a6 a7
    obtain ⟨l1, ⟨c0, c1, c2, c3, c4, c5, c6, c7⟩, f0, f1, f2, f3, f4, f5, f6, f7⟩ := R1.all
    go_wp2
    refine bodyPost_ret (ret_state Tryd.results74 rfl (R1.set8 r)) rfl ⟨rfl, ?_⟩
    exact below_set8 q1 (show w.heap.size ≤ w.heap.size + 1 from by omega) r
  · have HK := hide (show dirIx (119 : UInt8).toNat = 3 from by decide)
    rw [HK.out]
    obtain ⟨r, hr⟩ : ∃ r, r = rollT s 3 := ⟨_, rfl⟩
    rw [← hr]
    have HR := hide hr
    clear hr
    obtain ⟨l0, ⟨a0, a1, a2, a3, a4, a5, a6, a7⟩, -⟩ := S0.all
    go_enter Tryd.func74, Tryd.ntmps74
    go_upto_region 1 with (fail)
    rw [HW.out]
    go_wp2_with fail
    refine (rolledWest_any s _ HX.out HY.out).mono ?_
    rintro e w1 ⟨rfl, hb1⟩
    rw [← HR.out]
    have R1 := isS_to hb1 R0 rfl
    have q1 := below_to hb1 q0 q0.size rfl rfl rfl rfl
    clear hb1 a0 a1 a2 a3 a4 a5 a6 a7
    obtain ⟨l1, ⟨c0, c1, c2, c3, c4, c5, c6, c7⟩, f0, f1, f2, f3, f4, f5, f6, f7⟩ := R1.all
    go_wp2
    refine bodyPost_ret (ret_state Tryd.results74 rfl (R1.set8 r)) rfl ⟨rfl, ?_⟩
    exact below_set8 q1 (show w.heap.size ≤ w.heap.size + 1 from by omega) r

/-! ### A copy of wide elements -/
theorem run_copy_wide {P : Program} (w : World) (dT sT ty elem : TypeId) (g o dLen dCap : Nat) (a : Addr) (sLen sCap : Nat) (cur : Array Value) (t : TypeId) (cs : List Value) (z n : Nat)
    (hu : P.underlying dT = some (.slice elem)) (hs : (P.info? elem).map (·.size) = some z)
    (hg : w.heap[g]? = some (.cells cur t (0, 0))) (hm : Nat.min sLen dLen = n) (hn : cs.length = n * z)
    (hsrc : ∀ j v, cs[j]? = some v → w.cell? (a.add j) = some v) (hfit : o + cs.length ≤ cur.size) (h1 : ∀ v ∈ cs, v.oneCell' = true) :
    (Builtin.copy_ #[dT, sT] ty #[.slice (some ⟨g, o, none⟩) dLen dCap, .slice (some a) sLen sCap]).run P w =
      .ok (goInt n) (w.setRow g (cur.toList.take o ++ cs ++ cur.toList.drop (o + cs.length)).toArray) := by
  have hl := run_loadCells_list (P := P) w a cs hsrc
  have hst := run_storeCells_at P g o t cs 0 cur w hg (by simpa using hfit) h1
  cases hq : P.info? elem with
  | none => simp [hq] at hs
  | some i =>
    have hi : i.size = z := by simpa [hq] using hs
    simp [Builtin.copy_, run_underlying hu, Builtin.lenOf, Builtin.firstCells, sizeOf, typeInfo, hq, hi, hm, ← hn, hl, hst]
theorem wpList_copy_wide {P : Program} {w : World} {ops : Array Oper} {rest : List Oper} {o : Oper} {a : Act} {Q : Exit → Act → World → Prop} (hgd : o.guard = none) (d s : Operand) (dT sT : TypeId)
    (ho : o.op = .call { callee := .builtin .copy, args := #[d, s], argTypes := #[dT, sT] }) (elem : TypeId) (hu : P.underlying dT = some (.slice elem)) (z n : Nat) (hsz : (P.info? elem).map (·.size) = some z)
    (g off dLen dCap : Nat) (ad : Addr) (sLen sCap : Nat) (hd : a.eval d = .slice (some ⟨g, off, none⟩) dLen dCap) (hs : a.eval s = .slice (some ad) sLen sCap)
    (cur : Array Value) (t : TypeId) (hg : w.heap[g]? = some (.cells cur t (0, 0))) (cs : List Value) (hm : Nat.min sLen dLen = n) (hn : cs.length = n * z)
    (hsrc : ∀ j v, cs[j]? = some v → w.cell? (ad.add j) = some v) (hfit : off + cs.length ≤ cur.size) (h1 : ∀ v ∈ cs, v.oneCell' = true)
    (h : wpList P ops Q rest (a.put o.dst (goInt n)) (w.setRow g (cur.toList.take off ++ cs ++ cur.toList.drop (off + cs.length)).toArray)) : wpList P ops Q (o :: rest) a w := by
  refine wpList_plain hgd fun K hK => ?_
  have hrun := run_copy_wide (P := P) w dT sT o.type elem g off dLen dCap ad sLen sCap cur t cs z n hu hsz hg hm hn hsrc hfit h1
  unfold Oper.wp
  simp [execOp, ho, resolve, invoke, builtin, hd, hs, hrun, Result.andThen]
  simp only [List.append_assoc] at h
  exact hK _ _ h
end Go.Proofs.YtdndegonpdakkaaDoor
namespace Go.Proofs.YtdndegonpdakkaaDoor
set_option maxRecDepth 100000
set_option linter.all false
open Go.RowKit

/-- What stands for no die. -/
abbrev noS : St := ⟨-7, -7, ⟨0, 0, 0, 0, 0, 0⟩⟩
def pdS (L : List St) (i : Nat) : St := L.getD i noS
theorem stAt_src {w : World} {g : Nat} {L : List St} (h : StAt w g 0 L) : ∀ (j : Nat) (v : Value), (cellsS L)[j]? = some v → w.cell? ((⟨g, 0, none⟩ : Addr).add j) = some v := by
  intro j v hj
  have hl := (List.getElem?_eq_some_iff.1 hj).1
  rw [cellsS_len] at hl
  have hx : L[j / 8]? = some (L[j / 8]'(by omega)) := List.getElem?_eq_getElem (by omega)
  have h1 := cellsS_get L (j / 8) _ hx (j % 8) (by omega)
  rw [show j / 8 * 8 + j % 8 = j by omega, hj] at h1
  have h2 := h.2 (j / 8) _ hx (j % 8) v h1.symm
  rw [Go.WideShapes.add_plain]
  rw [show 0 + (j / 8 * 8 + j % 8) = 0 + j by omega] at h2
  exact h2
theorem size_st : (Tryd.prog.info? 57).map (·.size) = some 8 := by kernel_rfl
theorem cellsS_one (L : List St) : ∀ u ∈ cellsS L, u.oneCell' = true := by
  intro u hu
  unfold cellsS at hu
  obtain ⟨s, _, hs⟩ := List.mem_flatMap.1 hu
  exact scells_one s u hs

set_option maxHeartbeats 3200000 in
theorem groupOf_0 (gd : Nat) (w : World) (hD : StAt w gd 0 ([] : List St)) : Calls Tryd.prog 46 #[.slice (some ⟨gd, 0, none⟩) 0 0] w fun e w' => e = .returned (gV ⟨-7, -7, ⟨0, 0, 0, 0, 0, 0⟩⟩ ⟨-7, -7, ⟨0, 0, 0, 0, 0, 0⟩⟩ ⟨-7, -7, ⟨0, 0, 0, 0, 0, 0⟩⟩) ∧ Below w.heap.size w w' := by
  have q0 : Below w.heap.size w ((w.alloc (.cells #[.int .i64 0, .int .i64 0, .int .i64 0, .int .i64 0, .int .i64 0, .int .i64 0, .int .i64 0, .int .i64 0, .int .i64 0, .int .i64 0, .int .i64 0, .int .i64 0, .int .i64 0, .int .i64 0, .int .i64 0, .int .i64 0, .int .i64 0, .int .i64 0, .int .i64 0, .int .i64 0, .int .i64 0, .int .i64 0, .int .i64 0, .int .i64 0] 70)).alloc (.cells #[.int .i64 0, .int .i64 0, .int .i64 0, .int .i64 0, .int .i64 0, .int .i64 0, .int .i64 0, .int .i64 0, .int .i64 0, .int .i64 0, .int .i64 0, .int .i64 0, .int .i64 0, .int .i64 0, .int .i64 0, .int .i64 0, .int .i64 0, .int .i64 0, .int .i64 0, .int .i64 0, .int .i64 0, .int .i64 0, .int .i64 0, .int .i64 0] 70)) := by go_grown
  have P0 := (IsP.new (w := w) (a := ⟨0, 0, ⟨0, 0, 0, 0, 0, 0⟩⟩) (b := ⟨0, 0, ⟨0, 0, 0, 0, 0, 0⟩⟩) (c := ⟨0, 0, ⟨0, 0, 0, 0, 0, 0⟩⟩)).alloc (.cells #[.int .i64 0, .int .i64 0, .int .i64 0, .int .i64 0, .int .i64 0, .int .i64 0, .int .i64 0, .int .i64 0, .int .i64 0, .int .i64 0, .int .i64 0, .int .i64 0, .int .i64 0, .int .i64 0, .int .i64 0, .int .i64 0, .int .i64 0, .int .i64 0, .int .i64 0, .int .i64 0, .int .i64 0, .int .i64 0, .int .i64 0, .int .i64 0] 70)
  have P1 := IsP.new2 (w := w) (o := (.cells #[.int .i64 0, .int .i64 0, .int .i64 0, .int .i64 0, .int .i64 0, .int .i64 0, .int .i64 0, .int .i64 0, .int .i64 0, .int .i64 0, .int .i64 0, .int .i64 0, .int .i64 0, .int .i64 0, .int .i64 0, .int .i64 0, .int .i64 0, .int .i64 0, .int .i64 0, .int .i64 0, .int .i64 0, .int .i64 0, .int .i64 0, .int .i64 0] 70)) (a := ⟨0, 0, ⟨0, 0, 0, 0, 0, 0⟩⟩) (b := ⟨0, 0, ⟨0, 0, 0, 0, 0, 0⟩⟩) (c := ⟨0, 0, ⟨0, 0, 0, 0, 0, 0⟩⟩)
  have D0 := stAt_to (w0 := w) q0 hD rfl
  generalize hW : (w.alloc (.cells #[.int .i64 0, .int .i64 0, .int .i64 0, .int .i64 0, .int .i64 0, .int .i64 0, .int .i64 0, .int .i64 0, .int .i64 0, .int .i64 0, .int .i64 0, .int .i64 0, .int .i64 0, .int .i64 0, .int .i64 0, .int .i64 0, .int .i64 0, .int .i64 0, .int .i64 0, .int .i64 0, .int .i64 0, .int .i64 0, .int .i64 0, .int .i64 0] 70)).alloc (.cells #[.int .i64 0, .int .i64 0, .int .i64 0, .int .i64 0, .int .i64 0, .int .i64 0, .int .i64 0, .int .i64 0, .int .i64 0, .int .i64 0, .int .i64 0, .int .i64 0, .int .i64 0, .int .i64 0, .int .i64 0, .int .i64 0, .int .i64 0, .int .i64 0, .int .i64 0, .int .i64 0, .int .i64 0, .int .i64 0, .int .i64 0, .int .i64 0] 70) = W0 at q0 P0 P1 D0
  have HW := hide hW
  clear hW hD
  have HSRC := hide (stAt_src D0)
  have HP1 := hide P1
  obtain ⟨W1, hcp, P2, q2, P3⟩ : ∃ W1, (Builtin.copy_ #[26, 26] 3 #[.slice (some ⟨w.heap.size + 1, 0, none⟩) 3 3, .slice (some ⟨gd, 0, none⟩) 0 0]).run Tryd.prog W0 = .ok (.int .i64 0) W1 ∧ IsP W1 (w.heap.size + 1) ⟨0, 0, ⟨0, 0, 0, 0, 0, 0⟩⟩ ⟨0, 0, ⟨0, 0, 0, 0, 0, 0⟩⟩ ⟨0, 0, ⟨0, 0, 0, 0, 0, 0⟩⟩ ∧ Below w.heap.size w W1 ∧ IsP W1 w.heap.size ⟨0, 0, ⟨0, 0, 0, 0, 0, 0⟩⟩ ⟨0, 0, ⟨0, 0, 0, 0, 0, 0⟩⟩ ⟨0, 0, ⟨0, 0, 0, 0, 0, 0⟩⟩ := by
    have hr := run_copy_wide (P := Tryd.prog) W0 26 26 3 57 (w.heap.size + 1) 0 3 3 ⟨gd, 0, none⟩ 0 0 #[.int .i64 0, .int .i64 0, .int .i64 0, .int .i64 0, .int .i64 0, .int .i64 0, .int .i64 0, .int .i64 0, .int .i64 0, .int .i64 0, .int .i64 0, .int .i64 0, .int .i64 0, .int .i64 0, .int .i64 0, .int .i64 0, .int .i64 0, .int .i64 0, .int .i64 0, .int .i64 0, .int .i64 0, .int .i64 0, .int .i64 0, .int .i64 0] 70 (cellsS ([] : List St)) 8 0 Tryd.underlying26 size_st HP1.out (by decide) rfl HSRC.out (by simp [cellsS, scells]) (cellsS_one _)
    refine ⟨_, hr, ?_, below_setRow q0 (by omega) _, (setRow_other W0 _ _ _ (by omega)).trans P0⟩
    exact setRow_heap W0 _ _ _ _ _ HP1.out
  clear P0 P1 D0 q0 HSRC HP1
  go_enter Tryd.func46, Tryd.ntmps46
  go_upto_region 2 with (fail)
  rw [HW.out]

  go_wp2
  go_loopw [4] (fun i wr => ((i = .int .i64 0 ∧ IsP wr (w.heap.size + 1) ⟨0, 0, ⟨0, 0, 0, 0, 0, 0⟩⟩ ⟨0, 0, ⟨0, 0, 0, 0, 0, 0⟩⟩ ⟨0, 0, ⟨0, 0, 0, 0, 0, 0⟩⟩) ∨ (i = .int .i64 1 ∧ IsP wr (w.heap.size + 1) ⟨-7, -7, ⟨0, 0, 0, 0, 0, 0⟩⟩ ⟨0, 0, ⟨0, 0, 0, 0, 0, 0⟩⟩ ⟨0, 0, ⟨0, 0, 0, 0, 0, 0⟩⟩) ∨ (i = .int .i64 2 ∧ IsP wr (w.heap.size + 1) ⟨-7, -7, ⟨0, 0, 0, 0, 0, 0⟩⟩ ⟨-7, -7, ⟨0, 0, 0, 0, 0, 0⟩⟩ ⟨0, 0, ⟨0, 0, 0, 0, 0, 0⟩⟩) ∨ (i = .int .i64 3 ∧ IsP wr (w.heap.size + 1) ⟨-7, -7, ⟨0, 0, 0, 0, 0, 0⟩⟩ ⟨-7, -7, ⟨0, 0, 0, 0, 0, 0⟩⟩ ⟨-7, -7, ⟨0, 0, 0, 0, 0, 0⟩⟩)) ∧ IsP wr w.heap.size ⟨0, 0, ⟨0, 0, 0, 0, 0, 0⟩⟩ ⟨0, 0, ⟨0, 0, 0, 0, 0, 0⟩⟩ ⟨0, 0, ⟨0, 0, 0, 0, 0, 0⟩⟩ ∧ Below w.heap.size w wr) (fun i _ => 3 - (intOf i).toNat)
  case atStart => exact ⟨.inl ⟨rfl, P2⟩, P3, q2⟩
  case round =>
    obtain ⟨hk, P0, q⟩ := hrel
    clear P2 P3 q2 hcp HW
    rcases hk with ⟨rfl, P⟩ | ⟨rfl, P⟩ | ⟨rfl, P⟩ | ⟨rfl, P⟩
    · obtain ⟨c0, c1, c2, c3, c4, c5, c6, c7, c8, c9, c10, c11, c12, c13, c14, c15, c16, c17, c18, c19, c20, c21, c22, c23⟩ := P.all
      have hf := P.free
      have f0 := hf 0
      have f1 := hf 1
      have f2 := hf 2
      have f3 := hf 3
      have f4 := hf 4
      have f5 := hf 5
      have f6 := hf 6
      have f7 := hf 7
      have P1 := hide (P.put0 ⟨-7, -7, ⟨0, 0, 0, 0, 0, 0⟩⟩)
      have q1 := hide (below_put q (Nat.le_succ _) (.int .i64 (-7)) (.int .i64 (-7)) (.int .i64 0) (.int .i64 0) (.int .i64 0) (.int .i64 0) (.int .i64 0) (.int .i64 0) 0 1 2 3 4 5 6 7)
      have P00 := P0
      have P01 := hide ((((((((P00.other (p := ⟨w.heap.size + 1, 0, none⟩) (by simp) (.int .i64 (-7))).other (p := ⟨w.heap.size + 1, 1, none⟩) (by simp) (.int .i64 (-7))).other (p := ⟨w.heap.size + 1, 2, none⟩) (by simp) (.int .i64 0)).other (p := ⟨w.heap.size + 1, 3, none⟩) (by simp) (.int .i64 0)).other (p := ⟨w.heap.size + 1, 4, none⟩) (by simp) (.int .i64 0)).other (p := ⟨w.heap.size + 1, 5, none⟩) (by simp) (.int .i64 0)).other (p := ⟨w.heap.size + 1, 6, none⟩) (by simp) (.int .i64 0)).other (p := ⟨w.heap.size + 1, 7, none⟩) (by simp) (.int .i64 0))
      clear hf P00 P0 q P c8 c9 c10 c11 c12 c13 c14 c15 c16 c17 c18 c19 c20 c21 c22 c23
      go_wp2
      go_roundw
      case rel => exact ⟨.inr (.inl ⟨rfl, P1.out⟩), P01.out, q1.out⟩
      case measure => simp [intOf]
    · obtain ⟨c0, c1, c2, c3, c4, c5, c6, c7, c8, c9, c10, c11, c12, c13, c14, c15, c16, c17, c18, c19, c20, c21, c22, c23⟩ := P.all
      have hf := P.free
      have f0 := hf 8
      have f1 := hf 9
      have f2 := hf 10
      have f3 := hf 11
      have f4 := hf 12
      have f5 := hf 13
      have f6 := hf 14
      have f7 := hf 15
      have P1 := hide (P.put1 ⟨-7, -7, ⟨0, 0, 0, 0, 0, 0⟩⟩)
      have q1 := hide (below_put q (Nat.le_succ _) (.int .i64 (-7)) (.int .i64 (-7)) (.int .i64 0) (.int .i64 0) (.int .i64 0) (.int .i64 0) (.int .i64 0) (.int .i64 0) 8 9 10 11 12 13 14 15)
      have P00 := P0
      have P01 := hide ((((((((P00.other (p := ⟨w.heap.size + 1, 8, none⟩) (by simp) (.int .i64 (-7))).other (p := ⟨w.heap.size + 1, 9, none⟩) (by simp) (.int .i64 (-7))).other (p := ⟨w.heap.size + 1, 10, none⟩) (by simp) (.int .i64 0)).other (p := ⟨w.heap.size + 1, 11, none⟩) (by simp) (.int .i64 0)).other (p := ⟨w.heap.size + 1, 12, none⟩) (by simp) (.int .i64 0)).other (p := ⟨w.heap.size + 1, 13, none⟩) (by simp) (.int .i64 0)).other (p := ⟨w.heap.size + 1, 14, none⟩) (by simp) (.int .i64 0)).other (p := ⟨w.heap.size + 1, 15, none⟩) (by simp) (.int .i64 0))
      clear hf P00 P0 q P c0 c1 c2 c3 c4 c5 c6 c7 c16 c17 c18 c19 c20 c21 c22 c23
      go_wp2
      go_roundw
      case rel => exact ⟨.inr (.inr (.inl ⟨rfl, P1.out⟩)), P01.out, q1.out⟩
      case measure => simp [intOf]
    · obtain ⟨c0, c1, c2, c3, c4, c5, c6, c7, c8, c9, c10, c11, c12, c13, c14, c15, c16, c17, c18, c19, c20, c21, c22, c23⟩ := P.all
      have hf := P.free
      have f0 := hf 16
      have f1 := hf 17
      have f2 := hf 18
      have f3 := hf 19
      have f4 := hf 20
      have f5 := hf 21
      have f6 := hf 22
      have f7 := hf 23
      have P1 := hide (P.put2 ⟨-7, -7, ⟨0, 0, 0, 0, 0, 0⟩⟩)
      have q1 := hide (below_put q (Nat.le_succ _) (.int .i64 (-7)) (.int .i64 (-7)) (.int .i64 0) (.int .i64 0) (.int .i64 0) (.int .i64 0) (.int .i64 0) (.int .i64 0) 16 17 18 19 20 21 22 23)
      have P00 := P0
      have P01 := hide ((((((((P00.other (p := ⟨w.heap.size + 1, 16, none⟩) (by simp) (.int .i64 (-7))).other (p := ⟨w.heap.size + 1, 17, none⟩) (by simp) (.int .i64 (-7))).other (p := ⟨w.heap.size + 1, 18, none⟩) (by simp) (.int .i64 0)).other (p := ⟨w.heap.size + 1, 19, none⟩) (by simp) (.int .i64 0)).other (p := ⟨w.heap.size + 1, 20, none⟩) (by simp) (.int .i64 0)).other (p := ⟨w.heap.size + 1, 21, none⟩) (by simp) (.int .i64 0)).other (p := ⟨w.heap.size + 1, 22, none⟩) (by simp) (.int .i64 0)).other (p := ⟨w.heap.size + 1, 23, none⟩) (by simp) (.int .i64 0))
      clear hf P00 P0 q P c0 c1 c2 c3 c4 c5 c6 c7 c8 c9 c10 c11 c12 c13 c14 c15
      go_wp2
      go_roundw
      case rel => exact ⟨.inr (.inr (.inr (⟨rfl, P1.out⟩))), P01.out, q1.out⟩
      case measure => simp [intOf]
    · have HP := hide P
      have HP0 := hide P0
      have R1 := hide (show IsP (wr.setRow w.heap.size #[.int .i64 (-7), .int .i64 (-7), .int .i64 0, .int .i64 0, .int .i64 0, .int .i64 0, .int .i64 0, .int .i64 0, .int .i64 (-7), .int .i64 (-7), .int .i64 0, .int .i64 0, .int .i64 0, .int .i64 0, .int .i64 0, .int .i64 0, .int .i64 (-7), .int .i64 (-7), .int .i64 0, .int .i64 0, .int .i64 0, .int .i64 0, .int .i64 0, .int .i64 0]) w.heap.size ⟨-7, -7, ⟨0, 0, 0, 0, 0, 0⟩⟩ ⟨-7, -7, ⟨0, 0, 0, 0, 0, 0⟩⟩ ⟨-7, -7, ⟨0, 0, 0, 0, 0, 0⟩⟩ from setRow_heap wr w.heap.size _ #[.int .i64 (-7), .int .i64 (-7), .int .i64 0, .int .i64 0, .int .i64 0, .int .i64 0, .int .i64 0, .int .i64 0, .int .i64 (-7), .int .i64 (-7), .int .i64 0, .int .i64 0, .int .i64 0, .int .i64 0, .int .i64 0, .int .i64 0, .int .i64 (-7), .int .i64 (-7), .int .i64 0, .int .i64 0, .int .i64 0, .int .i64 0, .int .i64 0, .int .i64 0] _ _ P0)
      have q1 := below_setRow q (Nat.le_refl _) #[.int .i64 (-7), .int .i64 (-7), .int .i64 0, .int .i64 0, .int .i64 0, .int .i64 0, .int .i64 0, .int .i64 0, .int .i64 (-7), .int .i64 (-7), .int .i64 0, .int .i64 0, .int .i64 0, .int .i64 0, .int .i64 0, .int .i64 0, .int .i64 (-7), .int .i64 (-7), .int .i64 0, .int .i64 0, .int .i64 0, .int .i64 0, .int .i64 0, .int .i64 0]
      clear P P0 q
      go_wp2_with (first | (refine wpList_load_row rfl 70 (.tmp 3) rfl (w.heap.size + 1) rfl _ _ _ _ HP.out und_group rfl size_group ?_) | (refine wpList_store_row rfl 70 (.tmp 2) (.tmp 15) rfl w.heap.size #[.int .i64 (-7), .int .i64 (-7), .int .i64 0, .int .i64 0, .int .i64 0, .int .i64 0, .int .i64 0, .int .i64 0, .int .i64 (-7), .int .i64 (-7), .int .i64 0, .int .i64 0, .int .i64 0, .int .i64 0, .int .i64 0, .int .i64 0, .int .i64 (-7), .int .i64 (-7), .int .i64 0, .int .i64 0, .int .i64 0, .int .i64 0, .int .i64 0, .int .i64 0] rfl rfl _ _ HP0.out (by kernel_rfl) (by kernel_rfl) (by kernel_rfl) ?_))
      refine bodyPost_ret (ret_group Tryd.results46 rfl R1.out) rfl ⟨rfl, ?_⟩
      exact q1
set_option maxHeartbeats 3200000 in
theorem groupOf_1 (a : St) (gd : Nat) (w : World) (hD : StAt w gd 0 [a]) : Calls Tryd.prog 46 #[.slice (some ⟨gd, 0, none⟩) 1 1] w fun e w' => e = .returned (gV a ⟨-7, -7, ⟨0, 0, 0, 0, 0, 0⟩⟩ ⟨-7, -7, ⟨0, 0, 0, 0, 0, 0⟩⟩) ∧ Below w.heap.size w w' := by
  have q0 : Below w.heap.size w ((w.alloc (.cells #[.int .i64 0, .int .i64 0, .int .i64 0, .int .i64 0, .int .i64 0, .int .i64 0, .int .i64 0, .int .i64 0, .int .i64 0, .int .i64 0, .int .i64 0, .int .i64 0, .int .i64 0, .int .i64 0, .int .i64 0, .int .i64 0, .int .i64 0, .int .i64 0, .int .i64 0, .int .i64 0, .int .i64 0, .int .i64 0, .int .i64 0, .int .i64 0] 70)).alloc (.cells #[.int .i64 0, .int .i64 0, .int .i64 0, .int .i64 0, .int .i64 0, .int .i64 0, .int .i64 0, .int .i64 0, .int .i64 0, .int .i64 0, .int .i64 0, .int .i64 0, .int .i64 0, .int .i64 0, .int .i64 0, .int .i64 0, .int .i64 0, .int .i64 0, .int .i64 0, .int .i64 0, .int .i64 0, .int .i64 0, .int .i64 0, .int .i64 0] 70)) := by go_grown
  have P0 := (IsP.new (w := w) (a := ⟨0, 0, ⟨0, 0, 0, 0, 0, 0⟩⟩) (b := ⟨0, 0, ⟨0, 0, 0, 0, 0, 0⟩⟩) (c := ⟨0, 0, ⟨0, 0, 0, 0, 0, 0⟩⟩)).alloc (.cells #[.int .i64 0, .int .i64 0, .int .i64 0, .int .i64 0, .int .i64 0, .int .i64 0, .int .i64 0, .int .i64 0, .int .i64 0, .int .i64 0, .int .i64 0, .int .i64 0, .int .i64 0, .int .i64 0, .int .i64 0, .int .i64 0, .int .i64 0, .int .i64 0, .int .i64 0, .int .i64 0, .int .i64 0, .int .i64 0, .int .i64 0, .int .i64 0] 70)
  have P1 := IsP.new2 (w := w) (o := (.cells #[.int .i64 0, .int .i64 0, .int .i64 0, .int .i64 0, .int .i64 0, .int .i64 0, .int .i64 0, .int .i64 0, .int .i64 0, .int .i64 0, .int .i64 0, .int .i64 0, .int .i64 0, .int .i64 0, .int .i64 0, .int .i64 0, .int .i64 0, .int .i64 0, .int .i64 0, .int .i64 0, .int .i64 0, .int .i64 0, .int .i64 0, .int .i64 0] 70)) (a := ⟨0, 0, ⟨0, 0, 0, 0, 0, 0⟩⟩) (b := ⟨0, 0, ⟨0, 0, 0, 0, 0, 0⟩⟩) (c := ⟨0, 0, ⟨0, 0, 0, 0, 0, 0⟩⟩)
  have D0 := stAt_to (w0 := w) q0 hD rfl
  generalize hW : (w.alloc (.cells #[.int .i64 0, .int .i64 0, .int .i64 0, .int .i64 0, .int .i64 0, .int .i64 0, .int .i64 0, .int .i64 0, .int .i64 0, .int .i64 0, .int .i64 0, .int .i64 0, .int .i64 0, .int .i64 0, .int .i64 0, .int .i64 0, .int .i64 0, .int .i64 0, .int .i64 0, .int .i64 0, .int .i64 0, .int .i64 0, .int .i64 0, .int .i64 0] 70)).alloc (.cells #[.int .i64 0, .int .i64 0, .int .i64 0, .int .i64 0, .int .i64 0, .int .i64 0, .int .i64 0, .int .i64 0, .int .i64 0, .int .i64 0, .int .i64 0, .int .i64 0, .int .i64 0, .int .i64 0, .int .i64 0, .int .i64 0, .int .i64 0, .int .i64 0, .int .i64 0, .int .i64 0, .int .i64 0, .int .i64 0, .int .i64 0, .int .i64 0] 70) = W0 at q0 P0 P1 D0
  have HW := hide hW
  clear hW hD
  have HSRC := hide (stAt_src D0)
  have HP1 := hide P1
  obtain ⟨W1, hcp, P2, q2, P3⟩ : ∃ W1, (Builtin.copy_ #[26, 26] 3 #[.slice (some ⟨w.heap.size + 1, 0, none⟩) 3 3, .slice (some ⟨gd, 0, none⟩) 1 1]).run Tryd.prog W0 = .ok (.int .i64 1) W1 ∧ IsP W1 (w.heap.size + 1) a ⟨0, 0, ⟨0, 0, 0, 0, 0, 0⟩⟩ ⟨0, 0, ⟨0, 0, 0, 0, 0, 0⟩⟩ ∧ Below w.heap.size w W1 ∧ IsP W1 w.heap.size ⟨0, 0, ⟨0, 0, 0, 0, 0, 0⟩⟩ ⟨0, 0, ⟨0, 0, 0, 0, 0, 0⟩⟩ ⟨0, 0, ⟨0, 0, 0, 0, 0, 0⟩⟩ := by
    have hr := run_copy_wide (P := Tryd.prog) W0 26 26 3 57 (w.heap.size + 1) 0 3 3 ⟨gd, 0, none⟩ 1 1 #[.int .i64 0, .int .i64 0, .int .i64 0, .int .i64 0, .int .i64 0, .int .i64 0, .int .i64 0, .int .i64 0, .int .i64 0, .int .i64 0, .int .i64 0, .int .i64 0, .int .i64 0, .int .i64 0, .int .i64 0, .int .i64 0, .int .i64 0, .int .i64 0, .int .i64 0, .int .i64 0, .int .i64 0, .int .i64 0, .int .i64 0, .int .i64 0] 70 (cellsS ([a] : List St)) 8 1 Tryd.underlying26 size_st HP1.out (by decide) rfl HSRC.out (by simp [cellsS, scells]) (cellsS_one _)
    refine ⟨_, hr, ?_, below_setRow q0 (by omega) _, (setRow_other W0 _ _ _ (by omega)).trans P0⟩
    exact setRow_heap W0 _ _ _ _ _ HP1.out
  clear P0 P1 D0 q0 HSRC HP1
  go_enter Tryd.func46, Tryd.ntmps46
  go_upto_region 2 with (fail)
  rw [HW.out]

  go_wp2
  go_loopw [4] (fun i wr => ((i = .int .i64 1 ∧ IsP wr (w.heap.size + 1) a ⟨0, 0, ⟨0, 0, 0, 0, 0, 0⟩⟩ ⟨0, 0, ⟨0, 0, 0, 0, 0, 0⟩⟩) ∨ (i = .int .i64 2 ∧ IsP wr (w.heap.size + 1) a ⟨-7, -7, ⟨0, 0, 0, 0, 0, 0⟩⟩ ⟨0, 0, ⟨0, 0, 0, 0, 0, 0⟩⟩) ∨ (i = .int .i64 3 ∧ IsP wr (w.heap.size + 1) a ⟨-7, -7, ⟨0, 0, 0, 0, 0, 0⟩⟩ ⟨-7, -7, ⟨0, 0, 0, 0, 0, 0⟩⟩)) ∧ IsP wr w.heap.size ⟨0, 0, ⟨0, 0, 0, 0, 0, 0⟩⟩ ⟨0, 0, ⟨0, 0, 0, 0, 0, 0⟩⟩ ⟨0, 0, ⟨0, 0, 0, 0, 0, 0⟩⟩ ∧ Below w.heap.size w wr) (fun i _ => 3 - (intOf i).toNat)
  case atStart => exact ⟨.inl ⟨rfl, P2⟩, P3, q2⟩
  case round =>
    obtain ⟨hk, P0, q⟩ := hrel
    clear P2 P3 q2 hcp HW
    rcases hk with ⟨rfl, P⟩ | ⟨rfl, P⟩ | ⟨rfl, P⟩
    · obtain ⟨c0, c1, c2, c3, c4, c5, c6, c7, c8, c9, c10, c11, c12, c13, c14, c15, c16, c17, c18, c19, c20, c21, c22, c23⟩ := P.all
      have hf := P.free
      have f0 := hf 8
      have f1 := hf 9
      have f2 := hf 10
      have f3 := hf 11
      have f4 := hf 12
      have f5 := hf 13
      have f6 := hf 14
      have f7 := hf 15
      have P1 := hide (P.put1 ⟨-7, -7, ⟨0, 0, 0, 0, 0, 0⟩⟩)
      have q1 := hide (below_put q (Nat.le_succ _) (.int .i64 (-7)) (.int .i64 (-7)) (.int .i64 0) (.int .i64 0) (.int .i64 0) (.int .i64 0) (.int .i64 0) (.int .i64 0) 8 9 10 11 12 13 14 15)
      have P00 := P0
      have P01 := hide ((((((((P00.other (p := ⟨w.heap.size + 1, 8, none⟩) (by simp) (.int .i64 (-7))).other (p := ⟨w.heap.size + 1, 9, none⟩) (by simp) (.int .i64 (-7))).other (p := ⟨w.heap.size + 1, 10, none⟩) (by simp) (.int .i64 0)).other (p := ⟨w.heap.size + 1, 11, none⟩) (by simp) (.int .i64 0)).other (p := ⟨w.heap.size + 1, 12, none⟩) (by simp) (.int .i64 0)).other (p := ⟨w.heap.size + 1, 13, none⟩) (by simp) (.int .i64 0)).other (p := ⟨w.heap.size + 1, 14, none⟩) (by simp) (.int .i64 0)).other (p := ⟨w.heap.size + 1, 15, none⟩) (by simp) (.int .i64 0))
      clear hf P00 P0 q P c0 c1 c2 c3 c4 c5 c6 c7 c16 c17 c18 c19 c20 c21 c22 c23
      go_wp2
      go_roundw
      case rel => exact ⟨.inr (.inl ⟨rfl, P1.out⟩), P01.out, q1.out⟩
      case measure => simp [intOf]
    · obtain ⟨c0, c1, c2, c3, c4, c5, c6, c7, c8, c9, c10, c11, c12, c13, c14, c15, c16, c17, c18, c19, c20, c21, c22, c23⟩ := P.all
      have hf := P.free
      have f0 := hf 16
      have f1 := hf 17
      have f2 := hf 18
      have f3 := hf 19
      have f4 := hf 20
      have f5 := hf 21
      have f6 := hf 22
      have f7 := hf 23
      have P1 := hide (P.put2 ⟨-7, -7, ⟨0, 0, 0, 0, 0, 0⟩⟩)
      have q1 := hide (below_put q (Nat.le_succ _) (.int .i64 (-7)) (.int .i64 (-7)) (.int .i64 0) (.int .i64 0) (.int .i64 0) (.int .i64 0) (.int .i64 0) (.int .i64 0) 16 17 18 19 20 21 22 23)
      have P00 := P0
      have P01 := hide ((((((((P00.other (p := ⟨w.heap.size + 1, 16, none⟩) (by simp) (.int .i64 (-7))).other (p := ⟨w.heap.size + 1, 17, none⟩) (by simp) (.int .i64 (-7))).other (p := ⟨w.heap.size + 1, 18, none⟩) (by simp) (.int .i64 0)).other (p := ⟨w.heap.size + 1, 19, none⟩) (by simp) (.int .i64 0)).other (p := ⟨w.heap.size + 1, 20, none⟩) (by simp) (.int .i64 0)).other (p := ⟨w.heap.size + 1, 21, none⟩) (by simp) (.int .i64 0)).other (p := ⟨w.heap.size + 1, 22, none⟩) (by simp) (.int .i64 0)).other (p := ⟨w.heap.size + 1, 23, none⟩) (by simp) (.int .i64 0))
      clear hf P00 P0 q P c0 c1 c2 c3 c4 c5 c6 c7 c8 c9 c10 c11 c12 c13 c14 c15
      go_wp2
      go_roundw
      case rel => exact ⟨.inr (.inr (⟨rfl, P1.out⟩)), P01.out, q1.out⟩
      case measure => simp [intOf]
    · have HP := hide P
      have HP0 := hide P0
      have R1 := hide (show IsP (wr.setRow w.heap.size #[.int .i64 a.x, .int .i64 a.y, .int .i64 a.d.t, .int .i64 a.d.n, .int .i64 a.d.e, .int .i64 a.d.s, .int .i64 a.d.w, .int .i64 a.d.b, .int .i64 (-7), .int .i64 (-7), .int .i64 0, .int .i64 0, .int .i64 0, .int .i64 0, .int .i64 0, .int .i64 0, .int .i64 (-7), .int .i64 (-7), .int .i64 0, .int .i64 0, .int .i64 0, .int .i64 0, .int .i64 0, .int .i64 0]) w.heap.size a ⟨-7, -7, ⟨0, 0, 0, 0, 0, 0⟩⟩ ⟨-7, -7, ⟨0, 0, 0, 0, 0, 0⟩⟩ from setRow_heap wr w.heap.size _ #[.int .i64 a.x, .int .i64 a.y, .int .i64 a.d.t, .int .i64 a.d.n, .int .i64 a.d.e, .int .i64 a.d.s, .int .i64 a.d.w, .int .i64 a.d.b, .int .i64 (-7), .int .i64 (-7), .int .i64 0, .int .i64 0, .int .i64 0, .int .i64 0, .int .i64 0, .int .i64 0, .int .i64 (-7), .int .i64 (-7), .int .i64 0, .int .i64 0, .int .i64 0, .int .i64 0, .int .i64 0, .int .i64 0] _ _ P0)
      have q1 := below_setRow q (Nat.le_refl _) #[.int .i64 a.x, .int .i64 a.y, .int .i64 a.d.t, .int .i64 a.d.n, .int .i64 a.d.e, .int .i64 a.d.s, .int .i64 a.d.w, .int .i64 a.d.b, .int .i64 (-7), .int .i64 (-7), .int .i64 0, .int .i64 0, .int .i64 0, .int .i64 0, .int .i64 0, .int .i64 0, .int .i64 (-7), .int .i64 (-7), .int .i64 0, .int .i64 0, .int .i64 0, .int .i64 0, .int .i64 0, .int .i64 0]
      clear P P0 q
      go_wp2_with (first | (refine wpList_load_row rfl 70 (.tmp 3) rfl (w.heap.size + 1) rfl _ _ _ _ HP.out und_group rfl size_group ?_) | (refine wpList_store_row rfl 70 (.tmp 2) (.tmp 15) rfl w.heap.size #[.int .i64 a.x, .int .i64 a.y, .int .i64 a.d.t, .int .i64 a.d.n, .int .i64 a.d.e, .int .i64 a.d.s, .int .i64 a.d.w, .int .i64 a.d.b, .int .i64 (-7), .int .i64 (-7), .int .i64 0, .int .i64 0, .int .i64 0, .int .i64 0, .int .i64 0, .int .i64 0, .int .i64 (-7), .int .i64 (-7), .int .i64 0, .int .i64 0, .int .i64 0, .int .i64 0, .int .i64 0, .int .i64 0] rfl rfl _ _ HP0.out (by kernel_rfl) (by kernel_rfl) (by kernel_rfl) ?_))
      refine bodyPost_ret (ret_group Tryd.results46 rfl R1.out) rfl ⟨rfl, ?_⟩
      exact q1
set_option maxHeartbeats 3200000 in
theorem groupOf_2 (a b : St) (gd : Nat) (w : World) (hD : StAt w gd 0 [a, b]) : Calls Tryd.prog 46 #[.slice (some ⟨gd, 0, none⟩) 2 2] w fun e w' => e = .returned (gV a b ⟨-7, -7, ⟨0, 0, 0, 0, 0, 0⟩⟩) ∧ Below w.heap.size w w' := by
  have q0 : Below w.heap.size w ((w.alloc (.cells #[.int .i64 0, .int .i64 0, .int .i64 0, .int .i64 0, .int .i64 0, .int .i64 0, .int .i64 0, .int .i64 0, .int .i64 0, .int .i64 0, .int .i64 0, .int .i64 0, .int .i64 0, .int .i64 0, .int .i64 0, .int .i64 0, .int .i64 0, .int .i64 0, .int .i64 0, .int .i64 0, .int .i64 0, .int .i64 0, .int .i64 0, .int .i64 0] 70)).alloc (.cells #[.int .i64 0, .int .i64 0, .int .i64 0, .int .i64 0, .int .i64 0, .int .i64 0, .int .i64 0, .int .i64 0, .int .i64 0, .int .i64 0, .int .i64 0, .int .i64 0, .int .i64 0, .int .i64 0, .int .i64 0, .int .i64 0, .int .i64 0, .int .i64 0, .int .i64 0, .int .i64 0, .int .i64 0, .int .i64 0, .int .i64 0, .int .i64 0] 70)) := by go_grown
  have P0 := (IsP.new (w := w) (a := ⟨0, 0, ⟨0, 0, 0, 0, 0, 0⟩⟩) (b := ⟨0, 0, ⟨0, 0, 0, 0, 0, 0⟩⟩) (c := ⟨0, 0, ⟨0, 0, 0, 0, 0, 0⟩⟩)).alloc (.cells #[.int .i64 0, .int .i64 0, .int .i64 0, .int .i64 0, .int .i64 0, .int .i64 0, .int .i64 0, .int .i64 0, .int .i64 0, .int .i64 0, .int .i64 0, .int .i64 0, .int .i64 0, .int .i64 0, .int .i64 0, .int .i64 0, .int .i64 0, .int .i64 0, .int .i64 0, .int .i64 0, .int .i64 0, .int .i64 0, .int .i64 0, .int .i64 0] 70)
  have P1 := IsP.new2 (w := w) (o := (.cells #[.int .i64 0, .int .i64 0, .int .i64 0, .int .i64 0, .int .i64 0, .int .i64 0, .int .i64 0, .int .i64 0, .int .i64 0, .int .i64 0, .int .i64 0, .int .i64 0, .int .i64 0, .int .i64 0, .int .i64 0, .int .i64 0, .int .i64 0, .int .i64 0, .int .i64 0, .int .i64 0, .int .i64 0, .int .i64 0, .int .i64 0, .int .i64 0] 70)) (a := ⟨0, 0, ⟨0, 0, 0, 0, 0, 0⟩⟩) (b := ⟨0, 0, ⟨0, 0, 0, 0, 0, 0⟩⟩) (c := ⟨0, 0, ⟨0, 0, 0, 0, 0, 0⟩⟩)
  have D0 := stAt_to (w0 := w) q0 hD rfl
  generalize hW : (w.alloc (.cells #[.int .i64 0, .int .i64 0, .int .i64 0, .int .i64 0, .int .i64 0, .int .i64 0, .int .i64 0, .int .i64 0, .int .i64 0, .int .i64 0, .int .i64 0, .int .i64 0, .int .i64 0, .int .i64 0, .int .i64 0, .int .i64 0, .int .i64 0, .int .i64 0, .int .i64 0, .int .i64 0, .int .i64 0, .int .i64 0, .int .i64 0, .int .i64 0] 70)).alloc (.cells #[.int .i64 0, .int .i64 0, .int .i64 0, .int .i64 0, .int .i64 0, .int .i64 0, .int .i64 0, .int .i64 0, .int .i64 0, .int .i64 0, .int .i64 0, .int .i64 0, .int .i64 0, .int .i64 0, .int .i64 0, .int .i64 0, .int .i64 0, .int .i64 0, .int .i64 0, .int .i64 0, .int .i64 0, .int .i64 0, .int .i64 0, .int .i64 0] 70) = W0 at q0 P0 P1 D0
  have HW := hide hW
  clear hW hD
  have HSRC := hide (stAt_src D0)
  have HP1 := hide P1
  obtain ⟨W1, hcp, P2, q2, P3⟩ : ∃ W1, (Builtin.copy_ #[26, 26] 3 #[.slice (some ⟨w.heap.size + 1, 0, none⟩) 3 3, .slice (some ⟨gd, 0, none⟩) 2 2]).run Tryd.prog W0 = .ok (.int .i64 2) W1 ∧ IsP W1 (w.heap.size + 1) a b ⟨0, 0, ⟨0, 0, 0, 0, 0, 0⟩⟩ ∧ Below w.heap.size w W1 ∧ IsP W1 w.heap.size ⟨0, 0, ⟨0, 0, 0, 0, 0, 0⟩⟩ ⟨0, 0, ⟨0, 0, 0, 0, 0, 0⟩⟩ ⟨0, 0, ⟨0, 0, 0, 0, 0, 0⟩⟩ := by
    have hr := run_copy_wide (P := Tryd.prog) W0 26 26 3 57 (w.heap.size + 1) 0 3 3 ⟨gd, 0, none⟩ 2 2 #[.int .i64 0, .int .i64 0, .int .i64 0, .int .i64 0, .int .i64 0, .int .i64 0, .int .i64 0, .int .i64 0, .int .i64 0, .int .i64 0, .int .i64 0, .int .i64 0, .int .i64 0, .int .i64 0, .int .i64 0, .int .i64 0, .int .i64 0, .int .i64 0, .int .i64 0, .int .i64 0, .int .i64 0, .int .i64 0, .int .i64 0, .int .i64 0] 70 (cellsS ([a, b] : List St)) 8 2 Tryd.underlying26 size_st HP1.out (by decide) rfl HSRC.out (by simp [cellsS, scells]) (cellsS_one _)
    refine ⟨_, hr, ?_, below_setRow q0 (by omega) _, (setRow_other W0 _ _ _ (by omega)).trans P0⟩
    exact setRow_heap W0 _ _ _ _ _ HP1.out
  clear P0 P1 D0 q0 HSRC HP1
  go_enter Tryd.func46, Tryd.ntmps46
  go_upto_region 2 with (fail)
  rw [HW.out]

  go_wp2
  go_loopw [4] (fun i wr => ((i = .int .i64 2 ∧ IsP wr (w.heap.size + 1) a b ⟨0, 0, ⟨0, 0, 0, 0, 0, 0⟩⟩) ∨ (i = .int .i64 3 ∧ IsP wr (w.heap.size + 1) a b ⟨-7, -7, ⟨0, 0, 0, 0, 0, 0⟩⟩)) ∧ IsP wr w.heap.size ⟨0, 0, ⟨0, 0, 0, 0, 0, 0⟩⟩ ⟨0, 0, ⟨0, 0, 0, 0, 0, 0⟩⟩ ⟨0, 0, ⟨0, 0, 0, 0, 0, 0⟩⟩ ∧ Below w.heap.size w wr) (fun i _ => 3 - (intOf i).toNat)
  case atStart => exact ⟨.inl ⟨rfl, P2⟩, P3, q2⟩
  case round =>
    obtain ⟨hk, P0, q⟩ := hrel
    clear P2 P3 q2 hcp HW
    rcases hk with ⟨rfl, P⟩ | ⟨rfl, P⟩
    · obtain ⟨c0, c1, c2, c3, c4, c5, c6, c7, c8, c9, c10, c11, c12, c13, c14, c15, c16, c17, c18, c19, c20, c21, c22, c23⟩ := P.all
      have hf := P.free
      have f0 := hf 16
      have f1 := hf 17
      have f2 := hf 18
      have f3 := hf 19
      have f4 := hf 20
      have f5 := hf 21
      have f6 := hf 22
      have f7 := hf 23
      have P1 := hide (P.put2 ⟨-7, -7, ⟨0, 0, 0, 0, 0, 0⟩⟩)
      have q1 := hide (below_put q (Nat.le_succ _) (.int .i64 (-7)) (.int .i64 (-7)) (.int .i64 0) (.int .i64 0) (.int .i64 0) (.int .i64 0) (.int .i64 0) (.int .i64 0) 16 17 18 19 20 21 22 23)
      have P00 := P0
      have P01 := hide ((((((((P00.other (p := ⟨w.heap.size + 1, 16, none⟩) (by simp) (.int .i64 (-7))).other (p := ⟨w.heap.size + 1, 17, none⟩) (by simp) (.int .i64 (-7))).other (p := ⟨w.heap.size + 1, 18, none⟩) (by simp) (.int .i64 0)).other (p := ⟨w.heap.size + 1, 19, none⟩) (by simp) (.int .i64 0)).other (p := ⟨w.heap.size + 1, 20, none⟩) (by simp) (.int .i64 0)).other (p := ⟨w.heap.size + 1, 21, none⟩) (by simp) (.int .i64 0)).other (p := ⟨w.heap.size + 1, 22, none⟩) (by simp) (.int .i64 0)).other (p := ⟨w.heap.size + 1, 23, none⟩) (by simp) (.int .i64 0))
      clear hf P00 P0 q P c0 c1 c2 c3 c4 c5 c6 c7 c8 c9 c10 c11 c12 c13 c14 c15
      go_wp2
      go_roundw
      case rel => exact ⟨.inr (⟨rfl, P1.out⟩), P01.out, q1.out⟩
      case measure => simp [intOf]
    · have HP := hide P
      have HP0 := hide P0
      have R1 := hide (show IsP (wr.setRow w.heap.size #[.int .i64 a.x, .int .i64 a.y, .int .i64 a.d.t, .int .i64 a.d.n, .int .i64 a.d.e, .int .i64 a.d.s, .int .i64 a.d.w, .int .i64 a.d.b, .int .i64 b.x, .int .i64 b.y, .int .i64 b.d.t, .int .i64 b.d.n, .int .i64 b.d.e, .int .i64 b.d.s, .int .i64 b.d.w, .int .i64 b.d.b, .int .i64 (-7), .int .i64 (-7), .int .i64 0, .int .i64 0, .int .i64 0, .int .i64 0, .int .i64 0, .int .i64 0]) w.heap.size a b ⟨-7, -7, ⟨0, 0, 0, 0, 0, 0⟩⟩ from setRow_heap wr w.heap.size _ #[.int .i64 a.x, .int .i64 a.y, .int .i64 a.d.t, .int .i64 a.d.n, .int .i64 a.d.e, .int .i64 a.d.s, .int .i64 a.d.w, .int .i64 a.d.b, .int .i64 b.x, .int .i64 b.y, .int .i64 b.d.t, .int .i64 b.d.n, .int .i64 b.d.e, .int .i64 b.d.s, .int .i64 b.d.w, .int .i64 b.d.b, .int .i64 (-7), .int .i64 (-7), .int .i64 0, .int .i64 0, .int .i64 0, .int .i64 0, .int .i64 0, .int .i64 0] _ _ P0)
      have q1 := below_setRow q (Nat.le_refl _) #[.int .i64 a.x, .int .i64 a.y, .int .i64 a.d.t, .int .i64 a.d.n, .int .i64 a.d.e, .int .i64 a.d.s, .int .i64 a.d.w, .int .i64 a.d.b, .int .i64 b.x, .int .i64 b.y, .int .i64 b.d.t, .int .i64 b.d.n, .int .i64 b.d.e, .int .i64 b.d.s, .int .i64 b.d.w, .int .i64 b.d.b, .int .i64 (-7), .int .i64 (-7), .int .i64 0, .int .i64 0, .int .i64 0, .int .i64 0, .int .i64 0, .int .i64 0]
      clear P P0 q
      go_wp2_with (first | (refine wpList_load_row rfl 70 (.tmp 3) rfl (w.heap.size + 1) rfl _ _ _ _ HP.out und_group rfl size_group ?_) | (refine wpList_store_row rfl 70 (.tmp 2) (.tmp 15) rfl w.heap.size #[.int .i64 a.x, .int .i64 a.y, .int .i64 a.d.t, .int .i64 a.d.n, .int .i64 a.d.e, .int .i64 a.d.s, .int .i64 a.d.w, .int .i64 a.d.b, .int .i64 b.x, .int .i64 b.y, .int .i64 b.d.t, .int .i64 b.d.n, .int .i64 b.d.e, .int .i64 b.d.s, .int .i64 b.d.w, .int .i64 b.d.b, .int .i64 (-7), .int .i64 (-7), .int .i64 0, .int .i64 0, .int .i64 0, .int .i64 0, .int .i64 0, .int .i64 0] rfl rfl _ _ HP0.out (by kernel_rfl) (by kernel_rfl) (by kernel_rfl) ?_))
      refine bodyPost_ret (ret_group Tryd.results46 rfl R1.out) rfl ⟨rfl, ?_⟩
      exact q1
set_option maxHeartbeats 3200000 in
theorem groupOf_3 (a b c : St) (gd : Nat) (n : Nat) (hn : 3 ≤ n) (w : World) (hD : StAt w gd 0 [a, b, c]) : Calls Tryd.prog 46 #[.slice (some ⟨gd, 0, none⟩) n n] w fun e w' => e = .returned (gV a b c) ∧ Below w.heap.size w w' := by
  have q0 : Below w.heap.size w ((w.alloc (.cells #[.int .i64 0, .int .i64 0, .int .i64 0, .int .i64 0, .int .i64 0, .int .i64 0, .int .i64 0, .int .i64 0, .int .i64 0, .int .i64 0, .int .i64 0, .int .i64 0, .int .i64 0, .int .i64 0, .int .i64 0, .int .i64 0, .int .i64 0, .int .i64 0, .int .i64 0, .int .i64 0, .int .i64 0, .int .i64 0, .int .i64 0, .int .i64 0] 70)).alloc (.cells #[.int .i64 0, .int .i64 0, .int .i64 0, .int .i64 0, .int .i64 0, .int .i64 0, .int .i64 0, .int .i64 0, .int .i64 0, .int .i64 0, .int .i64 0, .int .i64 0, .int .i64 0, .int .i64 0, .int .i64 0, .int .i64 0, .int .i64 0, .int .i64 0, .int .i64 0, .int .i64 0, .int .i64 0, .int .i64 0, .int .i64 0, .int .i64 0] 70)) := by go_grown
  have P0 := (IsP.new (w := w) (a := ⟨0, 0, ⟨0, 0, 0, 0, 0, 0⟩⟩) (b := ⟨0, 0, ⟨0, 0, 0, 0, 0, 0⟩⟩) (c := ⟨0, 0, ⟨0, 0, 0, 0, 0, 0⟩⟩)).alloc (.cells #[.int .i64 0, .int .i64 0, .int .i64 0, .int .i64 0, .int .i64 0, .int .i64 0, .int .i64 0, .int .i64 0, .int .i64 0, .int .i64 0, .int .i64 0, .int .i64 0, .int .i64 0, .int .i64 0, .int .i64 0, .int .i64 0, .int .i64 0, .int .i64 0, .int .i64 0, .int .i64 0, .int .i64 0, .int .i64 0, .int .i64 0, .int .i64 0] 70)
  have P1 := IsP.new2 (w := w) (o := (.cells #[.int .i64 0, .int .i64 0, .int .i64 0, .int .i64 0, .int .i64 0, .int .i64 0, .int .i64 0, .int .i64 0, .int .i64 0, .int .i64 0, .int .i64 0, .int .i64 0, .int .i64 0, .int .i64 0, .int .i64 0, .int .i64 0, .int .i64 0, .int .i64 0, .int .i64 0, .int .i64 0, .int .i64 0, .int .i64 0, .int .i64 0, .int .i64 0] 70)) (a := ⟨0, 0, ⟨0, 0, 0, 0, 0, 0⟩⟩) (b := ⟨0, 0, ⟨0, 0, 0, 0, 0, 0⟩⟩) (c := ⟨0, 0, ⟨0, 0, 0, 0, 0, 0⟩⟩)
  have D0 := stAt_to (w0 := w) q0 hD rfl
  generalize hW : (w.alloc (.cells #[.int .i64 0, .int .i64 0, .int .i64 0, .int .i64 0, .int .i64 0, .int .i64 0, .int .i64 0, .int .i64 0, .int .i64 0, .int .i64 0, .int .i64 0, .int .i64 0, .int .i64 0, .int .i64 0, .int .i64 0, .int .i64 0, .int .i64 0, .int .i64 0, .int .i64 0, .int .i64 0, .int .i64 0, .int .i64 0, .int .i64 0, .int .i64 0] 70)).alloc (.cells #[.int .i64 0, .int .i64 0, .int .i64 0, .int .i64 0, .int .i64 0, .int .i64 0, .int .i64 0, .int .i64 0, .int .i64 0, .int .i64 0, .int .i64 0, .int .i64 0, .int .i64 0, .int .i64 0, .int .i64 0, .int .i64 0, .int .i64 0, .int .i64 0, .int .i64 0, .int .i64 0, .int .i64 0, .int .i64 0, .int .i64 0, .int .i64 0] 70) = W0 at q0 P0 P1 D0
  have HW := hide hW
  clear hW hD
  have HSRC := hide (stAt_src D0)
  have HP1 := hide P1
  obtain ⟨W1, hcp, P2, q2, P3⟩ : ∃ W1, (Builtin.copy_ #[26, 26] 3 #[.slice (some ⟨w.heap.size + 1, 0, none⟩) 3 3, .slice (some ⟨gd, 0, none⟩) n n]).run Tryd.prog W0 = .ok (.int .i64 3) W1 ∧ IsP W1 (w.heap.size + 1) a b c ∧ Below w.heap.size w W1 ∧ IsP W1 w.heap.size ⟨0, 0, ⟨0, 0, 0, 0, 0, 0⟩⟩ ⟨0, 0, ⟨0, 0, 0, 0, 0, 0⟩⟩ ⟨0, 0, ⟨0, 0, 0, 0, 0, 0⟩⟩ := by
    have hr := run_copy_wide (P := Tryd.prog) W0 26 26 3 57 (w.heap.size + 1) 0 3 3 ⟨gd, 0, none⟩ n n #[.int .i64 0, .int .i64 0, .int .i64 0, .int .i64 0, .int .i64 0, .int .i64 0, .int .i64 0, .int .i64 0, .int .i64 0, .int .i64 0, .int .i64 0, .int .i64 0, .int .i64 0, .int .i64 0, .int .i64 0, .int .i64 0, .int .i64 0, .int .i64 0, .int .i64 0, .int .i64 0, .int .i64 0, .int .i64 0, .int .i64 0, .int .i64 0] 70 (cellsS ([a, b, c] : List St)) 8 3 Tryd.underlying26 size_st HP1.out (Nat.min_eq_right hn) rfl HSRC.out (by simp [cellsS, scells]) (cellsS_one _)
    refine ⟨_, hr, ?_, below_setRow q0 (by omega) _, (setRow_other W0 _ _ _ (by omega)).trans P0⟩
    exact setRow_heap W0 _ _ _ _ _ HP1.out
  clear P0 P1 D0 q0 HSRC HP1
  go_enter Tryd.func46, Tryd.ntmps46
  go_upto_region 2 with (fail)
  rw [HW.out]

  go_wp2
  go_loopw [4] (fun i wr => ((i = .int .i64 3 ∧ IsP wr (w.heap.size + 1) a b c)) ∧ IsP wr w.heap.size ⟨0, 0, ⟨0, 0, 0, 0, 0, 0⟩⟩ ⟨0, 0, ⟨0, 0, 0, 0, 0, 0⟩⟩ ⟨0, 0, ⟨0, 0, 0, 0, 0, 0⟩⟩ ∧ Below w.heap.size w wr) (fun i _ => 3 - (intOf i).toNat)
  case atStart => exact ⟨⟨rfl, P2⟩, P3, q2⟩
  case round =>
    obtain ⟨hk, P0, q⟩ := hrel
    clear P2 P3 q2 hcp HW
    obtain ⟨rfl, P⟩ := hk
    have HP := hide P
    have HP0 := hide P0
    have R1 := hide (show IsP (wr.setRow w.heap.size #[.int .i64 a.x, .int .i64 a.y, .int .i64 a.d.t, .int .i64 a.d.n, .int .i64 a.d.e, .int .i64 a.d.s, .int .i64 a.d.w, .int .i64 a.d.b, .int .i64 b.x, .int .i64 b.y, .int .i64 b.d.t, .int .i64 b.d.n, .int .i64 b.d.e, .int .i64 b.d.s, .int .i64 b.d.w, .int .i64 b.d.b, .int .i64 c.x, .int .i64 c.y, .int .i64 c.d.t, .int .i64 c.d.n, .int .i64 c.d.e, .int .i64 c.d.s, .int .i64 c.d.w, .int .i64 c.d.b]) w.heap.size a b c from setRow_heap wr w.heap.size _ #[.int .i64 a.x, .int .i64 a.y, .int .i64 a.d.t, .int .i64 a.d.n, .int .i64 a.d.e, .int .i64 a.d.s, .int .i64 a.d.w, .int .i64 a.d.b, .int .i64 b.x, .int .i64 b.y, .int .i64 b.d.t, .int .i64 b.d.n, .int .i64 b.d.e, .int .i64 b.d.s, .int .i64 b.d.w, .int .i64 b.d.b, .int .i64 c.x, .int .i64 c.y, .int .i64 c.d.t, .int .i64 c.d.n, .int .i64 c.d.e, .int .i64 c.d.s, .int .i64 c.d.w, .int .i64 c.d.b] _ _ P0)
    have q1 := below_setRow q (Nat.le_refl _) #[.int .i64 a.x, .int .i64 a.y, .int .i64 a.d.t, .int .i64 a.d.n, .int .i64 a.d.e, .int .i64 a.d.s, .int .i64 a.d.w, .int .i64 a.d.b, .int .i64 b.x, .int .i64 b.y, .int .i64 b.d.t, .int .i64 b.d.n, .int .i64 b.d.e, .int .i64 b.d.s, .int .i64 b.d.w, .int .i64 b.d.b, .int .i64 c.x, .int .i64 c.y, .int .i64 c.d.t, .int .i64 c.d.n, .int .i64 c.d.e, .int .i64 c.d.s, .int .i64 c.d.w, .int .i64 c.d.b]
    clear P P0 q
    go_wp2_with (first | (refine wpList_load_row rfl 70 (.tmp 3) rfl (w.heap.size + 1) rfl _ _ _ _ HP.out und_group rfl size_group ?_) | (refine wpList_store_row rfl 70 (.tmp 2) (.tmp 15) rfl w.heap.size #[.int .i64 a.x, .int .i64 a.y, .int .i64 a.d.t, .int .i64 a.d.n, .int .i64 a.d.e, .int .i64 a.d.s, .int .i64 a.d.w, .int .i64 a.d.b, .int .i64 b.x, .int .i64 b.y, .int .i64 b.d.t, .int .i64 b.d.n, .int .i64 b.d.e, .int .i64 b.d.s, .int .i64 b.d.w, .int .i64 b.d.b, .int .i64 c.x, .int .i64 c.y, .int .i64 c.d.t, .int .i64 c.d.n, .int .i64 c.d.e, .int .i64 c.d.s, .int .i64 c.d.w, .int .i64 c.d.b] rfl rfl _ _ HP0.out (by kernel_rfl) (by kernel_rfl) (by kernel_rfl) ?_))
    refine bodyPost_ret (ret_group Tryd.results46 rfl R1.out) rfl ⟨rfl, ?_⟩
    exact q1
/-- The first three of some states as a group, what stands for none behind them. -/
theorem groupOf_any (L : List St) (n gd : Nat) (hN : n = L.length) (w : World) (hD : StAt w gd 0 L) : Calls Tryd.prog 46 #[.slice (some ⟨gd, 0, none⟩) n n] w fun e w' => e = .returned (gV (pdS L 0) (pdS L 1) (pdS L 2)) ∧ Below w.heap.size w w' := by
  subst hN
  match L, hD with
  | [], hD => exact groupOf_0 gd w hD
  | [a], hD => exact groupOf_1 a gd w hD
  | [a, b], hD => exact groupOf_2 a b gd w hD
  | a :: b :: c :: M, hD => exact groupOf_3 a b c gd _ (by simp) w (by simpa using hD.take 3)
end Go.Proofs.YtdndegonpdakkaaDoor
