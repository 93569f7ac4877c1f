/- A puzzle's value and its variable: twelve cells of one block. The contracts of the laws' helpers on puzzles (toPuzzle, szPuzzle, eqPuzzle). -/
import Derived.Test.YtgehcjmhgfhkdaaDoorStates
namespace Go.Proofs.YtgehcjmhgfhkdaaDoor
set_option maxRecDepth 100000
set_option linter.all false
open Go.RowKit

/-- A puzzle: a board, a start, a cell, a top. -/
structure Pz where
  b : ByteArray
  s : St
  x : Int
  y : Int
  t : Int
abbrev Pz.v (p : Pz) : Value := .agg #[.string p.b, .int .i64 p.s.x, .int .i64 p.s.y, .int .i64 p.s.d.t, .int .i64 p.s.d.n, .int .i64 p.s.d.e, .int .i64 p.s.d.s, .int .i64 p.s.d.w, .int .i64 p.s.d.b, .int .i64 p.x, .int .i64 p.y, .int .i64 p.t]
/-- Block b of w is a puzzle's variable, that holds p. -/
def IsPz (w : World) (b : Nat) (p : Pz) (ty : TypeId) : Prop := w.heap[b]? = some (.cells #[.string p.b, .int .i64 p.s.x, .int .i64 p.s.y, .int .i64 p.s.d.t, .int .i64 p.s.d.n, .int .i64 p.s.d.e, .int .i64 p.s.d.s, .int .i64 p.s.d.w, .int .i64 p.s.d.b, .int .i64 p.x, .int .i64 p.y, .int .i64 p.t] ty (0, 0))
theorem IsPz.lt {w : World} {b : Nat} {p : Pz} {ty : TypeId} (h : IsPz w b p ty) : b < w.heap.size := by
  rcases Nat.lt_or_ge b w.heap.size with h' | h'
  · exact h'
  · simp [IsPz, Array.getElem?_eq_none h'] at h
theorem isPz_to {w w0 w1 : World} {b : Nat} {p : Pz} {ty : TypeId} (hb : Below w0.heap.size w0 w1) (h : IsPz w b p ty) (e : w0.heap = w.heap) : IsPz w1 b p ty := by
  have hl := h.lt
  have := hb.block b (by rw [e]; exact hl)
  unfold IsPz at h ⊢
  rw [this, e]
  exact h
theorem IsPz.all {w : World} {b : Nat} {p : Pz} {ty : TypeId} (h : IsPz w b p ty) : b < w.heap.size ∧ (w.cell? ⟨b, 0, none⟩ = some (.string p.b) ∧ w.cell? ⟨b, 1, none⟩ = some (.int .i64 p.s.x) ∧ w.cell? ⟨b, 2, none⟩ = some (.int .i64 p.s.y) ∧ w.cell? ⟨b, 3, none⟩ = some (.int .i64 p.s.d.t) ∧ w.cell? ⟨b, 4, none⟩ = some (.int .i64 p.s.d.n) ∧ w.cell? ⟨b, 5, none⟩ = some (.int .i64 p.s.d.e) ∧ w.cell? ⟨b, 6, none⟩ = some (.int .i64 p.s.d.s) ∧ w.cell? ⟨b, 7, none⟩ = some (.int .i64 p.s.d.w) ∧ w.cell? ⟨b, 8, none⟩ = some (.int .i64 p.s.d.b) ∧ w.cell? ⟨b, 9, none⟩ = some (.int .i64 p.x) ∧ w.cell? ⟨b, 10, none⟩ = some (.int .i64 p.y) ∧ w.cell? ⟨b, 11, none⟩ = some (.int .i64 p.t)) ∧ w.frozen? ⟨b, 0, none⟩ = false ∧ w.frozen? ⟨b, 1, none⟩ = false ∧ w.frozen? ⟨b, 2, none⟩ = false ∧ w.frozen? ⟨b, 3, none⟩ = false ∧ w.frozen? ⟨b, 4, none⟩ = false ∧ w.frozen? ⟨b, 5, none⟩ = false ∧ w.frozen? ⟨b, 6, none⟩ = false ∧ w.frozen? ⟨b, 7, none⟩ = false ∧ w.frozen? ⟨b, 8, none⟩ = false ∧ w.frozen? ⟨b, 9, none⟩ = false ∧ w.frozen? ⟨b, 10, none⟩ = false ∧ w.frozen? ⟨b, 11, none⟩ = false := by
  refine ⟨h.lt, ?_⟩
  unfold IsPz at h
  simp [World.cell?, World.frozen?, h]
theorem IsPz.new {w : World} {p : Pz} {ty : TypeId} : IsPz (w.alloc (.cells #[.string p.b, .int .i64 p.s.x, .int .i64 p.s.y, .int .i64 p.s.d.t, .int .i64 p.s.d.n, .int .i64 p.s.d.e, .int .i64 p.s.d.s, .int .i64 p.s.d.w, .int .i64 p.s.d.b, .int .i64 p.x, .int .i64 p.y, .int .i64 p.t] ty)) w.heap.size p ty := by
  show (w.heap.push _)[w.heap.size]? = _
  simp
theorem IsPz.new2 {w : World} {o : Obj} {p : Pz} {ty : TypeId} : IsPz ((w.alloc o).alloc (.cells #[.string p.b, .int .i64 p.s.x, .int .i64 p.s.y, .int .i64 p.s.d.t, .int .i64 p.s.d.n, .int .i64 p.s.d.e, .int .i64 p.s.d.s, .int .i64 p.s.d.w, .int .i64 p.s.d.b, .int .i64 p.x, .int .i64 p.y, .int .i64 p.t] ty)) (w.heap.size + 1) p ty := by
  simpa using IsPz.new (w := w.alloc o) (p := p) (ty := ty)
theorem IsPz.drew {w : World} {b : Nat} {p : Pz} {ty : TypeId} (h : IsPz w b p ty) : IsPz w.drew b p ty := h
theorem IsPz.alloc {w : World} {b : Nat} {p : Pz} {ty : TypeId} (h : IsPz w b p ty) (o : Obj) : IsPz (w.alloc o) b p ty := (Below.heap_alloc w o b h.lt).trans h
theorem IsPz.other {w : World} {b : Nat} {p : Pz} {ty : TypeId} (h : IsPz w b p ty) {q : Addr} (hp : b ≠ q.block) (u : Value) : IsPz (w.setCell q u) b p ty := (Below.heap_setCell w q u b hp).trans h
theorem IsPz.kept {w w1 : World} {b : Nat} {p : Pz} {ty : TypeId} {row : Option Nat} (h : IsPz w b p ty) (hg : w.grownBy w1 row) (hne : some b ≠ row) : IsPz w1 b p ty := (hg.block b h.lt hne).trans h
theorem IsPz.load {w : World} {b : Nat} {p : Pz} {ty : TypeId} (h : IsPz w b p ty) : (loadVar 34 ⟨b, 0, none⟩).run Tryd.prog w = .ok (Pz.v p) w := by
  obtain ⟨_, ⟨c0, c1, c2, c3, c4, c5, c6, c7, c8, c9, c10, c11⟩, _⟩ := h.all
  simp [go_sem, c0, c1, c2, c3, c4, c5, c6, c7, c8, c9, c10, c11]
set_option maxRecDepth 100000 in
theorem ret_puz {fn : Func} {q : Tmp} {tmps : Array Value} {w : World} {b : Nat} {p : Pz} {ty : TypeId} (h : fn.results = #[.cell q 34]) (hp : tmps.getD q undef = .pointer (some ⟨b, 0, none⟩)) (hd : IsPz w b p ty) : (results fn tmps).run Tryd.prog w = .ok (Pz.v p) w := by
  rw [results_cell h, hp]
  exact hd.load
theorem IsPz.set12 {w : World} {b : Nat} {q : Pz} {ty : TypeId} (h : IsPz w b q ty) (t : Pz) : IsPz ((((((((((((w.setCell ⟨b, 0, none⟩ (.string t.b)).setCell ⟨b, 1, none⟩ (.int .i64 t.s.x)).setCell ⟨b, 2, none⟩ (.int .i64 t.s.y)).setCell ⟨b, 3, none⟩ (.int .i64 t.s.d.t)).setCell ⟨b, 4, none⟩ (.int .i64 t.s.d.n)).setCell ⟨b, 5, none⟩ (.int .i64 t.s.d.e)).setCell ⟨b, 6, none⟩ (.int .i64 t.s.d.s)).setCell ⟨b, 7, none⟩ (.int .i64 t.s.d.w)).setCell ⟨b, 8, none⟩ (.int .i64 t.s.d.b)).setCell ⟨b, 9, none⟩ (.int .i64 t.x)).setCell ⟨b, 10, none⟩ (.int .i64 t.y)).setCell ⟨b, 11, none⟩ (.int .i64 t.t)) b t ty := by
  have h0 := cells_set h 0 (by simp) (.string t.b)
  have h1 := cells_set h0 1 (by simp) (.int .i64 t.s.x)
  have h2 := cells_set h1 2 (by simp) (.int .i64 t.s.y)
  have h3 := cells_set h2 3 (by simp) (.int .i64 t.s.d.t)
  have h4 := cells_set h3 4 (by simp) (.int .i64 t.s.d.n)
  have h5 := cells_set h4 5 (by simp) (.int .i64 t.s.d.e)
  have h6 := cells_set h5 6 (by simp) (.int .i64 t.s.d.s)
  have h7 := cells_set h6 7 (by simp) (.int .i64 t.s.d.w)
  have h8 := cells_set h7 8 (by simp) (.int .i64 t.s.d.b)
  have h9 := cells_set h8 9 (by simp) (.int .i64 t.x)
  have h10 := cells_set h9 10 (by simp) (.int .i64 t.y)
  have h11 := cells_set h10 11 (by simp) (.int .i64 t.t)
  simpa [IsPz] using h11
theorem below_set12P {B : Nat} {a w : World} {b : Nat} (h : Below B a w) (hb : B ≤ b) (t : Pz) : Below B a ((((((((((((w.setCell ⟨b, 0, none⟩ (.string t.b)).setCell ⟨b, 1, none⟩ (.int .i64 t.s.x)).setCell ⟨b, 2, none⟩ (.int .i64 t.s.y)).setCell ⟨b, 3, none⟩ (.int .i64 t.s.d.t)).setCell ⟨b, 4, none⟩ (.int .i64 t.s.d.n)).setCell ⟨b, 5, none⟩ (.int .i64 t.s.d.e)).setCell ⟨b, 6, none⟩ (.int .i64 t.s.d.s)).setCell ⟨b, 7, none⟩ (.int .i64 t.s.d.w)).setCell ⟨b, 8, none⟩ (.int .i64 t.s.d.b)).setCell ⟨b, 9, none⟩ (.int .i64 t.x)).setCell ⟨b, 10, none⟩ (.int .i64 t.y)).setCell ⟨b, 11, none⟩ (.int .i64 t.t)) :=
  h |>.setCell hb _ |>.setCell hb _ |>.setCell hb _ |>.setCell hb _ |>.setCell hb _ |>.setCell hb _ |>.setCell hb _ |>.setCell hb _ |>.setCell hb _ |>.setCell hb _ |>.setCell hb _ |>.setCell hb _
theorem IsPz.oth_set12 {w : World} {b c : Nat} {q : Pz} {ty : TypeId} (h : IsPz w b q ty) (hbc : b ≠ c) (t : Pz) : IsPz ((((((((((((w.setCell ⟨c, 0, none⟩ (.string t.b)).setCell ⟨c, 1, none⟩ (.int .i64 t.s.x)).setCell ⟨c, 2, none⟩ (.int .i64 t.s.y)).setCell ⟨c, 3, none⟩ (.int .i64 t.s.d.t)).setCell ⟨c, 4, none⟩ (.int .i64 t.s.d.n)).setCell ⟨c, 5, none⟩ (.int .i64 t.s.d.e)).setCell ⟨c, 6, none⟩ (.int .i64 t.s.d.s)).setCell ⟨c, 7, none⟩ (.int .i64 t.s.d.w)).setCell ⟨c, 8, none⟩ (.int .i64 t.s.d.b)).setCell ⟨c, 9, none⟩ (.int .i64 t.x)).setCell ⟨c, 10, none⟩ (.int .i64 t.y)).setCell ⟨c, 11, none⟩ (.int .i64 t.t)) b q ty :=
  h |>.other hbc _ |>.other hbc _ |>.other hbc _ |>.other hbc _ |>.other hbc _ |>.other hbc _ |>.other hbc _ |>.other hbc _ |>.other hbc _ |>.other hbc _ |>.other hbc _ |>.other hbc _
theorem IsPz.set11 {w : World} {b : Nat} {q : Pz} {ty : TypeId} (h : IsPz w b q ty) (t : Pz) : IsPz (((((((((((w.setCell ⟨b, 1, none⟩ (.int .i64 t.s.x)).setCell ⟨b, 2, none⟩ (.int .i64 t.s.y)).setCell ⟨b, 3, none⟩ (.int .i64 t.s.d.t)).setCell ⟨b, 4, none⟩ (.int .i64 t.s.d.n)).setCell ⟨b, 5, none⟩ (.int .i64 t.s.d.e)).setCell ⟨b, 6, none⟩ (.int .i64 t.s.d.s)).setCell ⟨b, 7, none⟩ (.int .i64 t.s.d.w)).setCell ⟨b, 8, none⟩ (.int .i64 t.s.d.b)).setCell ⟨b, 9, none⟩ (.int .i64 t.x)).setCell ⟨b, 10, none⟩ (.int .i64 t.y)).setCell ⟨b, 11, none⟩ (.int .i64 t.t)) b ⟨q.b, t.s, t.x, t.y, t.t⟩ ty := by
  have h1 := cells_set h 1 (by simp) (.int .i64 t.s.x)
  have h2 := cells_set h1 2 (by simp) (.int .i64 t.s.y)
  have h3 := cells_set h2 3 (by simp) (.int .i64 t.s.d.t)
  have h4 := cells_set h3 4 (by simp) (.int .i64 t.s.d.n)
  have h5 := cells_set h4 5 (by simp) (.int .i64 t.s.d.e)
  have h6 := cells_set h5 6 (by simp) (.int .i64 t.s.d.s)
  have h7 := cells_set h6 7 (by simp) (.int .i64 t.s.d.w)
  have h8 := cells_set h7 8 (by simp) (.int .i64 t.s.d.b)
  have h9 := cells_set h8 9 (by simp) (.int .i64 t.x)
  have h10 := cells_set h9 10 (by simp) (.int .i64 t.y)
  have h11 := cells_set h10 11 (by simp) (.int .i64 t.t)
  simpa [IsPz] using h11
theorem below_set11P {B : Nat} {a w : World} {b : Nat} (h : Below B a w) (hb : B ≤ b) (t : Pz) : Below B a (((((((((((w.setCell ⟨b, 1, none⟩ (.int .i64 t.s.x)).setCell ⟨b, 2, none⟩ (.int .i64 t.s.y)).setCell ⟨b, 3, none⟩ (.int .i64 t.s.d.t)).setCell ⟨b, 4, none⟩ (.int .i64 t.s.d.n)).setCell ⟨b, 5, none⟩ (.int .i64 t.s.d.e)).setCell ⟨b, 6, none⟩ (.int .i64 t.s.d.s)).setCell ⟨b, 7, none⟩ (.int .i64 t.s.d.w)).setCell ⟨b, 8, none⟩ (.int .i64 t.s.d.b)).setCell ⟨b, 9, none⟩ (.int .i64 t.x)).setCell ⟨b, 10, none⟩ (.int .i64 t.y)).setCell ⟨b, 11, none⟩ (.int .i64 t.t)) :=
  h |>.setCell hb _ |>.setCell hb _ |>.setCell hb _ |>.setCell hb _ |>.setCell hb _ |>.setCell hb _ |>.setCell hb _ |>.setCell hb _ |>.setCell hb _ |>.setCell hb _ |>.setCell hb _
theorem IsPz.oth_set11 {w : World} {b c : Nat} {q : Pz} {ty : TypeId} (h : IsPz w b q ty) (hbc : b ≠ c) (t : Pz) : IsPz (((((((((((w.setCell ⟨c, 1, none⟩ (.int .i64 t.s.x)).setCell ⟨c, 2, none⟩ (.int .i64 t.s.y)).setCell ⟨c, 3, none⟩ (.int .i64 t.s.d.t)).setCell ⟨c, 4, none⟩ (.int .i64 t.s.d.n)).setCell ⟨c, 5, none⟩ (.int .i64 t.s.d.e)).setCell ⟨c, 6, none⟩ (.int .i64 t.s.d.s)).setCell ⟨c, 7, none⟩ (.int .i64 t.s.d.w)).setCell ⟨c, 8, none⟩ (.int .i64 t.s.d.b)).setCell ⟨c, 9, none⟩ (.int .i64 t.x)).setCell ⟨c, 10, none⟩ (.int .i64 t.y)).setCell ⟨c, 11, none⟩ (.int .i64 t.t)) b q ty :=
  h |>.other hbc _ |>.other hbc _ |>.other hbc _ |>.other hbc _ |>.other hbc _ |>.other hbc _ |>.other hbc _ |>.other hbc _ |>.other hbc _ |>.other hbc _ |>.other hbc _
def zeroPz : Pz := ⟨⟨#[]⟩, ⟨0, 0, ⟨0, 0, 0, 0, 0, 0⟩⟩, 0, 0, 0⟩

set_option maxHeartbeats 800000 in
theorem szPuzzle_yes (p : Pz) (w : World) (h : p.b.size ≤ 1048576) : Calls Tryd.prog 10 #[Pz.v p, .int .i64 1048576] w fun e w' => e = .returned (.int .i64 (1048576 - (p.b.size : Int))) ∧ Below w.heap.size w w' := by
  have q1 : IntKind.i64.wrap (1048576 - (p.b.size : Int)) = 1048576 - (p.b.size : Int) := IntWalk.i64_in _ (by omega)
  generalize hz : p.b.size = z at h q1
  have HZ := hide hz
  go_enter Tryd.func10, Tryd.ntmps10
  go_wp2
  go_returns
  exact ⟨by go_num, by go_grown⟩
set_option maxHeartbeats 800000 in
theorem szPuzzle_no (p : Pz) (w : World) (hm : p.b.size ≤ maxLen) (h : ¬ p.b.size ≤ 1048576) : Calls Tryd.prog 10 #[Pz.v p, .int .i64 1048576] w fun e w' => e = .returned (.int .i64 (-1)) ∧ Below w.heap.size w w' := by
  unfold maxLen at hm
  have q1 : IntKind.i64.wrap (1048576 - (p.b.size : Int)) = 1048576 - (p.b.size : Int) := IntWalk.i64_in _ (by omega)
  generalize hz : p.b.size = z at h hm q1
  have HZ := hide hz
  go_enter Tryd.func10, Tryd.ntmps10
  go_wp2
  go_returns
  exact ⟨rfl, by go_grown⟩

set_option maxHeartbeats 1600000 in
theorem toPuzzle_any (p : Pz) (w : World) : Calls Tryd.prog 12 #[Pz.v p] w fun e w' => e = .returned (Pz.v p) ∧ Below w.heap.size w w' := by
  have s1 : IsPz (((w.alloc (.cells #[.string p.b, .int .i64 p.s.x, .int .i64 p.s.y, .int .i64 p.s.d.t, .int .i64 p.s.d.n, .int .i64 p.s.d.e, .int .i64 p.s.d.s, .int .i64 p.s.d.w, .int .i64 p.s.d.b, .int .i64 p.x, .int .i64 p.y, .int .i64 p.t] 27)).alloc (.cells #[.string ⟨#[]⟩, .int .i64 0, .int .i64 0, .int .i64 0, .int .i64 0, .int .i64 0, .int .i64 0, .int .i64 0, .int .i64 0, .int .i64 0, .int .i64 0, .int .i64 0] 34)).alloc (.cells #[.string p.b, .int .i64 0, .int .i64 0, .int .i64 0, .int .i64 0, .int .i64 0, .int .i64 0, .int .i64 0, .int .i64 0, .int .i64 0, .int .i64 0, .int .i64 0] 34)) w.heap.size p 27 := (IsPz.new.alloc _).alloc _
  have s2 : IsPz (((w.alloc (.cells #[.string p.b, .int .i64 p.s.x, .int .i64 p.s.y, .int .i64 p.s.d.t, .int .i64 p.s.d.n, .int .i64 p.s.d.e, .int .i64 p.s.d.s, .int .i64 p.s.d.w, .int .i64 p.s.d.b, .int .i64 p.x, .int .i64 p.y, .int .i64 p.t] 27)).alloc (.cells #[.string ⟨#[]⟩, .int .i64 0, .int .i64 0, .int .i64 0, .int .i64 0, .int .i64 0, .int .i64 0, .int .i64 0, .int .i64 0, .int .i64 0, .int .i64 0, .int .i64 0] 34)).alloc (.cells #[.string p.b, .int .i64 0, .int .i64 0, .int .i64 0, .int .i64 0, .int .i64 0, .int .i64 0, .int .i64 0, .int .i64 0, .int .i64 0, .int .i64 0, .int .i64 0] 34)) (w.heap.size + 1) zeroPz 34 := (IsPz.new2 (p := zeroPz)).alloc _
  have s3 : IsPz (((w.alloc (.cells #[.string p.b, .int .i64 p.s.x, .int .i64 p.s.y, .int .i64 p.s.d.t, .int .i64 p.s.d.n, .int .i64 p.s.d.e, .int .i64 p.s.d.s, .int .i64 p.s.d.w, .int .i64 p.s.d.b, .int .i64 p.x, .int .i64 p.y, .int .i64 p.t] 27)).alloc (.cells #[.string ⟨#[]⟩, .int .i64 0, .int .i64 0, .int .i64 0, .int .i64 0, .int .i64 0, .int .i64 0, .int .i64 0, .int .i64 0, .int .i64 0, .int .i64 0, .int .i64 0] 34)).alloc (.cells #[.string p.b, .int .i64 0, .int .i64 0, .int .i64 0, .int .i64 0, .int .i64 0, .int .i64 0, .int .i64 0, .int .i64 0, .int .i64 0, .int .i64 0, .int .i64 0] 34)) (w.heap.size + 2) ⟨p.b, ⟨0, 0, ⟨0, 0, 0, 0, 0, 0⟩⟩, 0, 0, 0⟩ 34 := by
    have := IsPz.new (w := ((w.alloc (.cells #[.string p.b, .int .i64 p.s.x, .int .i64 p.s.y, .int .i64 p.s.d.t, .int .i64 p.s.d.n, .int .i64 p.s.d.e, .int .i64 p.s.d.s, .int .i64 p.s.d.w, .int .i64 p.s.d.b, .int .i64 p.x, .int .i64 p.y, .int .i64 p.t] 27)).alloc (.cells #[.string ⟨#[]⟩, .int .i64 0, .int .i64 0, .int .i64 0, .int .i64 0, .int .i64 0, .int .i64 0, .int .i64 0, .int .i64 0, .int .i64 0, .int .i64 0, .int .i64 0] 34))) (p := ⟨p.b, ⟨0, 0, ⟨0, 0, 0, 0, 0, 0⟩⟩, 0, 0, 0⟩) (ty := 34)
    simpa using this
  have q0 : Below w.heap.size w (((w.alloc (.cells #[.string p.b, .int .i64 p.s.x, .int .i64 p.s.y, .int .i64 p.s.d.t, .int .i64 p.s.d.n, .int .i64 p.s.d.e, .int .i64 p.s.d.s, .int .i64 p.s.d.w, .int .i64 p.s.d.b, .int .i64 p.x, .int .i64 p.y, .int .i64 p.t] 27)).alloc (.cells #[.string ⟨#[]⟩, .int .i64 0, .int .i64 0, .int .i64 0, .int .i64 0, .int .i64 0, .int .i64 0, .int .i64 0, .int .i64 0, .int .i64 0, .int .i64 0, .int .i64 0] 34)).alloc (.cells #[.string p.b, .int .i64 0, .int .i64 0, .int .i64 0, .int .i64 0, .int .i64 0, .int .i64 0, .int .i64 0, .int .i64 0, .int .i64 0, .int .i64 0, .int .i64 0] 34)) := by go_grown
  have HT := hide (toState_any p.s)
  go_enter Tryd.func12, Tryd.ntmps12
  go_wp2_with fail
  refine (HT.out _).mono ?_
  rintro e w1 ⟨rfl, hb1⟩
  have t1 := isPz_to hb1 s1 rfl
  have t2 := isPz_to hb1 s2 rfl
  have t3 := isPz_to hb1 s3 rfl
  have q1 := below_to hb1 q0 q0.size rfl rfl rfl rfl
  clear hb1 s1 s2 s3 q0
  obtain ⟨l1, ⟨a0, a1, a2, a3, a4, a5, a6, a7, a8, a9, a10, a11⟩, -⟩ := t1.all
  obtain ⟨l3, ⟨c0, c1, c2, c3, c4, c5, c6, c7, c8, c9, c10, c11⟩, f0, f1, f2, f3, f4, f5, f6, f7, f8, f9, f10, f11⟩ := t3.all
  go_upto_region 7 with (fail)
  have v3 := t3.set11 p
  have v2 := t2.oth_set11 (c := w.heap.size + 2) (by omega) p
  have q2 := below_set11P (b := w.heap.size + 2) q1 (by omega) p
  clear a0 a1 a2 a3 a4 a5 a6 a7 a8 a9 a10 a11 c0 c1 c2 c3 c4 c5 c6 c7 c8 c9 c10 c11 f0 f1 f2 f3 f4 f5 f6 f7 f8 f9 f10 f11 l1 l3 t1 t2 t3 q1
  generalize (((((((((((w1.setCell ⟨w.heap.size + 2, 1, none⟩ (.int .i64 p.s.x)).setCell ⟨w.heap.size + 2, 2, none⟩ (.int .i64 p.s.y)).setCell ⟨w.heap.size + 2, 3, none⟩ (.int .i64 p.s.d.t)).setCell ⟨w.heap.size + 2, 4, none⟩ (.int .i64 p.s.d.n)).setCell ⟨w.heap.size + 2, 5, none⟩ (.int .i64 p.s.d.e)).setCell ⟨w.heap.size + 2, 6, none⟩ (.int .i64 p.s.d.s)).setCell ⟨w.heap.size + 2, 7, none⟩ (.int .i64 p.s.d.w)).setCell ⟨w.heap.size + 2, 8, none⟩ (.int .i64 p.s.d.b)).setCell ⟨w.heap.size + 2, 9, none⟩ (.int .i64 p.x)).setCell ⟨w.heap.size + 2, 10, none⟩ (.int .i64 p.y)).setCell ⟨w.heap.size + 2, 11, none⟩ (.int .i64 p.t)) = w2 at v3 v2 q2 ⊢
  obtain ⟨l3, ⟨c0, c1, c2, c3, c4, c5, c6, c7, c8, c9, c10, c11⟩, -⟩ := v3.all
  obtain ⟨l2, -, f0, f1, f2, f3, f4, f5, f6, f7, f8, f9, f10, f11⟩ := v2.all
  obtain ⟨-, ⟨d0, d1, d2, d3, d4, d5, d6, d7, d8, d9, d10, d11⟩, -⟩ := v2.all
  go_wp2
  refine bodyPost_ret (ret_puz Tryd.results12 rfl (v2.set12 p)) rfl ⟨rfl, ?_⟩
  exact below_set12P q2 (by omega) p

set_option maxHeartbeats 1600000 in
theorem eqPuzzle_self (p : Pz) (w : World) : Calls Tryd.prog 25 #[Pz.v p, Pz.v p] w fun e w' => e = .returned (.bool true) ∧ Below w.heap.size w w' := by
  have n0 : (p.b.toList != p.b.toList) = false := by simp
  have n1 : (p.x != p.x) = false := by simp
  have n2 : (p.y != p.y) = false := by simp
  have n3 : (p.t != p.t) = false := by simp
  have s1 : IsPz ((w.alloc (.cells #[.string p.b, .int .i64 p.s.x, .int .i64 p.s.y, .int .i64 p.s.d.t, .int .i64 p.s.d.n, .int .i64 p.s.d.e, .int .i64 p.s.d.s, .int .i64 p.s.d.w, .int .i64 p.s.d.b, .int .i64 p.x, .int .i64 p.y, .int .i64 p.t] 34)).alloc (.cells #[.string p.b, .int .i64 p.s.x, .int .i64 p.s.y, .int .i64 p.s.d.t, .int .i64 p.s.d.n, .int .i64 p.s.d.e, .int .i64 p.s.d.s, .int .i64 p.s.d.w, .int .i64 p.s.d.b, .int .i64 p.x, .int .i64 p.y, .int .i64 p.t] 34)) w.heap.size p 34 := IsPz.new.alloc _
  have s2 : IsPz ((w.alloc (.cells #[.string p.b, .int .i64 p.s.x, .int .i64 p.s.y, .int .i64 p.s.d.t, .int .i64 p.s.d.n, .int .i64 p.s.d.e, .int .i64 p.s.d.s, .int .i64 p.s.d.w, .int .i64 p.s.d.b, .int .i64 p.x, .int .i64 p.y, .int .i64 p.t] 34)).alloc (.cells #[.string p.b, .int .i64 p.s.x, .int .i64 p.s.y, .int .i64 p.s.d.t, .int .i64 p.s.d.n, .int .i64 p.s.d.e, .int .i64 p.s.d.s, .int .i64 p.s.d.w, .int .i64 p.s.d.b, .int .i64 p.x, .int .i64 p.y, .int .i64 p.t] 34)) (w.heap.size + 1) p 34 := IsPz.new2
  have q0 : Below w.heap.size w ((w.alloc (.cells #[.string p.b, .int .i64 p.s.x, .int .i64 p.s.y, .int .i64 p.s.d.t, .int .i64 p.s.d.n, .int .i64 p.s.d.e, .int .i64 p.s.d.s, .int .i64 p.s.d.w, .int .i64 p.s.d.b, .int .i64 p.x, .int .i64 p.y, .int .i64 p.t] 34)).alloc (.cells #[.string p.b, .int .i64 p.s.x, .int .i64 p.s.y, .int .i64 p.s.d.t, .int .i64 p.s.d.n, .int .i64 p.s.d.e, .int .i64 p.s.d.s, .int .i64 p.s.d.w, .int .i64 p.s.d.b, .int .i64 p.x, .int .i64 p.y, .int .i64 p.t] 34)) := by go_grown
  have HE := hide (eqState_self p.s)
  go_enter Tryd.func25, Tryd.ntmps25
  go_wp2_with fail
  refine (HE.out _).mono ?_
  rintro e w1 ⟨rfl, hb1⟩
  have t1 := isPz_to hb1 s1 rfl
  have t2 := isPz_to hb1 s2 rfl
  have q1 := below_to hb1 q0 q0.size rfl rfl rfl rfl
  clear hb1 s1 s2 q0
  obtain ⟨l1, ⟨a0, a1, a2, a3, a4, a5, a6, a7, a8, a9, a10, a11⟩, -⟩ := t1.all
  obtain ⟨l2, ⟨c0, c1, c2, c3, c4, c5, c6, c7, c8, c9, c10, c11⟩, -⟩ := t2.all
  go_wp2
  go_returns
  exact ⟨rfl, q1⟩
end Go.Proofs.YtgehcjmhgfhkdaaDoor
