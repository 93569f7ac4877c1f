/- Small laws on worlds: what a contract leaves, whatever was drawn before it. A state's value and its variable: eight cells of one block. A landing's value and its variable: ten cells of one block. -/
import Derived.Test.YthdkhikkdcjifaaDoorBase
namespace Go.Proofs.YthdkhikkdcjifaaDoor
set_option maxRecDepth 100000
set_option linter.all false
open Go.RowKit

theorem below_to {B : Nat} {w w0 x w1 : World} (h1 : Below x.heap.size x w1) (h0 : Below B w w0) (hB : B ≤ w0.heap.size) (e1 : x.heap = w0.heap) (e2 : x.os = w0.os) (e3 : x.tape = w0.tape) (e4 : x.output = w0.output) : Below B w w1 :=
  below_after (w0 := x) ⟨e2.trans h0.os, e3.trans h0.tape, e4.trans h0.output, by rw [e1]; exact h0.size, fun k hk => by rw [e1]; exact h0.block k hk⟩ h1 (by rw [e1]; exact hB)
theorem isD_to {w w0 w1 : World} {b : Nat} {d : D} {ty : TypeId} (hb : Below w0.heap.size w0 w1) (h : IsD w b d ty) (e : w0.heap = w.heap) : IsD w1 b d ty := h.below e hb
end Go.Proofs.YthdkhikkdcjifaaDoor
namespace Go.Proofs.YthdkhikkdcjifaaDoor
set_option maxRecDepth 100000
set_option linter.all false
open Go.RowKit

/-- A state: a cell and a die. -/
structure St where
  x : Int
  y : Int
  d : D
theorem St.ext' {s t : St} (h1 : s.x = t.x) (h2 : s.y = t.y) (h3 : s.d = t.d) : s = t := by cases s; cases t; simp_all
instance : DecidableEq St := fun s t =>
  if h : s.x = t.x ∧ s.y = t.y ∧ s.d = t.d then isTrue (St.ext' h.1 h.2.1 h.2.2) else isFalse (fun e => h (by subst e; simp))
def zeroS : St := ⟨0, 0, zeroD⟩
/-- The value of a state. -/
abbrev St.v (s : St) : Value := .agg #[.int .i64 s.x, .int .i64 s.y, .int .i64 s.d.t, .int .i64 s.d.n, .int .i64 s.d.e, .int .i64 s.d.s, .int .i64 s.d.w, .int .i64 s.d.b]

/-- Block b of w is a state's variable, that holds s. -/
def IsS (w : World) (b : Nat) (s : St) (ty : TypeId) : Prop := w.heap[b]? = some (.cells #[.int .i64 s.x, .int .i64 s.y, .int .i64 s.d.t, .int .i64 s.d.n, .int .i64 s.d.e, .int .i64 s.d.s, .int .i64 s.d.w, .int .i64 s.d.b] ty (0, 0))
theorem IsS.lt {w : World} {b : Nat} {s : St} {ty : TypeId} (h : IsS w b s ty) : b < w.heap.size := by
  rcases Nat.lt_or_ge b w.heap.size with h' | h'
  · exact h'
  · simp [IsS, Array.getElem?_eq_none h'] at h
theorem isS_to {w w0 w1 : World} {b : Nat} {s : St} {ty : TypeId} (hb : Below w0.heap.size w0 w1) (h : IsS w b s ty) (e : w0.heap = w.heap) : IsS w1 b s ty := by
  have hl := h.lt
  have := hb.block b (by rw [e]; exact hl)
  unfold IsS at h ⊢
  rw [this, e]
  exact h
/-- All that a walk asks of a state's variable. -/
theorem IsS.all {w : World} {b : Nat} {s : St} {ty : TypeId} (h : IsS w b s ty) : b < w.heap.size ∧
    (w.cell? ⟨b, 0, none⟩ = some (.int .i64 s.x) ∧ w.cell? ⟨b, 1, none⟩ = some (.int .i64 s.y) ∧ w.cell? ⟨b, 2, none⟩ = some (.int .i64 s.d.t) ∧ w.cell? ⟨b, 3, none⟩ = some (.int .i64 s.d.n) ∧ w.cell? ⟨b, 4, none⟩ = some (.int .i64 s.d.e) ∧ w.cell? ⟨b, 5, none⟩ = some (.int .i64 s.d.s) ∧ w.cell? ⟨b, 6, none⟩ = some (.int .i64 s.d.w) ∧ w.cell? ⟨b, 7, none⟩ = some (.int .i64 s.d.b)) ∧
    w.frozen? ⟨b, 0, none⟩ = false ∧ w.frozen? ⟨b, 1, none⟩ = false ∧ w.frozen? ⟨b, 2, none⟩ = false ∧ w.frozen? ⟨b, 3, none⟩ = false ∧ w.frozen? ⟨b, 4, none⟩ = false ∧ w.frozen? ⟨b, 5, none⟩ = false ∧ w.frozen? ⟨b, 6, none⟩ = false ∧ w.frozen? ⟨b, 7, none⟩ = false := by
  refine ⟨h.lt, ?_⟩
  unfold IsS at h
  simp [World.cell?, World.frozen?, h]
theorem IsS.new {w : World} {s : St} {ty : TypeId} : IsS (w.alloc (.cells #[.int .i64 s.x, .int .i64 s.y, .int .i64 s.d.t, .int .i64 s.d.n, .int .i64 s.d.e, .int .i64 s.d.s, .int .i64 s.d.w, .int .i64 s.d.b] ty)) w.heap.size s ty := by
  show (w.heap.push _)[w.heap.size]? = _
  simp
theorem IsS.alloc {w : World} {b : Nat} {s : St} {ty : TypeId} (h : IsS w b s ty) (o : Obj) : IsS (w.alloc o) b s ty := (Below.heap_alloc w o b h.lt).trans h
theorem IsS.new2 {w : World} {o : Obj} {s : St} {ty : TypeId} : IsS ((w.alloc o).alloc (.cells #[.int .i64 s.x, .int .i64 s.y, .int .i64 s.d.t, .int .i64 s.d.n, .int .i64 s.d.e, .int .i64 s.d.s, .int .i64 s.d.w, .int .i64 s.d.b] ty)) (w.heap.size + 1) s ty := by
  simpa using IsS.new (w := w.alloc o) (s := s) (ty := ty)
theorem IsS.other {w : World} {b : Nat} {s : St} {ty : TypeId} (h : IsS w b s ty) {p : Addr} (hp : b ≠ p.block) (u : Value) : IsS (w.setCell p u) b s ty := (Below.heap_setCell w p u b hp).trans h
theorem IsS.set8 {w : World} {b : Nat} {s : St} {ty : TypeId} (h : IsS w b s ty) (t : St) : IsS ((((((((w.setCell ⟨b, 0, none⟩ (.int .i64 t.x)).setCell ⟨b, 1, none⟩ (.int .i64 t.y)).setCell ⟨b, 2, none⟩ (.int .i64 t.d.t)).setCell ⟨b, 3, none⟩ (.int .i64 t.d.n)).setCell ⟨b, 4, none⟩ (.int .i64 t.d.e)).setCell ⟨b, 5, none⟩ (.int .i64 t.d.s)).setCell ⟨b, 6, none⟩ (.int .i64 t.d.w)).setCell ⟨b, 7, none⟩ (.int .i64 t.d.b)) b t ty := by
  have h1 := cells_set h 0 (by simp) (.int .i64 t.x)
  have h2 := cells_set h1 1 (by simp) (.int .i64 t.y)
  have h3 := cells_set h2 2 (by simp) (.int .i64 t.d.t)
  have h4 := cells_set h3 3 (by simp) (.int .i64 t.d.n)
  have h5 := cells_set h4 4 (by simp) (.int .i64 t.d.e)
  have h6 := cells_set h5 5 (by simp) (.int .i64 t.d.s)
  have h7 := cells_set h6 6 (by simp) (.int .i64 t.d.w)
  have h8 := cells_set h7 7 (by simp) (.int .i64 t.d.b)
  simpa [IsS] using h8
theorem below_set8 {B : Nat} {a w : World} {b : Nat} (h : Below B a w) (hb : B ≤ b) (t : St) : Below B a ((((((((w.setCell ⟨b, 0, none⟩ (.int .i64 t.x)).setCell ⟨b, 1, none⟩ (.int .i64 t.y)).setCell ⟨b, 2, none⟩ (.int .i64 t.d.t)).setCell ⟨b, 3, none⟩ (.int .i64 t.d.n)).setCell ⟨b, 4, none⟩ (.int .i64 t.d.e)).setCell ⟨b, 5, none⟩ (.int .i64 t.d.s)).setCell ⟨b, 6, none⟩ (.int .i64 t.d.w)).setCell ⟨b, 7, none⟩ (.int .i64 t.d.b)) :=
  h |>.setCell hb _ |>.setCell hb _ |>.setCell hb _ |>.setCell hb _ |>.setCell hb _ |>.setCell hb _ |>.setCell hb _ |>.setCell hb _
/-- What a state's variable hands back. -/
theorem IsS.load {w : World} {b : Nat} {s : St} {ty : TypeId} (h : IsS w b s ty) : (loadVar 30 ⟨b, 0, none⟩).run Tryd.prog w = .ok (St.v s) w := by
  obtain ⟨_, ⟨c0, c1, c2, c3, c4, c5, c6, c7⟩, _⟩ := h.all
  simp [go_sem, c0, c1, c2, c3, c4, c5, c6, c7]
set_option maxRecDepth 100000 in
theorem ret_state {fn : Func} {p : Tmp} {tmps : Array Value} {w : World} {b : Nat} {s : St} {ty : TypeId} (h : fn.results = #[.cell p 30]) (hp : tmps.getD p undef = .pointer (some ⟨b, 0, none⟩)) (hd : IsS w b s ty) : (results fn tmps).run Tryd.prog w = .ok (St.v s) w := by
  rw [results_cell h, hp]
  exact hd.load
set_option maxRecDepth 100000 in
theorem ret_state2 {fn : Func} {p u : Tmp} {tmps : Array Value} {w : World} {b : Nat} {s : St} {ty : TypeId} {x : Bool} (h : fn.results = #[.cell p 30, .tmp u]) (hp : tmps.getD p undef = .pointer (some ⟨b, 0, none⟩)) (hu : tmps.getD u undef = .bool x) (hd : IsS w b s ty) :
    (results fn tmps).run Tryd.prog w = .ok (.tuple #[St.v s, .bool x]) w := by
  rw [results_cell_tmp h, hp, hu]
  show ((loadVar 30 ⟨b, 0, none⟩).run Tryd.prog w).andThen _ = _
  rw [hd.load]
  rfl
end Go.Proofs.YthdkhikkdcjifaaDoor
namespace Go.Proofs.YthdkhikkdcjifaaDoor
set_option maxRecDepth 100000
set_option linter.all false
open Go.RowKit

/-- A landing: its number, the state, the rolls. -/
structure Ld where
  n : Int
  s : St
  r : Int
abbrev Ld.v (q : Ld) : Value := .agg #[.int .i64 q.n, .int .i64 q.s.x, .int .i64 q.s.y, .int .i64 q.s.d.t, .int .i64 q.s.d.n, .int .i64 q.s.d.e, .int .i64 q.s.d.s, .int .i64 q.s.d.w, .int .i64 q.s.d.b, .int .i64 q.r]
def ldC (q : Ld) : List Value := [.int .i64 q.n, .int .i64 q.s.x, .int .i64 q.s.y, .int .i64 q.s.d.t, .int .i64 q.s.d.n, .int .i64 q.s.d.e, .int .i64 q.s.d.s, .int .i64 q.s.d.w, .int .i64 q.s.d.b, .int .i64 q.r]
def IsL (w : World) (b : Nat) (q : Ld) (ty : TypeId) : Prop := w.heap[b]? = some (.cells #[.int .i64 q.n, .int .i64 q.s.x, .int .i64 q.s.y, .int .i64 q.s.d.t, .int .i64 q.s.d.n, .int .i64 q.s.d.e, .int .i64 q.s.d.s, .int .i64 q.s.d.w, .int .i64 q.s.d.b, .int .i64 q.r] ty (0, 0))
theorem IsL.lt {w : World} {b : Nat} {q : Ld} {ty : TypeId} (h : IsL w b q ty) : b < w.heap.size := by
  rcases Nat.lt_or_ge b w.heap.size with h' | h'
  · exact h'
  · simp [IsL, Array.getElem?_eq_none h'] at h
theorem isL_to {w w0 w1 : World} {b : Nat} {q : Ld} {ty : TypeId} (hb : Below w0.heap.size w0 w1) (h : IsL w b q ty) (e : w0.heap = w.heap) : IsL w1 b q ty := by
  have hl := h.lt
  have := hb.block b (by rw [e]; exact hl)
  unfold IsL at h ⊢
  rw [this, e]
  exact h
theorem IsL.all {w : World} {b : Nat} {q : Ld} {ty : TypeId} (h : IsL w b q ty) : b < w.heap.size ∧
    (w.cell? ⟨b, 0, none⟩ = some (.int .i64 q.n) ∧ w.cell? ⟨b, 1, none⟩ = some (.int .i64 q.s.x) ∧ w.cell? ⟨b, 2, none⟩ = some (.int .i64 q.s.y) ∧ w.cell? ⟨b, 3, none⟩ = some (.int .i64 q.s.d.t) ∧ w.cell? ⟨b, 4, none⟩ = some (.int .i64 q.s.d.n) ∧ w.cell? ⟨b, 5, none⟩ = some (.int .i64 q.s.d.e) ∧ w.cell? ⟨b, 6, none⟩ = some (.int .i64 q.s.d.s) ∧ w.cell? ⟨b, 7, none⟩ = some (.int .i64 q.s.d.w) ∧ w.cell? ⟨b, 8, none⟩ = some (.int .i64 q.s.d.b) ∧ w.cell? ⟨b, 9, none⟩ = some (.int .i64 q.r)) ∧
    w.frozen? ⟨b, 0, none⟩ = false ∧ w.frozen? ⟨b, 1, none⟩ = false ∧ w.frozen? ⟨b, 2, none⟩ = false ∧ w.frozen? ⟨b, 3, none⟩ = false ∧ w.frozen? ⟨b, 4, none⟩ = false ∧ w.frozen? ⟨b, 5, none⟩ = false ∧ w.frozen? ⟨b, 6, none⟩ = false ∧ w.frozen? ⟨b, 7, none⟩ = false ∧ w.frozen? ⟨b, 8, none⟩ = false ∧ w.frozen? ⟨b, 9, none⟩ = false := by
  refine ⟨h.lt, ?_⟩
  unfold IsL at h
  simp [World.cell?, World.frozen?, h]
theorem IsL.new {w : World} {q : Ld} {ty : TypeId} : IsL (w.alloc (.cells #[.int .i64 q.n, .int .i64 q.s.x, .int .i64 q.s.y, .int .i64 q.s.d.t, .int .i64 q.s.d.n, .int .i64 q.s.d.e, .int .i64 q.s.d.s, .int .i64 q.s.d.w, .int .i64 q.s.d.b, .int .i64 q.r] ty)) w.heap.size q ty := by
  show (w.heap.push _)[w.heap.size]? = _
  simp
theorem IsL.drew {w : World} {b : Nat} {q : Ld} {ty : TypeId} (h : IsL w b q ty) : IsL w.drew b q ty := h
theorem IsL.alloc {w : World} {b : Nat} {q : Ld} {ty : TypeId} (h : IsL w b q ty) (o : Obj) : IsL (w.alloc o) b q ty := (Below.heap_alloc w o b h.lt).trans h
theorem IsL.other {w : World} {b : Nat} {q : Ld} {ty : TypeId} (h : IsL w b q ty) {p : Addr} (hp : b ≠ p.block) (u : Value) : IsL (w.setCell p u) b q ty := (Below.heap_setCell w p u b hp).trans h
theorem IsL.kept {w w1 : World} {b : Nat} {q : Ld} {ty : TypeId} {row : Option Nat} (h : IsL w b q ty) (hg : w.grownBy w1 row) (hne : some b ≠ row) : IsL w1 b q ty := (hg.block b h.lt hne).trans h
theorem IsL.set10 {w : World} {b : Nat} {q : Ld} {ty : TypeId} (h : IsL w b q ty) (p : Ld) : IsL ((((((((((w.setCell ⟨b, 0, none⟩ (.int .i64 p.n)).setCell ⟨b, 1, none⟩ (.int .i64 p.s.x)).setCell ⟨b, 2, none⟩ (.int .i64 p.s.y)).setCell ⟨b, 3, none⟩ (.int .i64 p.s.d.t)).setCell ⟨b, 4, none⟩ (.int .i64 p.s.d.n)).setCell ⟨b, 5, none⟩ (.int .i64 p.s.d.e)).setCell ⟨b, 6, none⟩ (.int .i64 p.s.d.s)).setCell ⟨b, 7, none⟩ (.int .i64 p.s.d.w)).setCell ⟨b, 8, none⟩ (.int .i64 p.s.d.b)).setCell ⟨b, 9, none⟩ (.int .i64 p.r)) b p ty := by
  have h0 := cells_set h 0 (by simp) (.int .i64 p.n)
  have h1 := cells_set h0 1 (by simp) (.int .i64 p.s.x)
  have h2 := cells_set h1 2 (by simp) (.int .i64 p.s.y)
  have h3 := cells_set h2 3 (by simp) (.int .i64 p.s.d.t)
  have h4 := cells_set h3 4 (by simp) (.int .i64 p.s.d.n)
  have h5 := cells_set h4 5 (by simp) (.int .i64 p.s.d.e)
  have h6 := cells_set h5 6 (by simp) (.int .i64 p.s.d.s)
  have h7 := cells_set h6 7 (by simp) (.int .i64 p.s.d.w)
  have h8 := cells_set h7 8 (by simp) (.int .i64 p.s.d.b)
  have h9 := cells_set h8 9 (by simp) (.int .i64 p.r)
  simpa [IsL] using h9
theorem below_set10 {B : Nat} {a w : World} {b : Nat} (h : Below B a w) (hb : B ≤ b) (p : Ld) : Below B a ((((((((((w.setCell ⟨b, 0, none⟩ (.int .i64 p.n)).setCell ⟨b, 1, none⟩ (.int .i64 p.s.x)).setCell ⟨b, 2, none⟩ (.int .i64 p.s.y)).setCell ⟨b, 3, none⟩ (.int .i64 p.s.d.t)).setCell ⟨b, 4, none⟩ (.int .i64 p.s.d.n)).setCell ⟨b, 5, none⟩ (.int .i64 p.s.d.e)).setCell ⟨b, 6, none⟩ (.int .i64 p.s.d.s)).setCell ⟨b, 7, none⟩ (.int .i64 p.s.d.w)).setCell ⟨b, 8, none⟩ (.int .i64 p.s.d.b)).setCell ⟨b, 9, none⟩ (.int .i64 p.r)) :=
  h |>.setCell hb _ |>.setCell hb _ |>.setCell hb _ |>.setCell hb _ |>.setCell hb _ |>.setCell hb _ |>.setCell hb _ |>.setCell hb _ |>.setCell hb _ |>.setCell hb _
theorem grown_set {a w : World} {row : Option Nat} (h : a.grownBy w row) {p : Addr} (hp : a.heap.size ≤ p.block) (u : Value) : a.grownBy (w.setCell p u) row :=
  ⟨h.os, h.tape, h.output, by simpa [World.setCell] using h.size, fun k hk hne => (Below.heap_setCell w p u k (by omega)).trans (h.block k hk hne)⟩
theorem grown_set10 {a w : World} {row : Option Nat} {b : Nat} (h : a.grownBy w row) (hb : a.heap.size ≤ b) (p : Ld) : a.grownBy ((((((((((w.setCell ⟨b, 0, none⟩ (.int .i64 p.n)).setCell ⟨b, 1, none⟩ (.int .i64 p.s.x)).setCell ⟨b, 2, none⟩ (.int .i64 p.s.y)).setCell ⟨b, 3, none⟩ (.int .i64 p.s.d.t)).setCell ⟨b, 4, none⟩ (.int .i64 p.s.d.n)).setCell ⟨b, 5, none⟩ (.int .i64 p.s.d.e)).setCell ⟨b, 6, none⟩ (.int .i64 p.s.d.s)).setCell ⟨b, 7, none⟩ (.int .i64 p.s.d.w)).setCell ⟨b, 8, none⟩ (.int .i64 p.s.d.b)).setCell ⟨b, 9, none⟩ (.int .i64 p.r)) row :=
  grown_set (grown_set (grown_set (grown_set (grown_set (grown_set (grown_set (grown_set (grown_set (grown_set (h) hb _) hb _) hb _) hb _) hb _) hb _) hb _) hb _) hb _) hb _
end Go.Proofs.YthdkhikkdcjifaaDoor
