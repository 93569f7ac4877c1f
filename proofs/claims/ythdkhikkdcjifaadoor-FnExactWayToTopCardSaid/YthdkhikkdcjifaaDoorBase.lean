/- A die's value and its variable: six cells of one block. Small laws on worlds. -/
import Derived.Test.YthdkhikkdcjifaaDoorRows
import Derived.Test.YthdkhikkdcjifaaDoorPure
import Derived.Handy
import Derived.WalkSpells
import Derived.WalkLawsBesides
import Derived.Laws.ResultCell
namespace Go.Proofs.YthdkhikkdcjifaaDoor
set_option maxRecDepth 100000
set_option linter.all false
open Go.RowKit

/-- The value of a die. -/
abbrev D.v (d : D) : Value := .agg #[.int .i64 d.t, .int .i64 d.n, .int .i64 d.e, .int .i64 d.s, .int .i64 d.w, .int .i64 d.b]

theorem bcell {W w1 : World} (hb : Below W.heap.size W w1) : (∀ b o, b < W.heap.size → w1.cell? ⟨b, o, none⟩ = W.cell? ⟨b, o, none⟩) ∧ (∀ b o, b < W.heap.size → w1.frozen? ⟨b, o, none⟩ = W.frozen? ⟨b, o, none⟩) :=
  ⟨fun b o h => hb.cell (p := ⟨b, o, none⟩) h, fun b o h => hb.frozen (p := ⟨b, o, none⟩) h⟩

theorem hide {p : Prop} (h : p) : Hid p := h
theorem ret_bool {a b : Bool} (h : a = b) : Ending.returned (.bool a) = .returned (.bool b) := by rw [h]
theorem ret_int {k : IntKind} {a b : Int} (h : a = b) : Ending.returned (.int k a) = .returned (.int k b) := by rw [h]

theorem below_after {B : Nat} {w w0 w1 : World} (h0 : Below B w w0) (h1 : Below w0.heap.size w0 w1) (hB : B ≤ w0.heap.size) : Below B w w1 := h0.trans (h1.mono hB)

/-- Block b of w is a die's variable, that holds d. -/
def IsD (w : World) (b : Nat) (d : D) (ty : TypeId) : Prop := w.heap[b]? = some (.cells #[.int .i64 d.t, .int .i64 d.n, .int .i64 d.e, .int .i64 d.s, .int .i64 d.w, .int .i64 d.b] ty (0, 0))
theorem IsD.lt {w : World} {b : Nat} {d : D} {ty : TypeId} (h : IsD w b d ty) : b < w.heap.size := by
  rcases Nat.lt_or_ge b w.heap.size with h' | h'
  · exact h'
  · simp [IsD, Array.getElem?_eq_none h'] at h
theorem IsD.below {w w0 w1 : World} {b : Nat} {d : D} {ty : TypeId} (h : IsD w b d ty) (e : w0.heap = w.heap) (hb : Below w0.heap.size w0 w1) : IsD w1 b d ty := by
  have hl := h.lt
  have := hb.block b (by rw [e]; exact hl)
  unfold IsD at h ⊢
  rw [this, e]
  exact h
theorem IsD.cells {w : World} {b : Nat} {d : D} {ty : TypeId} (h : IsD w b d ty) :
    (w.cell? ⟨b, 0, none⟩ = some (.int .i64 d.t) ∧ w.cell? ⟨b, 1, none⟩ = some (.int .i64 d.n) ∧ w.cell? ⟨b, 2, none⟩ = some (.int .i64 d.e) ∧ w.cell? ⟨b, 3, none⟩ = some (.int .i64 d.s) ∧ w.cell? ⟨b, 4, none⟩ = some (.int .i64 d.w) ∧ w.cell? ⟨b, 5, none⟩ = some (.int .i64 d.b)) ∧
    w.frozen? ⟨b, 0, none⟩ = false ∧ w.frozen? ⟨b, 1, none⟩ = false ∧ w.frozen? ⟨b, 2, none⟩ = false ∧ w.frozen? ⟨b, 3, none⟩ = false ∧ w.frozen? ⟨b, 4, none⟩ = false ∧ w.frozen? ⟨b, 5, none⟩ = false := by
  unfold IsD at h
  simp [World.cell?, World.frozen?, h]
theorem IsD.new {w : World} {d : D} {ty : TypeId} : IsD (w.alloc (.cells #[.int .i64 d.t, .int .i64 d.n, .int .i64 d.e, .int .i64 d.s, .int .i64 d.w, .int .i64 d.b] ty)) w.heap.size d ty := by
  show (w.heap.push _)[w.heap.size]? = _
  simp
theorem IsD.drew {w : World} {b : Nat} {d : D} {ty : TypeId} (h : IsD w b d ty) : IsD w.drew b d ty := h
theorem IsD.alloc {w : World} {b : Nat} {d : D} {ty : TypeId} (h : IsD w b d ty) (o : Obj) : IsD (w.alloc o) b d ty := (Below.heap_alloc w o b h.lt).trans h
theorem IsD.new2 {w : World} {o : Obj} {d : D} {ty : TypeId} : IsD ((w.alloc o).alloc (.cells #[.int .i64 d.t, .int .i64 d.n, .int .i64 d.e, .int .i64 d.s, .int .i64 d.w, .int .i64 d.b] ty)) (w.heap.size + 1) d ty := by
  simpa using IsD.new (w := w.alloc o) (d := d) (ty := ty)
/-- All that a walk asks of a die's variable. -/
theorem IsD.all {w : World} {b : Nat} {d : D} {ty : TypeId} (h : IsD w b d ty) : b < w.heap.size ∧
    (w.cell? ⟨b, 0, none⟩ = some (.int .i64 d.t) ∧ w.cell? ⟨b, 1, none⟩ = some (.int .i64 d.n) ∧ w.cell? ⟨b, 2, none⟩ = some (.int .i64 d.e) ∧ w.cell? ⟨b, 3, none⟩ = some (.int .i64 d.s) ∧ w.cell? ⟨b, 4, none⟩ = some (.int .i64 d.w) ∧ w.cell? ⟨b, 5, none⟩ = some (.int .i64 d.b)) ∧
    w.frozen? ⟨b, 0, none⟩ = false ∧ w.frozen? ⟨b, 1, none⟩ = false ∧ w.frozen? ⟨b, 2, none⟩ = false ∧ w.frozen? ⟨b, 3, none⟩ = false ∧ w.frozen? ⟨b, 4, none⟩ = false ∧ w.frozen? ⟨b, 5, none⟩ = false := ⟨h.lt, h.cells⟩
theorem IsD.other {w : World} {b : Nat} {d : D} {ty : TypeId} (h : IsD w b d ty) {p : Addr} (hp : b ≠ p.block) (u : Value) : IsD (w.setCell p u) b d ty := (Below.heap_setCell w p u b hp).trans h
theorem cells_set {w : World} {b : Nat} {c : Array Value} {ty : TypeId} {z : Nat × Nat} (h : w.heap[b]? = some (.cells c ty z)) (i : Nat) (hi : i < c.size) (v : Value) : (w.setCell ⟨b, i, none⟩ v).heap[b]? = some (.cells (c.set i v) ty z) := by
  have hlt : b < w.heap.size := by
    rcases Nat.lt_or_ge b w.heap.size with h' | h'
    · exact h'
    · simp [Array.getElem?_eq_none h'] at h
  have h' : w.heap[b] = .cells c ty z := by simpa [Array.getElem?_eq_getElem hlt] using h
  show (w.heap.modify b _)[b]? = _
  rw [Array.getElem?_eq_getElem (by simpa using hlt), Array.getElem_modify_self, h']
  simp [Array.setIfInBounds, hi]
theorem IsD.set6 {w : World} {b : Nat} {d : D} {ty : TypeId} (h : IsD w b d ty) (e : D) : IsD ((((((w.setCell ⟨b, 0, none⟩ (.int .i64 e.t)).setCell ⟨b, 1, none⟩ (.int .i64 e.n)).setCell ⟨b, 2, none⟩ (.int .i64 e.e)).setCell ⟨b, 3, none⟩ (.int .i64 e.s)).setCell ⟨b, 4, none⟩ (.int .i64 e.w)).setCell ⟨b, 5, none⟩ (.int .i64 e.b)) b e ty := by
  have h1 := cells_set h 0 (by simp) (.int .i64 e.t)
  have h2 := cells_set h1 1 (by simp) (.int .i64 e.n)
  have h3 := cells_set h2 2 (by simp) (.int .i64 e.e)
  have h4 := cells_set h3 3 (by simp) (.int .i64 e.s)
  have h5 := cells_set h4 4 (by simp) (.int .i64 e.w)
  have h6 := cells_set h5 5 (by simp) (.int .i64 e.b)
  simpa [IsD] using h6
theorem results_cell {fn : Func} {p : Tmp} {ty : TypeId} (h : fn.results = #[.cell p ty]) (tmps : Array Value) (P : Program) (w : World) :
    (results fn tmps).run P w = ((asAddr (tmps.getD p undef)).run P w).andThen fun a w₁ => (loadVar ty a).run P w₁ := by
  simp only [results, h]
  simp [Sem.run_bind, Result.andThen]
theorem IsD.other6 {w : World} {b b' : Nat} {d : D} {ty : TypeId} (h : IsD w b d ty) (hne : b ≠ b') (e : D) : IsD ((((((w.setCell ⟨b', 0, none⟩ (.int .i64 e.t)).setCell ⟨b', 1, none⟩ (.int .i64 e.n)).setCell ⟨b', 2, none⟩ (.int .i64 e.e)).setCell ⟨b', 3, none⟩ (.int .i64 e.s)).setCell ⟨b', 4, none⟩ (.int .i64 e.w)).setCell ⟨b', 5, none⟩ (.int .i64 e.b)) b d ty :=
  (((((h.other hne _).other hne _).other hne _).other hne _).other hne _).other hne _
theorem below_set6 {B : Nat} {a w : World} {b : Nat} (h : Below B a w) (hb : B ≤ b) (e : D) : Below B a ((((((w.setCell ⟨b, 0, none⟩ (.int .i64 e.t)).setCell ⟨b, 1, none⟩ (.int .i64 e.n)).setCell ⟨b, 2, none⟩ (.int .i64 e.e)).setCell ⟨b, 3, none⟩ (.int .i64 e.s)).setCell ⟨b, 4, none⟩ (.int .i64 e.w)).setCell ⟨b, 5, none⟩ (.int .i64 e.b)) :=
  h |>.setCell hb _ |>.setCell hb _ |>.setCell hb _ |>.setCell hb _ |>.setCell hb _ |>.setCell hb _
/-- What a die's variable hands back. -/
theorem IsD.load {w : World} {b : Nat} {d : D} {ty : TypeId} (h : IsD w b d ty) : (loadVar 28 ⟨b, 0, none⟩).run Tryd.prog w = .ok (D.v d) w := by
  obtain ⟨⟨c0, c1, c2, c3, c4, c5⟩, _⟩ := h.cells
  simp [go_sem, c0, c1, c2, c3, c4, c5]
set_option maxRecDepth 100000 in
theorem ret_die {fn : Func} {p : Tmp} {tmps : Array Value} {w : World} {b : Nat} {d : D} {ty : TypeId} (h : fn.results = #[.cell p 28]) (hp : tmps.getD p undef = .pointer (some ⟨b, 0, none⟩)) (hd : IsD w b d ty) : (results fn tmps).run Tryd.prog w = .ok (D.v d) w := by
  rw [results_cell h, hp]
  exact hd.load

set_option maxRecDepth 100000 in
theorem ret_die2 {fn : Func} {p u : Tmp} {tmps : Array Value} {w : World} {b : Nat} {d : D} {ty : TypeId} {x : Bool} (h : fn.results = #[.cell p 28, .tmp u]) (hp : tmps.getD p undef = .pointer (some ⟨b, 0, none⟩)) (hu : tmps.getD u undef = .bool x) (hd : IsD w b d ty) :
    (results fn tmps).run Tryd.prog w = .ok (.tuple #[D.v d, .bool x]) w := by
  rw [results_cell_tmp h, hp, hu]
  show ((loadVar 28 ⟨b, 0, none⟩).run Tryd.prog w).andThen _ = _
  rw [hd.load]
  rfl
end Go.Proofs.YthdkhikkdcjifaaDoor
