/- A box's value and its variable: three cells of one block. The contracts of the laws' helpers on boxes (toBox, eqBox). -/
import Derived.Test.YtoojoghgbmpbpaaDoorBase
import Derived.Test.YtoojoghgbmpbpaaDoorState
import Derived.Test.YtoojoghgbmpbpaaDoorGnd
namespace Go.Proofs.YtoojoghgbmpbpaaDoor
set_option maxRecDepth 100000
set_option linter.all false
open Go.RowKit

abbrev Bx.v (b : Bx) : Value := .agg #[.int .i64 b.x, .int .i64 b.y, .int .i64 b.p]
def bxC (b : Bx) : List Value := [.int .i64 b.x, .int .i64 b.y, .int .i64 b.p]
/-- Block b of w is a box's variable, that holds q. -/
def IsX (w : World) (b : Nat) (q : Bx) (ty : TypeId) : Prop := w.heap[b]? = some (.cells #[.int .i64 q.x, .int .i64 q.y, .int .i64 q.p] ty (0, 0))
theorem IsX.lt {w : World} {b : Nat} {q : Bx} {ty : TypeId} (h : IsX w b q ty) : b < w.heap.size := by
  rcases Nat.lt_or_ge b w.heap.size with h' | h'
  · exact h'
  · simp [IsX, Array.getElem?_eq_none h'] at h
theorem isX_to {w w0 w1 : World} {b : Nat} {q : Bx} {ty : TypeId} (hb : Below w0.heap.size w0 w1) (h : IsX w b q ty) (e : w0.heap = w.heap) : IsX w1 b q ty := by
  have hl := h.lt
  have := hb.block b (by rw [e]; exact hl)
  unfold IsX at h ⊢
  rw [this, e]
  exact h
theorem IsX.all {w : World} {b : Nat} {q : Bx} {ty : TypeId} (h : IsX w b q ty) : b < w.heap.size ∧
    (w.cell? ⟨b, 0, none⟩ = some (.int .i64 q.x) ∧ w.cell? ⟨b, 1, none⟩ = some (.int .i64 q.y) ∧ w.cell? ⟨b, 2, none⟩ = some (.int .i64 q.p)) ∧
    w.frozen? ⟨b, 0, none⟩ = false ∧ w.frozen? ⟨b, 1, none⟩ = false ∧ w.frozen? ⟨b, 2, none⟩ = false := by
  refine ⟨h.lt, ?_⟩
  unfold IsX at h
  simp [World.cell?, World.frozen?, h]
theorem IsX.new {w : World} {q : Bx} {ty : TypeId} : IsX (w.alloc (.cells #[.int .i64 q.x, .int .i64 q.y, .int .i64 q.p] ty)) w.heap.size q ty := by
  show (w.heap.push _)[w.heap.size]? = _
  simp
theorem IsX.new2 {w : World} {o : Obj} {q : Bx} {ty : TypeId} : IsX ((w.alloc o).alloc (.cells #[.int .i64 q.x, .int .i64 q.y, .int .i64 q.p] ty)) (w.heap.size + 1) q ty := by
  simpa using IsX.new (w := w.alloc o) (q := q) (ty := ty)
theorem IsX.drew {w : World} {b : Nat} {q : Bx} {ty : TypeId} (h : IsX w b q ty) : IsX w.drew b q ty := h
theorem IsX.alloc {w : World} {b : Nat} {q : Bx} {ty : TypeId} (h : IsX w b q ty) (o : Obj) : IsX (w.alloc o) b q ty := (Below.heap_alloc w o b h.lt).trans h
theorem IsX.other {w : World} {b : Nat} {q : Bx} {ty : TypeId} (h : IsX w b q ty) {p : Addr} (hp : b ≠ p.block) (u : Value) : IsX (w.setCell p u) b q ty := (Below.heap_setCell w p u b hp).trans h
theorem IsX.kept {w w1 : World} {b : Nat} {q : Bx} {ty : TypeId} {row : Option Nat} (h : IsX w b q ty) (hg : w.grownBy w1 row) (hne : some b ≠ row) : IsX w1 b q ty := (hg.block b h.lt hne).trans h
theorem IsX.set0 {w : World} {b : Nat} {q : Bx} {ty : TypeId} (h : IsX w b q ty) (u : Int) : IsX (w.setCell ⟨b, 0, none⟩ (.int .i64 u)) b ⟨u, q.y, q.p⟩ ty := by
  have := cells_set h 0 (by simp) (.int .i64 u); simpa [IsX] using this
theorem IsX.set1 {w : World} {b : Nat} {q : Bx} {ty : TypeId} (h : IsX w b q ty) (u : Int) : IsX (w.setCell ⟨b, 1, none⟩ (.int .i64 u)) b ⟨q.x, u, q.p⟩ ty := by
  have := cells_set h 1 (by simp) (.int .i64 u); simpa [IsX] using this
theorem IsX.set2 {w : World} {b : Nat} {q : Bx} {ty : TypeId} (h : IsX w b q ty) (u : Int) : IsX (w.setCell ⟨b, 2, none⟩ (.int .i64 u)) b ⟨q.x, q.y, u⟩ ty := by
  have := cells_set h 2 (by simp) (.int .i64 u); simpa [IsX] using this
theorem IsX.set3 {w : World} {b : Nat} {q : Bx} {ty : TypeId} (h : IsX w b q ty) (t : Bx) : IsX (((w.setCell ⟨b, 0, none⟩ (.int .i64 t.x)).setCell ⟨b, 1, none⟩ (.int .i64 t.y)).setCell ⟨b, 2, none⟩ (.int .i64 t.p)) b t ty := ((h.set0 t.x).set1 t.y).set2 t.p
theorem below_setX {B : Nat} {a w : World} {b : Nat} (h : Below B a w) (hb : B ≤ b) (t : Bx) : Below B a (((w.setCell ⟨b, 0, none⟩ (.int .i64 t.x)).setCell ⟨b, 1, none⟩ (.int .i64 t.y)).setCell ⟨b, 2, none⟩ (.int .i64 t.p)) := h |>.setCell hb _ |>.setCell hb _ |>.setCell hb _
theorem IsX.load {w : World} {b : Nat} {q : Bx} {ty : TypeId} (h : IsX w b q ty) : (loadVar 27 ⟨b, 0, none⟩).run Tryd.prog w = .ok (Bx.v q) w := by
  obtain ⟨_, ⟨c0, c1, c2⟩, _⟩ := h.all
  simp [go_sem, c0, c1, c2]
set_option maxRecDepth 100000 in
theorem ret_box {fn : Func} {p : Tmp} {tmps : Array Value} {w : World} {b : Nat} {q : Bx} {ty : TypeId} (h : fn.results = #[.cell p 27]) (hp : tmps.getD p undef = .pointer (some ⟨b, 0, none⟩)) (hd : IsX w b q ty) : (results fn tmps).run Tryd.prog w = .ok (Bx.v q) w := by
  rw [results_cell h, hp]
  exact hd.load
set_option maxRecDepth 100000 in
theorem ret_box2 {fn : Func} {p u : Tmp} {tmps : Array Value} {w : World} {b : Nat} {q : Bx} {ty : TypeId} {x : Bool} (h : fn.results = #[.cell p 27, .tmp u]) (hp : tmps.getD p undef = .pointer (some ⟨b, 0, none⟩)) (hu : tmps.getD u undef = .bool x) (hd : IsX w b q ty) :
    (results fn tmps).run Tryd.prog w = .ok (.tuple #[Bx.v q, .bool x]) w := by
  rw [results_cell_tmp h, hp, hu]
  show ((loadVar 27 ⟨b, 0, none⟩).run Tryd.prog w).andThen _ = _
  rw [hd.load]
  rfl

set_option maxHeartbeats 800000 in
theorem toBox_any (q : Bx) (w : World) : Calls Tryd.prog 16 #[Bx.v q] w fun e w' => e = .returned (Bx.v q) ∧ Below w.heap.size w w' := by
  go_enter Tryd.func16, Tryd.ntmps16
  go_wp2
  have s2 : IsX (((w.alloc (.cells #[.int .i64 q.x, .int .i64 q.y, .int .i64 q.p] 24)).alloc (.cells #[.int .i64 q.x, .int .i64 q.y, .int .i64 q.p] 27)).alloc (.cells #[.int .i64 q.x, .int .i64 q.y, .int .i64 q.p] 27)) (w.heap.size + 1) q 27 := IsX.new2.alloc _
  exact bodyPost_ret (ret_box Tryd.results16 rfl s2) rfl ⟨rfl, by go_grown⟩

set_option maxHeartbeats 800000 in
theorem eqBox_self (q : Bx) (w : World) : Calls Tryd.prog 20 #[Bx.v q, Bx.v q] w fun e w' => e = .returned (.bool true) ∧ Below w.heap.size w w' := by
  have n0 : (q.x != q.x) = false := by simp
  have n1 : (q.y != q.y) = false := by simp
  have n2 : (q.p != q.p) = false := by simp
  go_enter Tryd.func20, Tryd.ntmps20
  go_wp2
  go_returns
  exact ⟨rfl, by go_grown⟩
end Go.Proofs.YtoojoghgbmpbpaaDoor
