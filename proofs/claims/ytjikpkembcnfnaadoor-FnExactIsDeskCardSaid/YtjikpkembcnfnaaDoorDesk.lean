/- A desk's value and its variable: nine cells of one block. The contracts of the laws' helpers on desks (toDesk, szDesk, eqDesk). -/
import Derived.Test.YtjikpkembcnfnaaDoorStates
namespace Go.Proofs.YtjikpkembcnfnaaDoor
set_option maxRecDepth 100000
set_option linter.all false
open Go.RowKit

/-- A desk: a board, a state. -/
structure Dk where
  b : ByteArray
  s : St
abbrev Dk.v (p : Dk) : Value := .agg #[.string p.b, .int .i64 p.s.x, .int .i64 p.s.y, .int .i64 p.s.d.t, .int .i64 p.s.d.n, .int .i64 p.s.d.e, .int .i64 p.s.d.s, .int .i64 p.s.d.w, .int .i64 p.s.d.b]
/-- Block b of w is a desk's variable, that holds p. -/
def IsDk (w : World) (b : Nat) (p : Dk) (ty : TypeId) : Prop := w.heap[b]? = some (.cells #[.string p.b, .int .i64 p.s.x, .int .i64 p.s.y, .int .i64 p.s.d.t, .int .i64 p.s.d.n, .int .i64 p.s.d.e, .int .i64 p.s.d.s, .int .i64 p.s.d.w, .int .i64 p.s.d.b] ty (0, 0))
theorem IsDk.lt {w : World} {b : Nat} {p : Dk} {ty : TypeId} (h : IsDk w b p ty) : b < w.heap.size := by
  rcases Nat.lt_or_ge b w.heap.size with h' | h'
  · exact h'
  · simp [IsDk, Array.getElem?_eq_none h'] at h
theorem isDk_to {w w0 w1 : World} {b : Nat} {p : Dk} {ty : TypeId} (hb : Below w0.heap.size w0 w1) (h : IsDk w b p ty) (e : w0.heap = w.heap) : IsDk w1 b p ty := by
  have hl := h.lt
  have := hb.block b (by rw [e]; exact hl)
  unfold IsDk at h ⊢
  rw [this, e]
  exact h
theorem IsDk.all {w : World} {b : Nat} {p : Dk} {ty : TypeId} (h : IsDk w b p ty) : b < w.heap.size ∧ (w.cell? ⟨b, 0, none⟩ = some (.string p.b) ∧ w.cell? ⟨b, 1, none⟩ = some (.int .i64 p.s.x) ∧ w.cell? ⟨b, 2, none⟩ = some (.int .i64 p.s.y) ∧ w.cell? ⟨b, 3, none⟩ = some (.int .i64 p.s.d.t) ∧ w.cell? ⟨b, 4, none⟩ = some (.int .i64 p.s.d.n) ∧ w.cell? ⟨b, 5, none⟩ = some (.int .i64 p.s.d.e) ∧ w.cell? ⟨b, 6, none⟩ = some (.int .i64 p.s.d.s) ∧ w.cell? ⟨b, 7, none⟩ = some (.int .i64 p.s.d.w) ∧ w.cell? ⟨b, 8, none⟩ = some (.int .i64 p.s.d.b)) ∧ w.frozen? ⟨b, 0, none⟩ = false ∧ w.frozen? ⟨b, 1, none⟩ = false ∧ w.frozen? ⟨b, 2, none⟩ = false ∧ w.frozen? ⟨b, 3, none⟩ = false ∧ w.frozen? ⟨b, 4, none⟩ = false ∧ w.frozen? ⟨b, 5, none⟩ = false ∧ w.frozen? ⟨b, 6, none⟩ = false ∧ w.frozen? ⟨b, 7, none⟩ = false ∧ w.frozen? ⟨b, 8, none⟩ = false := by
  refine ⟨h.lt, ?_⟩
  unfold IsDk at h
  simp [World.cell?, World.frozen?, h]
theorem IsDk.new {w : World} {p : Dk} {ty : TypeId} : IsDk (w.alloc (.cells #[.string p.b, .int .i64 p.s.x, .int .i64 p.s.y, .int .i64 p.s.d.t, .int .i64 p.s.d.n, .int .i64 p.s.d.e, .int .i64 p.s.d.s, .int .i64 p.s.d.w, .int .i64 p.s.d.b] ty)) w.heap.size p ty := by
  show (w.heap.push _)[w.heap.size]? = _
  simp
theorem IsDk.new2 {w : World} {o : Obj} {p : Dk} {ty : TypeId} : IsDk ((w.alloc o).alloc (.cells #[.string p.b, .int .i64 p.s.x, .int .i64 p.s.y, .int .i64 p.s.d.t, .int .i64 p.s.d.n, .int .i64 p.s.d.e, .int .i64 p.s.d.s, .int .i64 p.s.d.w, .int .i64 p.s.d.b] ty)) (w.heap.size + 1) p ty := by
  simpa using IsDk.new (w := w.alloc o) (p := p) (ty := ty)
theorem IsDk.drew {w : World} {b : Nat} {p : Dk} {ty : TypeId} (h : IsDk w b p ty) : IsDk w.drew b p ty := h
theorem IsDk.alloc {w : World} {b : Nat} {p : Dk} {ty : TypeId} (h : IsDk w b p ty) (o : Obj) : IsDk (w.alloc o) b p ty := (Below.heap_alloc w o b h.lt).trans h
theorem IsDk.other {w : World} {b : Nat} {p : Dk} {ty : TypeId} (h : IsDk w b p ty) {q : Addr} (hp : b ≠ q.block) (u : Value) : IsDk (w.setCell q u) b p ty := (Below.heap_setCell w q u b hp).trans h
theorem IsDk.kept {w w1 : World} {b : Nat} {p : Dk} {ty : TypeId} {row : Option Nat} (h : IsDk w b p ty) (hg : w.grownBy w1 row) (hne : some b ≠ row) : IsDk w1 b p ty := (hg.block b h.lt hne).trans h
theorem IsDk.load {w : World} {b : Nat} {p : Dk} {ty : TypeId} (h : IsDk w b p ty) : (loadVar 34 ⟨b, 0, none⟩).run Tryd.prog w = .ok (Dk.v p) w := by
  obtain ⟨_, ⟨c0, c1, c2, c3, c4, c5, c6, c7, c8⟩, _⟩ := h.all
  simp [go_sem, c0, c1, c2, c3, c4, c5, c6, c7, c8]
set_option maxRecDepth 100000 in
theorem ret_desk {fn : Func} {q : Tmp} {tmps : Array Value} {w : World} {b : Nat} {p : Dk} {ty : TypeId} (h : fn.results = #[.cell q 34]) (hp : tmps.getD q undef = .pointer (some ⟨b, 0, none⟩)) (hd : IsDk w b p ty) : (results fn tmps).run Tryd.prog w = .ok (Dk.v p) w := by
  rw [results_cell h, hp]
  exact hd.load
theorem IsDk.set9 {w : World} {b : Nat} {q : Dk} {ty : TypeId} (h : IsDk w b q ty) (t : Dk) : IsDk (((((((((w.setCell ⟨b, 0, none⟩ (.string t.b)).setCell ⟨b, 1, none⟩ (.int .i64 t.s.x)).setCell ⟨b, 2, none⟩ (.int .i64 t.s.y)).setCell ⟨b, 3, none⟩ (.int .i64 t.s.d.t)).setCell ⟨b, 4, none⟩ (.int .i64 t.s.d.n)).setCell ⟨b, 5, none⟩ (.int .i64 t.s.d.e)).setCell ⟨b, 6, none⟩ (.int .i64 t.s.d.s)).setCell ⟨b, 7, none⟩ (.int .i64 t.s.d.w)).setCell ⟨b, 8, none⟩ (.int .i64 t.s.d.b)) b t ty := by
  have h0 := cells_set h 0 (by simp) (.string t.b)
  have h1 := cells_set h0 1 (by simp) (.int .i64 t.s.x)
  have h2 := cells_set h1 2 (by simp) (.int .i64 t.s.y)
  have h3 := cells_set h2 3 (by simp) (.int .i64 t.s.d.t)
  have h4 := cells_set h3 4 (by simp) (.int .i64 t.s.d.n)
  have h5 := cells_set h4 5 (by simp) (.int .i64 t.s.d.e)
  have h6 := cells_set h5 6 (by simp) (.int .i64 t.s.d.s)
  have h7 := cells_set h6 7 (by simp) (.int .i64 t.s.d.w)
  have h8 := cells_set h7 8 (by simp) (.int .i64 t.s.d.b)
  simpa [IsDk] using h8
theorem below_set9K {B : Nat} {a w : World} {b : Nat} (h : Below B a w) (hb : B ≤ b) (t : Dk) : Below B a (((((((((w.setCell ⟨b, 0, none⟩ (.string t.b)).setCell ⟨b, 1, none⟩ (.int .i64 t.s.x)).setCell ⟨b, 2, none⟩ (.int .i64 t.s.y)).setCell ⟨b, 3, none⟩ (.int .i64 t.s.d.t)).setCell ⟨b, 4, none⟩ (.int .i64 t.s.d.n)).setCell ⟨b, 5, none⟩ (.int .i64 t.s.d.e)).setCell ⟨b, 6, none⟩ (.int .i64 t.s.d.s)).setCell ⟨b, 7, none⟩ (.int .i64 t.s.d.w)).setCell ⟨b, 8, none⟩ (.int .i64 t.s.d.b)) :=
  h |>.setCell hb _ |>.setCell hb _ |>.setCell hb _ |>.setCell hb _ |>.setCell hb _ |>.setCell hb _ |>.setCell hb _ |>.setCell hb _ |>.setCell hb _
theorem IsDk.oth_set9 {w : World} {b c : Nat} {q : Dk} {ty : TypeId} (h : IsDk w b q ty) (hbc : b ≠ c) (t : Dk) : IsDk (((((((((w.setCell ⟨c, 0, none⟩ (.string t.b)).setCell ⟨c, 1, none⟩ (.int .i64 t.s.x)).setCell ⟨c, 2, none⟩ (.int .i64 t.s.y)).setCell ⟨c, 3, none⟩ (.int .i64 t.s.d.t)).setCell ⟨c, 4, none⟩ (.int .i64 t.s.d.n)).setCell ⟨c, 5, none⟩ (.int .i64 t.s.d.e)).setCell ⟨c, 6, none⟩ (.int .i64 t.s.d.s)).setCell ⟨c, 7, none⟩ (.int .i64 t.s.d.w)).setCell ⟨c, 8, none⟩ (.int .i64 t.s.d.b)) b q ty :=
  h |>.other hbc _ |>.other hbc _ |>.other hbc _ |>.other hbc _ |>.other hbc _ |>.other hbc _ |>.other hbc _ |>.other hbc _ |>.other hbc _
theorem IsDk.set8 {w : World} {b : Nat} {q : Dk} {ty : TypeId} (h : IsDk w b q ty) (t : Dk) : IsDk ((((((((w.setCell ⟨b, 1, none⟩ (.int .i64 t.s.x)).setCell ⟨b, 2, none⟩ (.int .i64 t.s.y)).setCell ⟨b, 3, none⟩ (.int .i64 t.s.d.t)).setCell ⟨b, 4, none⟩ (.int .i64 t.s.d.n)).setCell ⟨b, 5, none⟩ (.int .i64 t.s.d.e)).setCell ⟨b, 6, none⟩ (.int .i64 t.s.d.s)).setCell ⟨b, 7, none⟩ (.int .i64 t.s.d.w)).setCell ⟨b, 8, none⟩ (.int .i64 t.s.d.b)) b ⟨q.b, t.s⟩ ty := by
  have h1 := cells_set h 1 (by simp) (.int .i64 t.s.x)
  have h2 := cells_set h1 2 (by simp) (.int .i64 t.s.y)
  have h3 := cells_set h2 3 (by simp) (.int .i64 t.s.d.t)
  have h4 := cells_set h3 4 (by simp) (.int .i64 t.s.d.n)
  have h5 := cells_set h4 5 (by simp) (.int .i64 t.s.d.e)
  have h6 := cells_set h5 6 (by simp) (.int .i64 t.s.d.s)
  have h7 := cells_set h6 7 (by simp) (.int .i64 t.s.d.w)
  have h8 := cells_set h7 8 (by simp) (.int .i64 t.s.d.b)
  simpa [IsDk] using h8
theorem below_set8K {B : Nat} {a w : World} {b : Nat} (h : Below B a w) (hb : B ≤ b) (t : Dk) : Below B a ((((((((w.setCell ⟨b, 1, none⟩ (.int .i64 t.s.x)).setCell ⟨b, 2, none⟩ (.int .i64 t.s.y)).setCell ⟨b, 3, none⟩ (.int .i64 t.s.d.t)).setCell ⟨b, 4, none⟩ (.int .i64 t.s.d.n)).setCell ⟨b, 5, none⟩ (.int .i64 t.s.d.e)).setCell ⟨b, 6, none⟩ (.int .i64 t.s.d.s)).setCell ⟨b, 7, none⟩ (.int .i64 t.s.d.w)).setCell ⟨b, 8, none⟩ (.int .i64 t.s.d.b)) :=
  h |>.setCell hb _ |>.setCell hb _ |>.setCell hb _ |>.setCell hb _ |>.setCell hb _ |>.setCell hb _ |>.setCell hb _ |>.setCell hb _
theorem IsDk.oth_set8 {w : World} {b c : Nat} {q : Dk} {ty : TypeId} (h : IsDk w b q ty) (hbc : b ≠ c) (t : Dk) : IsDk ((((((((w.setCell ⟨c, 1, none⟩ (.int .i64 t.s.x)).setCell ⟨c, 2, none⟩ (.int .i64 t.s.y)).setCell ⟨c, 3, none⟩ (.int .i64 t.s.d.t)).setCell ⟨c, 4, none⟩ (.int .i64 t.s.d.n)).setCell ⟨c, 5, none⟩ (.int .i64 t.s.d.e)).setCell ⟨c, 6, none⟩ (.int .i64 t.s.d.s)).setCell ⟨c, 7, none⟩ (.int .i64 t.s.d.w)).setCell ⟨c, 8, none⟩ (.int .i64 t.s.d.b)) b q ty :=
  h |>.other hbc _ |>.other hbc _ |>.other hbc _ |>.other hbc _ |>.other hbc _ |>.other hbc _ |>.other hbc _ |>.other hbc _
def zeroDk : Dk := ⟨⟨#[]⟩, ⟨0, 0, ⟨0, 0, 0, 0, 0, 0⟩⟩⟩

set_option maxHeartbeats 800000 in
theorem szDesk_yes (p : Dk) (w : World) (h : p.b.size ≤ 1048576) : Calls Tryd.prog 10 #[Dk.v p, .int .i64 1048576] w fun e w' => e = .returned (.int .i64 (1048576 - (p.b.size : Int))) ∧ Below w.heap.size w w' := by
  have q1 : IntKind.i64.wrap (1048576 - (p.b.size : Int)) = 1048576 - (p.b.size : Int) := IntWalk.i64_in _ (by omega)
  generalize hz : p.b.size = z at h q1
  have HZ := hide hz
  go_enter Tryd.func10, Tryd.ntmps10
  go_wp2
  go_returns
  exact ⟨by go_num, by go_grown⟩
set_option maxHeartbeats 800000 in
theorem szDesk_no (p : Dk) (w : World) (hm : p.b.size ≤ maxLen) (h : ¬ p.b.size ≤ 1048576) : Calls Tryd.prog 10 #[Dk.v p, .int .i64 1048576] w fun e w' => e = .returned (.int .i64 (-1)) ∧ Below w.heap.size w w' := by
  unfold maxLen at hm
  have q1 : IntKind.i64.wrap (1048576 - (p.b.size : Int)) = 1048576 - (p.b.size : Int) := IntWalk.i64_in _ (by omega)
  generalize hz : p.b.size = z at h hm q1
  have HZ := hide hz
  go_enter Tryd.func10, Tryd.ntmps10
  go_wp2
  go_returns
  exact ⟨rfl, by go_grown⟩

set_option maxHeartbeats 1600000 in
theorem toDesk_any (p : Dk) (w : World) : Calls Tryd.prog 12 #[Dk.v p] w fun e w' => e = .returned (Dk.v p) ∧ Below w.heap.size w w' := by
  have s1 : IsDk (((w.alloc (.cells #[.string p.b, .int .i64 p.s.x, .int .i64 p.s.y, .int .i64 p.s.d.t, .int .i64 p.s.d.n, .int .i64 p.s.d.e, .int .i64 p.s.d.s, .int .i64 p.s.d.w, .int .i64 p.s.d.b] 27)).alloc (.cells #[.string ⟨#[]⟩, .int .i64 0, .int .i64 0, .int .i64 0, .int .i64 0, .int .i64 0, .int .i64 0, .int .i64 0, .int .i64 0] 34)).alloc (.cells #[.string p.b, .int .i64 0, .int .i64 0, .int .i64 0, .int .i64 0, .int .i64 0, .int .i64 0, .int .i64 0, .int .i64 0] 34)) w.heap.size p 27 := (IsDk.new.alloc _).alloc _
  have s2 : IsDk (((w.alloc (.cells #[.string p.b, .int .i64 p.s.x, .int .i64 p.s.y, .int .i64 p.s.d.t, .int .i64 p.s.d.n, .int .i64 p.s.d.e, .int .i64 p.s.d.s, .int .i64 p.s.d.w, .int .i64 p.s.d.b] 27)).alloc (.cells #[.string ⟨#[]⟩, .int .i64 0, .int .i64 0, .int .i64 0, .int .i64 0, .int .i64 0, .int .i64 0, .int .i64 0, .int .i64 0] 34)).alloc (.cells #[.string p.b, .int .i64 0, .int .i64 0, .int .i64 0, .int .i64 0, .int .i64 0, .int .i64 0, .int .i64 0, .int .i64 0] 34)) (w.heap.size + 1) zeroDk 34 := (IsDk.new2 (p := zeroDk)).alloc _
  have s3 : IsDk (((w.alloc (.cells #[.string p.b, .int .i64 p.s.x, .int .i64 p.s.y, .int .i64 p.s.d.t, .int .i64 p.s.d.n, .int .i64 p.s.d.e, .int .i64 p.s.d.s, .int .i64 p.s.d.w, .int .i64 p.s.d.b] 27)).alloc (.cells #[.string ⟨#[]⟩, .int .i64 0, .int .i64 0, .int .i64 0, .int .i64 0, .int .i64 0, .int .i64 0, .int .i64 0, .int .i64 0] 34)).alloc (.cells #[.string p.b, .int .i64 0, .int .i64 0, .int .i64 0, .int .i64 0, .int .i64 0, .int .i64 0, .int .i64 0, .int .i64 0] 34)) (w.heap.size + 2) ⟨p.b, ⟨0, 0, ⟨0, 0, 0, 0, 0, 0⟩⟩⟩ 34 := by
    have := IsDk.new (w := ((w.alloc (.cells #[.string p.b, .int .i64 p.s.x, .int .i64 p.s.y, .int .i64 p.s.d.t, .int .i64 p.s.d.n, .int .i64 p.s.d.e, .int .i64 p.s.d.s, .int .i64 p.s.d.w, .int .i64 p.s.d.b] 27)).alloc (.cells #[.string ⟨#[]⟩, .int .i64 0, .int .i64 0, .int .i64 0, .int .i64 0, .int .i64 0, .int .i64 0, .int .i64 0, .int .i64 0] 34))) (p := ⟨p.b, ⟨0, 0, ⟨0, 0, 0, 0, 0, 0⟩⟩⟩) (ty := 34)
    simpa using this
  have q0 : Below w.heap.size w (((w.alloc (.cells #[.string p.b, .int .i64 p.s.x, .int .i64 p.s.y, .int .i64 p.s.d.t, .int .i64 p.s.d.n, .int .i64 p.s.d.e, .int .i64 p.s.d.s, .int .i64 p.s.d.w, .int .i64 p.s.d.b] 27)).alloc (.cells #[.string ⟨#[]⟩, .int .i64 0, .int .i64 0, .int .i64 0, .int .i64 0, .int .i64 0, .int .i64 0, .int .i64 0, .int .i64 0] 34)).alloc (.cells #[.string p.b, .int .i64 0, .int .i64 0, .int .i64 0, .int .i64 0, .int .i64 0, .int .i64 0, .int .i64 0, .int .i64 0] 34)) := by go_grown
  have HT := hide (toState_any p.s)
  go_enter Tryd.func12, Tryd.ntmps12
  go_wp2_with fail
  refine (HT.out _).mono ?_
  rintro e w1 ⟨rfl, hb1⟩
  have t1 := isDk_to hb1 s1 rfl
  have t2 := isDk_to hb1 s2 rfl
  have t3 := isDk_to hb1 s3 rfl
  have q1 := below_to hb1 q0 q0.size rfl rfl rfl rfl
  clear hb1 s1 s2 s3 q0
  obtain ⟨l1, ⟨a0, a1, a2, a3, a4, a5, a6, a7, a8⟩, -⟩ := t1.all
  obtain ⟨l3, ⟨c0, c1, c2, c3, c4, c5, c6, c7, c8⟩, f0, f1, f2, f3, f4, f5, f6, f7, f8⟩ := t3.all
  go_upto_region 4 with (fail)
  have v3 := t3.set8 p
  have v2 := t2.oth_set8 (c := w.heap.size + 2) (by omega) p
  have q2 := below_set8K (b := w.heap.size + 2) q1 (by omega) p
  clear a0 a1 a2 a3 a4 a5 a6 a7 a8 c0 c1 c2 c3 c4 c5 c6 c7 c8 f0 f1 f2 f3 f4 f5 f6 f7 f8 l1 l3 t1 t2 t3 q1
  generalize ((((((((w1.setCell ⟨w.heap.size + 2, 1, none⟩ (.int .i64 p.s.x)).setCell ⟨w.heap.size + 2, 2, none⟩ (.int .i64 p.s.y)).setCell ⟨w.heap.size + 2, 3, none⟩ (.int .i64 p.s.d.t)).setCell ⟨w.heap.size + 2, 4, none⟩ (.int .i64 p.s.d.n)).setCell ⟨w.heap.size + 2, 5, none⟩ (.int .i64 p.s.d.e)).setCell ⟨w.heap.size + 2, 6, none⟩ (.int .i64 p.s.d.s)).setCell ⟨w.heap.size + 2, 7, none⟩ (.int .i64 p.s.d.w)).setCell ⟨w.heap.size + 2, 8, none⟩ (.int .i64 p.s.d.b)) = w2 at v3 v2 q2 ⊢
  obtain ⟨l3, ⟨c0, c1, c2, c3, c4, c5, c6, c7, c8⟩, -⟩ := v3.all
  obtain ⟨l2, -, f0, f1, f2, f3, f4, f5, f6, f7, f8⟩ := v2.all
  obtain ⟨-, ⟨d0, d1, d2, d3, d4, d5, d6, d7, d8⟩, -⟩ := v2.all
  go_wp2
  refine bodyPost_ret (ret_desk Tryd.results12 rfl (v2.set9 p)) rfl ⟨rfl, ?_⟩
  exact below_set9K q2 (by omega) p

end Go.Proofs.YtjikpkembcnfnaaDoor
