/- Maps from states to routes: what lies in the map's block, entry by entry; a route's value and its variable. -/
import Derived.Test.YthdkhikkdcjifaaDoorState
import Derived.Maps.Own
import Derived.Maps.RangeWalk
import Derived.Maps.RangeRun
import Derived.Maps.OwnSet
import Derived.Maps.OwnOps
import Derived.DeepKeys4
namespace Go.Proofs.YthdkhikkdcjifaaDoor
set_option maxRecDepth 100000
set_option linter.all false
open Go.RowKit Go.Maps Go.ChangeMaps

/-- A route: its word, its cost, how many there are. -/
structure Rt where
  word : List UInt8
  cost : Int
  count : Int
theorem Rt.ext' {r q : Rt} (h1 : r.word = q.word) (h2 : r.cost = q.cost) (h3 : r.count = q.count) : r = q := by cases r; cases q; simp_all
abbrev Rt.v (r : Rt) : Value := .agg #[.string ⟨r.word.toArray⟩, .int .i64 r.cost, .int .i64 r.count]
def zeroR : Rt := ⟨[], 0, 0⟩
/-- Block b of w is a route's variable, that holds r. -/
def IsR (w : World) (b : Nat) (r : Rt) : Prop := w.heap[b]? = some (.cells #[.string ⟨r.word.toArray⟩, .int .i64 r.cost, .int .i64 r.count] 73 (0, 0))
theorem IsR.lt {w : World} {b : Nat} {r : Rt} (h : IsR w b r) : b < w.heap.size := by
  rcases Nat.lt_or_ge b w.heap.size with h' | h'
  · exact h'
  · simp [IsR, Array.getElem?_eq_none h'] at h
theorem isR_to {w w0 w1 : World} {b : Nat} {r : Rt} (hb : Below w0.heap.size w0 w1) (h : IsR w b r) (e : w0.heap = w.heap) : IsR w1 b r := by
  have hl := h.lt
  have := hb.block b (by rw [e]; exact hl)
  unfold IsR at h ⊢
  rw [this, e]
  exact h
theorem IsR.all {w : World} {b : Nat} {r : Rt} (h : IsR w b r) : b < w.heap.size ∧
    (w.cell? ⟨b, 0, none⟩ = some (.string ⟨r.word.toArray⟩) ∧ w.cell? ⟨b, 1, none⟩ = some (.int .i64 r.cost) ∧ w.cell? ⟨b, 2, none⟩ = some (.int .i64 r.count)) ∧
    w.frozen? ⟨b, 0, none⟩ = false ∧ w.frozen? ⟨b, 1, none⟩ = false ∧ w.frozen? ⟨b, 2, none⟩ = false := by
  refine ⟨h.lt, ?_⟩
  unfold IsR at h
  simp [World.cell?, World.frozen?, h]
theorem IsR.new {w : World} {r : Rt} : IsR (w.alloc (.cells #[.string ⟨r.word.toArray⟩, .int .i64 r.cost, .int .i64 r.count] 73)) w.heap.size r := by
  show (w.heap.push _)[w.heap.size]? = _
  simp
theorem IsR.alloc {w : World} {b : Nat} {r : Rt} (h : IsR w b r) (o : Obj) : IsR (w.alloc o) b r := (Below.heap_alloc w o b h.lt).trans h
theorem IsR.other {w : World} {b : Nat} {r : Rt} (h : IsR w b r) {p : Addr} (hp : b ≠ p.block) (u : Value) : IsR (w.setCell p u) b r := (Below.heap_setCell w p u b hp).trans h
theorem IsR.kept {w w1 : World} {b : Nat} {r : Rt} {row : Option Nat} (h : IsR w b r) (hg : w.grownBy w1 row) (hne : some b ≠ row) : IsR w1 b r := (hg.block b h.lt hne).trans h
theorem IsR.set3 {w : World} {b : Nat} {r : Rt} (h : IsR w b r) (q : Rt) : IsR (((w.setCell ⟨b, 0, none⟩ (.string ⟨q.word.toArray⟩)).setCell ⟨b, 1, none⟩ (.int .i64 q.cost)).setCell ⟨b, 2, none⟩ (.int .i64 q.count)) b q := by
  have h0 := cells_set h 0 (by simp) (.string ⟨q.word.toArray⟩)
  have h1 := cells_set h0 1 (by simp) (.int .i64 q.cost)
  have h2 := cells_set h1 2 (by simp) (.int .i64 q.count)
  simpa [IsR] using h2
theorem IsR.load {w : World} {b : Nat} {r : Rt} (h : IsR w b r) : (loadVar 73 ⟨b, 0, none⟩).run Tryd.prog w = .ok (Rt.v r) w := by
  obtain ⟨_, ⟨c0, c1, c2⟩, _⟩ := h.all
  simp [go_sem, c0, c1, c2]
set_option maxRecDepth 100000 in
theorem ret_route {fn : Func} {p : Tmp} {tmps : Array Value} {w : World} {b : Nat} {r : Rt} (h : fn.results = #[.cell p 73]) (hp : tmps.getD p undef = .pointer (some ⟨b, 0, none⟩)) (hd : IsR w b r) : (results fn tmps).run Tryd.prog w = .ok (Rt.v r) w := by
  rw [results_cell h, hp]
  exact hd.load
set_option maxRecDepth 100000 in
theorem ret_route2 {fn : Func} {p u : Tmp} {tmps : Array Value} {w : World} {b : Nat} {r : Rt} {x : Bool} (h : fn.results = #[.cell p 73, .tmp u]) (hp : tmps.getD p undef = .pointer (some ⟨b, 0, none⟩)) (hu : tmps.getD u undef = .bool x) (hd : IsR w b r) :
    (results fn tmps).run Tryd.prog w = .ok (.tuple #[Rt.v r, .bool x]) w := by
  rw [results_cell_tmp h, hp, hu]
  show ((loadVar 73 ⟨b, 0, none⟩).run Tryd.prog w).andThen _ = _
  rw [hd.load]
  rfl

/-! ### Keys -/
theorem laidOutS : laidOutB Tryd.prog = true := by kernel_rfl
theorem row_state : 30 < Tryd.prog.types.size := of_decide_eq_true (by kernel_rfl)
theorem wide_state : (match Tryd.prog.underlying 30 with | some (.array _ _) | some (.struct _) => true | _ => false) = true := by kernel_rfl
theorem lawS : Keyed Tryd.prog 30 := Keyed.of_law (deep_law_laid laidOutS (m := 3) (by omega) row_state (by kernel_rfl) wide_state)
/-- A state near enough for a key. -/
def okS (s : St) : Prop := (-100000 ≤ s.x ∧ s.x ≤ 100000) ∧ (-100000 ≤ s.y ∧ s.y ≤ 100000) ∧ goodB s.d = true
theorem litS_wf {a : Int} (h : -100000 ≤ a ∧ a ≤ 100000) : (Lit.int .i64 a).wf = true := by
  have h1 : IntKind.i64.min ≤ a := by
    have : IntKind.i64.min = -9223372036854775808 := by decide
    omega
  have h2 : a ≤ IntKind.i64.max := by
    have : IntKind.i64.max = 9223372036854775807 := by decide
    omega
  show (decide (IntKind.i64.min ≤ a) && decide (a ≤ IntKind.i64.max)) = true
  rw [decide_eq_true h1, decide_eq_true h2]
  rfl
theorem key_state {s : St} (h : okS s) : ∃ l, keyOf Tryd.prog 30 (St.v s) = some l := by
  obtain ⟨hx, hy, hd⟩ := h
  simp only [goodB, decide_eq_true_eq] at hd
  have hX := litS_wf hx
  have hY := litS_wf hy
  have h0 := litS_wf (a := s.d.t) (by omega)
  have h1 := litS_wf (a := s.d.n) (by omega)
  have h2 := litS_wf (a := s.d.e) (by omega)
  have h3 := litS_wf (a := s.d.s) (by omega)
  have h4 := litS_wf (a := s.d.w) (by omega)
  have h5 := litS_wf (a := s.d.b) (by omega)
  have k1 : Tryd.prog.keyType 30 = true := by kernel_rfl
  have k2 : (St.v s).formed Tryd.prog 30 = true := by kernel_rfl
  have k3 : ∃ d, Tryd.prog.types.size + 1 = d + 3 := ⟨Tryd.prog.types.size - 2, by
    have : 2 ≤ Tryd.prog.types.size := of_decide_eq_true (by kernel_rfl)
    omega⟩
  have k4 : ∀ d a, (Lit.int .i64 a).wf = true → Tryd.prog.keyLits (d + 1) 3 [.int .i64 a] = some [.int .i64 a] := by
    intro d a ha
    unfold Program.keyLits
    rw [Tryd.underlying3]
    simp [ha]
  have c3 : Tryd.prog.cellsOf 3 = 1 := by kernel_rfl
  have c6 : Tryd.prog.cellsOf 28 = 6 := by kernel_rfl
  have c8 : Tryd.prog.cellsOf 30 = 8 := by kernel_rfl
  have k6 : ∀ d, ∃ ls, Tryd.prog.keyLits (d + 2) 28 [.int .i64 s.d.t, .int .i64 s.d.n, .int .i64 s.d.e, .int .i64 s.d.s, .int .i64 s.d.w, .int .i64 s.d.b] = some ls := by
    intro d
    unfold Program.keyLits
    rw [Tryd.underlying28]
    simp [c3, c6, k4 d _ h0, k4 d _ h1, k4 d _ h2, k4 d _ h3, k4 d _ h4, k4 d _ h5]
  obtain ⟨d, hd⟩ := k3
  have k5 : ∃ ls, Tryd.prog.keyLits (d + 3) 30 (St.v s).cells.toList = some ls := by
    obtain ⟨ls6, hls6⟩ := k6 d
    unfold Program.keyLits
    rw [Tryd.underlying30]
    simp [Value.cells, c3, c6, c8, k4 (d + 1) _ hX, k4 (d + 1) _ hY, hls6]
  obtain ⟨ls, hls⟩ := k5
  unfold keyOf
  rw [Tryd.underlying30]
  simp only [k1, k2, hd, hls, Bool.and_self, if_true, Option.map_some]
  exact ⟨_, rfl⟩

/-! ### The map's block -/
/-- A state, its route, the number that the entry got when it was laid. -/
abbrev SE := (St × Rt) × Nat
def entS (x : SE) : MapEntry := ⟨St.v x.1.1, Rt.v x.1.2, x.2⟩
def MapR (w : World) (b : Nat) (L : List SE) (c : Nat) : Prop := w.heap[b]? = some (.map (L.map entS).toArray c)
structure OkL (L : List SE) (c : Nat) : Prop where
  keys : (L.map (·.1.1)).Nodup
  born : (L.map (·.2)).Nodup
  lt : ∀ x ∈ L, x.2 < c
  ok : ∀ x ∈ L, okS x.1.1
theorem OkL.nil (c : Nat) : OkL [] c := ⟨List.nodup_nil, List.nodup_nil, by simp, by simp⟩
theorem OkL.sub {L M : List SE} {c : Nat} (h : OkL L c) (hs : List.Sublist M L) : OkL M c :=
  ⟨h.keys.sublist (hs.map _), h.born.sublist (hs.map _), fun x hx => h.lt x (hs.subset hx), fun x hx => h.ok x (hs.subset hx)⟩
theorem OkL.snoc {L : List SE} {c : Nat} (h : OkL L c) {s : St} (hs : okS s) (hn : ∀ x ∈ L, x.1.1 ≠ s) (r : Rt) : OkL (L ++ [((s, r), c)]) (c + 1) := by
  refine ⟨?_, ?_, ?_, ?_⟩
  · rw [List.map_append]
    refine List.nodup_append.2 ⟨h.keys, by simp, ?_⟩
    intro a ha b hb e
    obtain ⟨x, hx, rfl⟩ := List.mem_map.1 ha
    simp only [List.map_cons, List.map_nil, List.mem_singleton] at hb
    exact hn x hx (e.trans hb)
  · rw [List.map_append]
    refine List.nodup_append.2 ⟨h.born, by simp, ?_⟩
    intro a ha b hb e
    obtain ⟨x, hx, rfl⟩ := List.mem_map.1 ha
    simp only [List.map_cons, List.map_nil, List.mem_singleton] at hb
    have := h.lt x hx
    omega
  · intro x hx
    rcases List.mem_append.1 hx with hx | hx
    · have := h.lt x hx; omega
    · simp only [List.mem_singleton] at hx; subst hx; simp
  · intro x hx
    rcases List.mem_append.1 hx with hx | hx
    · exact h.ok x hx
    · simp only [List.mem_singleton] at hx; subst hx; exact hs
theorem vS_inj {x y : St} (h : St.v x = St.v y) : x = y := by
  simp only [St.v, Value.agg.injEq, Array.mk.injEq, List.cons.injEq, Value.int.injEq, true_and, and_true] at h
  obtain ⟨h0, h1, h2, h3, h4, h5, h6, h7⟩ := h
  exact St.ext' h0 h1 (D.ext' h2 h3 h4 h5 h6 h7)
theorem ent_get {L : List SE} {j : Nat} {e : MapEntry} (h : (L.map entS)[j]? = some e) : ∃ x, L[j]? = some x ∧ e = entS x := by
  rw [List.getElem?_map] at h
  obtain ⟨x, hx, rfl⟩ := Option.map_eq_some_iff.1 h
  exact ⟨x, hx, rfl⟩
theorem find_state {L : List SE} {c : Nat} (hL : OkL L c) {s : St} (hs : okS s) (w : World) :
    ((Instr.findKey 30 (St.v s) (L.map entS)).run Tryd.prog w = .ok none w ∧ ∀ x ∈ L, x.1.1 ≠ s) ∨
    ∃ j x, (Instr.findKey 30 (St.v s) (L.map entS)).run Tryd.prog w = .ok (some (j, Rt.v x.1.2)) w ∧ L[j]? = some x ∧ x.1.1 = s := by
  obtain ⟨kl, hk⟩ := key_state hs
  rcases lawS.find w hk (L.map entS) (by
    intro e he
    obtain ⟨x, hx, rfl⟩ := List.mem_map.1 he
    exact key_state (hL.ok x hx)) with ⟨h1, h2⟩ | ⟨j, e, h1, h2, h3⟩
  · exact .inl ⟨h1, fun x hx e => h2 (entS x) (List.mem_map.2 ⟨x, hx, rfl⟩) (by rw [← e]; rfl)⟩
  · obtain ⟨x, hx, rfl⟩ := ent_get h2
    exact .inr ⟨j, x, h1, hx, vS_inj h3⟩
theorem OkL.at {L : List SE} {c : Nat} (hL : OkL L c) {i j : Nat} {x y : SE} (hi : L[i]? = some x) (hj : L[j]? = some y) (e : x.1.1 = y.1.1) : i = j := by
  have h1 : (L.map (·.1.1))[i]? = some x.1.1 := by simp [hi]
  have h2 : (L.map (·.1.1))[j]? = some x.1.1 := by simp [hj, e]
  exact (List.getElem?_inj (List.getElem?_eq_some_iff.1 h1).1 hL.keys).1 (h1.trans h2.symm)
theorem MapR.lt {w : World} {b : Nat} {L : List SE} {c : Nat} (h : MapR w b L c) : b < w.heap.size := by
  rcases Nat.lt_or_ge b w.heap.size with h' | h'
  · exact h'
  · simp [MapR, Array.getElem?_eq_none h'] at h
theorem mapR_to {w w0 w1 : World} {b : Nat} {L : List SE} {c : Nat} (hb : Below w0.heap.size w0 w1) (h : MapR w b L c) (e : w0.heap = w.heap) : MapR w1 b L c := by
  have := hb.block b (by rw [e]; exact h.lt)
  unfold MapR at h ⊢
  rw [this, e]
  exact h
theorem MapR.alloc {w : World} {b : Nat} {L : List SE} {c : Nat} (h : MapR w b L c) (o : Obj) : MapR (w.alloc o) b L c := (Below.heap_alloc w o b h.lt).trans h
theorem MapR.other {w : World} {b : Nat} {L : List SE} {c : Nat} (h : MapR w b L c) {p : Addr} (hp : b ≠ p.block) (u : Value) : MapR (w.setCell p u) b L c := (Below.heap_setCell w p u b hp).trans h
theorem MapR.kept {w w1 : World} {b : Nat} {L : List SE} {c : Nat} {row : Option Nat} (h : MapR w b L c) (hg : w.grownBy w1 row) (hne : some b ≠ row) : MapR w1 b L c := (hg.block b h.lt hne).trans h
theorem MapR.set {w : World} {b b' : Nat} {L : List SE} {c : Nat} (h : MapR w b L c) (o : Obj) (hne : b' ≠ b) : MapR (setBlock w b' o) b L c := by
  unfold MapR setBlock at *
  rw [Array.getElem?_setIfInBounds_ne hne]
  exact h
theorem mapR_set {w : World} {b : Nat} {L M : List SE} {c c' : Nat} (h : MapR w b L c) : MapR (setBlock w b (.map (M.map entS).toArray c')) b M c' := by
  have hl := h.lt
  unfold MapR setBlock
  simp [hl]
theorem setB_grown {w : World} {b : Nat} {o : Obj} : w.grownBy (setBlock w b o) (some b) := by
  refine ⟨rfl, rfl, rfl, ?_, ?_⟩
  · simp [setBlock]
  · intro i hi hne
    have : i ≠ b := fun e => hne (by rw [e])
    simp only [setBlock]
    rw [Array.getElem?_setIfInBounds, if_neg (fun e => this e.symm)]
theorem setB_size {w : World} {b : Nat} {o : Obj} : (setBlock w b o).heap.size = w.heap.size := by simp [setBlock]
theorem zero_route (w : World) : (zeroValue 73).run Tryd.prog w = .ok (Rt.v zeroR) w := by kernel_rfl

/-- '_, found := m[s]' and 'm[s]' at a state that is not there. -/
theorem lookS_no {L : List SE} {c : Nat} (hL : OkL L c) {s : St} (hs : okS s) {w : World} {b : Nat} (h : MapR w b L c) (hn : ∀ x ∈ L, x.1.1 ≠ s) :
    (Instr.lookup 65 (.map (some b)) (St.v s) true).run Tryd.prog w = .ok (.tuple #[Rt.v zeroR, .bool false]) w ∧
    (Instr.lookup 65 (.map (some b)) (St.v s) false).run Tryd.prog w = .ok (Rt.v zeroR) w := by
  obtain ⟨kl, hk⟩ := key_state hs
  rcases find_state hL hs w with ⟨h1, h2⟩ | ⟨j, x, h1, h2, h3⟩
  · constructor <;> simp [Instr.lookup, run_underlying Tryd.underlying65, MapKept.run_getObj_map h, lawS.check w _ hk, h1, zero_route, Result.andThen, zeroR]
  · exact absurd h3 (hn x (List.mem_of_getElem? h2))
theorem lookS_yes {L : List SE} {c : Nat} (hL : OkL L c) {j : Nat} {x : SE} (hx : L[j]? = some x) {w : World} {b : Nat} (h : MapR w b L c) :
    (Instr.lookup 65 (.map (some b)) (St.v x.1.1) true).run Tryd.prog w = .ok (.tuple #[Rt.v x.1.2, .bool true]) w ∧
    (Instr.lookup 65 (.map (some b)) (St.v x.1.1) false).run Tryd.prog w = .ok (Rt.v x.1.2) w := by
  have hs := hL.ok x (List.mem_of_getElem? hx)
  obtain ⟨kl, hk⟩ := key_state hs
  rcases find_state hL hs w with ⟨h1, h2⟩ | ⟨i, y, h1, h2, h3⟩
  · exact absurd rfl (h2 x (List.mem_of_getElem? hx))
  · have := hL.at h2 hx h3
    subst this
    rw [hx] at h2
    obtain rfl := Option.some.inj h2
    constructor <;> simp [Instr.lookup, run_underlying Tryd.underlying65, MapKept.run_getObj_map h, lawS.check w _ hk, h1, Result.andThen]
/-- 'm[s] = r' at a state that is not there. -/
theorem putS_new {L : List SE} {c : Nat} (hL : OkL L c) {s : St} (hs : okS s) {w : World} {b : Nat} (h : MapR w b L c) (hn : ∀ x ∈ L, x.1.1 ≠ s) (r : Rt) :
    (Instr.mapUpdate 65 (.map (some b)) (St.v s) (Rt.v r)).run Tryd.prog w = .ok () (setBlock w b (.map ((L ++ [((s, r), c)]).map entS).toArray (c + 1))) := by
  obtain ⟨kl, hk⟩ := key_state hs
  rcases find_state hL hs w with ⟨h1, h2⟩ | ⟨j, x, h1, h2, h3⟩
  · simp [Instr.mapUpdate, run_underlying Tryd.underlying65, MapKept.run_getObj_map h, lawS.check w false hk, h1, MapKept.run_setObj_map _ h, Result.andThen, setBlock, entS]
  · exact absurd h3 (hn x (List.mem_of_getElem? h2))
/-- 'm[s] = r' at a state that is there. -/
theorem putS_old {L : List SE} {c : Nat} (hL : OkL L c) {j : Nat} {x : SE} (hx : L[j]? = some x) {w : World} {b : Nat} (h : MapR w b L c) (r : Rt) :
    (Instr.mapUpdate 65 (.map (some b)) (St.v x.1.1) (Rt.v r)).run Tryd.prog w = .ok () (setBlock w b (.map ((L.set j ((x.1.1, r), x.2)).map entS).toArray c)) := by
  have hs := hL.ok x (List.mem_of_getElem? hx)
  have hjl := (List.getElem?_eq_some_iff.1 hx).1
  obtain ⟨kl, hk⟩ := key_state hs
  rcases find_state hL hs w with ⟨h1, h2⟩ | ⟨i, y, h1, h2, h3⟩
  · exact absurd rfl (h2 x (List.mem_of_getElem? hx))
  · have := hL.at h2 hx h3
    subst this
    rw [hx] at h2
    obtain rfl := Option.some.inj h2
    have hg := (List.getElem?_eq_some_iff.1 hx).2
    have he : (L.map entS).modify i (fun e => ⟨St.v x.1.1, Rt.v r, e.born⟩) = (L.set i ((x.1.1, r), x.2)).map entS := by
      apply List.ext_getElem?
      intro k
      rw [List.getElem?_modify]
      by_cases e : i = k
      · subst e
        simp [hjl, entS, hg]
      · simp [e]
    have hk0 : (Option.map ((fun x : MapEntry => x.key) ∘ entS) L[i]?).getD (St.v x.1.1) = St.v x.1.1 := by simp [hx, entS]
    simp only [Instr.mapUpdate, run_underlying Tryd.underlying65, MapKept.run_getObj_map h, lawS.check w false hk, h1, Result.andThen, Sem.run_bind, List.getElem?_toArray, List.getElem?_map, Option.map_map, hk0, lawS.stays w hk, List.modify_toArray, he, MapKept.run_setObj_map _ h, setBlock]
theorem OkL.put {L : List SE} {c : Nat} (hL : OkL L c) {j : Nat} {x : SE} (hx : L[j]? = some x) (r : Rt) : OkL (L.set j ((x.1.1, r), x.2)) c := by
  have hjl := (List.getElem?_eq_some_iff.1 hx).1
  have e1 : (L.set j ((x.1.1, r), x.2)).map (·.1.1) = L.map (·.1.1) := by
    apply List.ext_getElem?
    intro k
    rw [List.map_set]
    by_cases e : j = k
    · subst e
      rw [List.getElem?_set_self (by simpa using hjl)]
      simp [hx]
    · rw [List.getElem?_set_ne e]
  have e2 : (L.set j ((x.1.1, r), x.2)).map (·.2) = L.map (·.2) := by
    apply List.ext_getElem?
    intro k
    rw [List.map_set]
    by_cases e : j = k
    · subst e
      rw [List.getElem?_set_self (by simpa using hjl)]
      simp [hx]
    · rw [List.getElem?_set_ne e]
  have hm : ∀ y ∈ L.set j ((x.1.1, r), x.2), ∃ z ∈ L, y.1.1 = z.1.1 ∧ y.2 = z.2 := by
    intro y hy
    rcases List.mem_or_eq_of_mem_set hy with hy | rfl
    · exact ⟨y, hy, rfl, rfl⟩
    · exact ⟨x, List.mem_of_getElem? hx, rfl, rfl⟩
  refine ⟨by rw [e1]; exact hL.keys, by rw [e2]; exact hL.born, ?_, ?_⟩
  · intro y hy
    obtain ⟨z, hz, _, e⟩ := hm y hy
    rw [e]; exact hL.lt z hz
  · intro y hy
    obtain ⟨z, hz, e, _⟩ := hm y hy
    rw [e]; exact hL.ok z hz
/-- 'delete(m, s)'. -/
theorem delS_yes {L : List SE} {c : Nat} (hL : OkL L c) {j : Nat} {x : SE} (hx : L[j]? = some x) {w : World} {b : Nat} (h : MapR w b L c) (ty : TypeId) :
    (Builtin.delete_ #[65, 30] ty #[.map (some b), St.v x.1.1]).run Tryd.prog w = .ok (.tuple #[]) (setBlock w b (.map ((L.eraseIdx j).map entS).toArray c)) := by
  have hs := hL.ok x (List.mem_of_getElem? hx)
  have hjl := (List.getElem?_eq_some_iff.1 hx).1
  obtain ⟨kl, hk⟩ := key_state hs
  rcases find_state hL hs w with ⟨h1, h2⟩ | ⟨i, y, h1, h2, h3⟩
  · exact absurd rfl (h2 x (List.mem_of_getElem? hx))
  · have := hL.at h2 hx h3
    subst this
    have he : (L.map entS).toArray.eraseIdxIfInBounds i = ((L.eraseIdx i).map entS).toArray := by
      unfold Array.eraseIdxIfInBounds
      rw [dif_pos (by simpa using hjl)]
      apply Array.ext'
      simp [map_eraseIdx]
    simp [Builtin.delete_, run_underlying Tryd.underlying65, MapKept.run_getObj_map h, lawS.check w _ hk, h1, MapKept.run_setObj_map _ h, Result.andThen, setBlock]
    rw [map_eraseIdx]
theorem lenS {L : List SE} {c : Nat} {w : World} {b : Nat} (h : MapR w b L c) (ty : TypeId) : (Builtin.len_ #[65] ty #[.map (some b)]).run Tryd.prog w = .ok (.int .i64 (L.length : Int)) w := by
  simp [Builtin.len_, run_underlying Tryd.underlying65, MapKept.run_getObj_map h, goInt, Result.andThen]
/-! ### A range over such a map -/
/-- A range under way; seen: the numbers of the entries that have come. -/
structure RgS (w : World) (b r : Nat) (L : List SE) (c : Nat) (seen : List Nat) : Prop where
  map : MapR w b L c
  it : w.heap[r]? = some (.mapIter (some b) c seen.toArray c)
theorem RgS.ne {w : World} {b r : Nat} {L : List SE} {c : Nat} {seen : List Nat} (h : RgS w b r L c seen) : r ≠ b := by
  intro e
  have h1 := h.it
  have h2 := h.map
  unfold MapR at h2
  rw [e, h2] at h1
  cases h1
theorem RgS.rlt {w : World} {b r : Nat} {L : List SE} {c : Nat} {seen : List Nat} (h : RgS w b r L c seen) : r < w.heap.size := (Array.getElem?_eq_some_iff.1 h.it).1
theorem RgS.left_eq {w : World} {b r : Nat} {L : List SE} {c : Nat} {seen : List Nat} (h : RgS w b r L c seen) : w.rangeLeft b r = (leftOf (L.map entS).toArray seen.toArray).size := by
  have h2 := h.map
  unfold MapR at h2
  simp [World.rangeLeft, h.it, h2]
theorem RgS.alloc {w : World} {b r : Nat} {L : List SE} {c : Nat} {seen : List Nat} (h : RgS w b r L c seen) (o : Obj) : RgS (w.alloc o) b r L c seen :=
  ⟨h.map.alloc o, (Below.heap_alloc w o r h.rlt).trans h.it⟩
theorem RgS.other {w : World} {b r : Nat} {L : List SE} {c : Nat} {seen : List Nat} (h : RgS w b r L c seen) {p : Addr} (hb : b ≠ p.block) (hr : r ≠ p.block) (u : Value) : RgS (w.setCell p u) b r L c seen :=
  ⟨h.map.other hb u, (Below.heap_setCell w p u r hr).trans h.it⟩
theorem RgS.kept {w w1 : World} {b r : Nat} {L : List SE} {c : Nat} {seen : List Nat} {row : Option Nat} (h : RgS w b r L c seen) (hg : w.grownBy w1 row) (hb : some b ≠ row) (hr : some r ≠ row) : RgS w1 b r L c seen :=
  ⟨h.map.kept hg hb, (hg.block r h.rlt hr).trans h.it⟩
theorem rgS_to {w w0 w1 : World} {b r : Nat} {L : List SE} {c : Nat} {seen : List Nat} (hb : Below w0.heap.size w0 w1) (h : RgS w b r L c seen) (e : w0.heap = w.heap) : RgS w1 b r L c seen :=
  ⟨mapR_to hb h.map e, by rw [hb.block r (by rw [e]; exact h.rlt), e]; exact h.it⟩
theorem ents_born {L : List SE} : (L.map entS).map (·.born) = L.map (·.2) := by rw [List.map_map]; rfl
section
variable {w : World} {ops : Array Oper} {rest : List Oper} {o : Oper} {a : Act} {Q : Exit → Act → World → Prop}
theorem wpList_range_S (hg : o.guard = none) (m : Operand) (hop : o.op = Op.range 65 m) (b : Nat) (L : List SE) (c : Nat) (hm : a.eval m = .map (some b)) (h : MapR w b L c)
    (hK : RgS (w.alloc (.mapIter (some b) c #[] c)) b w.heap.size L c [] → wpList Tryd.prog ops Q rest (a.put o.dst (.pointer (some ⟨w.heap.size, 0, none⟩))) (w.alloc (.mapIter (some b) c #[] c))) :
    wpList Tryd.prog ops Q (o :: rest) a w := by
  refine wpList_plain hg fun K' hK' => ?_
  have hrun : (Instr.range 65 (.map (some b))).run Tryd.prog w = .ok (.pointer (some ⟨w.heap.size, 0, none⟩)) (w.alloc (.mapIter (some b) c #[] c)) :=
    run_range_map w _ (Tryd.prog.mapKeyOf 65) (Tryd.prog.mapElemOf 65) b (L.map entS).toArray c (by kernel_rfl) h
  unfold Oper.wp
  simp [execOp, hop, hm, hrun, Result.andThen]
  exact hK' _ _ (hK ⟨h.alloc _, (MapKept.heap_alloc w _).1⟩)
theorem wpList_next_S (hg : o.guard = none) (it : Operand) (hop : o.op = Op.next it false) (b r : Nat) (L : List SE) (c : Nat) (seen : List Nat) (hit : a.eval it = .pointer (some ⟨r, 0, none⟩)) (hL : OkL L c) (h : RgS w b r L c seen)
    (hDone : (∀ x ∈ L, x.2 ∈ seen) → wpList Tryd.prog ops Q rest (a.put o.dst (.tuple #[.bool false])) w)
    (hMore : ∀ (x : SE) (w' : World), x ∈ L → x.2 ∉ seen → RgS w' b r L c (seen ++ [x.2]) → w'.rangeLeft b r < w.rangeLeft b r → w.grownBy w' (some r) → w'.heap.size = w.heap.size → (Instr.entry (.pointer (some ⟨r, 0, none⟩))).run Tryd.prog w' = .ok (.tuple #[St.v x.1.1, Rt.v x.1.2]) w' →
      wpList Tryd.prog ops Q rest (a.put o.dst (.tuple #[.bool true, St.v x.1.1, Rt.v x.1.2])) w') :
    wpList Tryd.prog ops Q (o :: rest) a w := by
  refine wpList_plain hg fun K' hK' => ?_
  unfold Oper.wp
  have hmap := h.map
  unfold MapR at hmap
  rcases run_next_at (P := Tryd.prog) w o.type r b c c seen.toArray (L.map entS).toArray c h.it hmap (fun x hx => by
      obtain ⟨y, hy, rfl⟩ := List.mem_map.1 (show x ∈ L.map entS by simpa using hx)
      exact hL.lt y hy) (Nat.le_refl _) with ⟨h0, hrun⟩ | ⟨e, he, w1, hal, hrun⟩
  · simp [execOp, hop, hit, hrun, Result.andThen]
    refine hK' _ _ (hDone fun x hx => ?_)
    have := all_seen (L.map entS).toArray seen.toArray h0 (entS x) (by simpa using List.mem_map.2 ⟨x, hx, rfl⟩)
    simpa [entS] using this
  · obtain ⟨hem, hes⟩ := mem_left he
    obtain ⟨x, hx, rfl⟩ := List.mem_map.1 (show e ∈ L.map entS by simpa using hem)
    have hni : x.2 ∉ seen := by simpa [entS] using hes
    have hr1 : w1.heap[r]? = some (.mapIter (some b) c seen.toArray c) := by rcases hal with rfl | rfl <;> exact h.it
    have hb1 : w1.heap[b]? = some (.map (L.map entS).toArray c) := by rcases hal with rfl | rfl <;> exact hmap
    have hrl : r < w1.heap.size := (Array.getElem?_eq_some_iff.1 hr1).1
    have hpu : seen.toArray.push x.2 = (seen ++ [x.2]).toArray := by simp
    have hrun' : (Instr.next (.pointer (some ⟨r, 0, none⟩)) false o.type).run Tryd.prog w = .ok (.tuple #[.bool true, St.v x.1.1, Rt.v x.1.2]) (setBlock w1 r (.mapIter (some b) c (seen ++ [x.2]).toArray c)) := by
      rw [← hpu]
      exact hrun
    have hset : (setBlock w1 r (.mapIter (some b) c (seen ++ [x.2]).toArray c)).heap[r]? = some (.mapIter (some b) c (seen ++ [x.2]).toArray c) := by simp [setBlock, hrl]
    have hoth : (setBlock w1 r (.mapIter (some b) c (seen ++ [x.2]).toArray c)).heap[b]? = some (.map (L.map entS).toArray c) := by
      simp only [setBlock]
      rw [Array.getElem?_setIfInBounds_ne h.ne]
      exact hb1
    have hR : RgS (setBlock w1 r (.mapIter (some b) c (seen ++ [x.2]).toArray c)) b r L c (seen ++ [x.2]) := ⟨hoth, hset⟩
    simp [execOp, hop, hit, hrun', Result.andThen]
    refine hK' _ _ (hMore x _ hx hni hR ?_ ?_ ?_ ?_)
    · rw [hR.left_eq, h.left_eq, ← hpu]
      exact left_shrinks (L.map entS).toArray seen.toArray (entS x) he
    · rcases hal with rfl | rfl <;> exact ⟨rfl, rfl, rfl, by simp [setBlock], fun k _ hk => by
        simp only [setBlock]
        rw [Array.getElem?_setIfInBounds_ne (fun e1 => hk (by rw [e1]))]
        try rfl⟩
    · rcases hal with rfl | rfl <;> simp [setBlock]
    · exact run_entry_at _ r b c seen.toArray (L.map entS).toArray c (entS x) (by rw [show (entS x).born = x.2 from rfl, hpu]; exact hset) hoth hem (by
        rw [show (L.map entS).toArray.toList = L.map entS from rfl, ents_born]
        exact hL.born)
end
end Go.Proofs.YthdkhikkdcjifaaDoor
