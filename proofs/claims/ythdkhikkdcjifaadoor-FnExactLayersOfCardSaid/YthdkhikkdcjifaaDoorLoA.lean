/- How many of some numbers are 0, 1, ..: plain mathematics; and what a row of such counts goes through. -/
import Derived.Test.YthdkhikkdcjifaaDoorWyT
import Derived.Test.YthdkhikkdcjifaaDoorInts
namespace Go.Proofs.YthdkhikkdcjifaaDoor
set_option maxRecDepth 100000
set_option linter.all false
open Go.RowKit Go.Maps Go.ChangeMaps

/-- How many of D are k, for each k below p. -/
def hisP (D : List Nat) (p : Nat) : List Int := (List.range p).map (fun k => (D.count k : Int))
theorem hisP_len (D : List Nat) (p : Nat) : (hisP D p).length = p := by simp [hisP]
theorem hisP_get {D : List Nat} {p j : Nat} (h : j < p) : (hisP D p)[j]? = some (D.count j : Int) := by
  unfold hisP
  rw [List.getElem?_map, List.getElem?_range h]
  rfl
/-- One more than the greatest of D. -/
def mxD (D : List Nat) : Nat := D.foldr (fun d m => max (d + 1) m) 0
theorem mxD_le {p : Nat} : ∀ {D : List Nat}, mxD D ≤ p ↔ ∀ d ∈ D, d < p
  | [] => by simp [mxD]
  | d :: D => by
    have ih := mxD_le (p := p) (D := D)
    show max (d + 1) (mxD D) ≤ p ↔ _
    rw [Nat.max_le, ih]
    constructor
    · rintro ⟨h1, h2⟩ e he
      rcases List.mem_cons.1 he with rfl | he
      · exact h1
      · exact h2 e he
    · intro h
      exact ⟨h d List.mem_cons_self, fun e he => h e (List.mem_cons_of_mem _ he)⟩
theorem mxD_snoc (D : List Nat) (d : Nat) : mxD (D ++ [d]) = max (mxD D) (d + 1) := by
  apply Nat.le_antisymm
  · refine mxD_le.2 fun e he => ?_
    rcases List.mem_append.1 he with he | he
    · have := mxD_le.1 (Nat.le_refl (mxD D)) e he
      omega
    · rw [List.mem_singleton.1 he]
      omega
  · refine Nat.max_le.2 ⟨mxD_le.2 fun e he => mxD_le.1 (Nat.le_refl _) e (List.mem_append_left _ he), ?_⟩
    exact mxD_le.1 (Nat.le_refl (mxD (D ++ [d]))) d (by simp)
theorem hisP_more {D : List Nat} {p : Nat} (h : mxD D ≤ p) : hisP D (p + 1) = hisP D p ++ [0] := by
  unfold hisP
  rw [List.range_succ, List.map_append]
  have : D.count p = 0 := List.count_eq_zero.2 (fun hm => by have := mxD_le.1 h p hm; omega)
  simp [this]
theorem hisP_bump {D : List Nat} {p d : Nat} (h : d < p) : (hisP D p).set d ((D.count d : Int) + 1) = hisP (D ++ [d]) p := by
  apply List.ext_getElem?
  intro j
  rw [List.getElem?_set, hisP_len]
  by_cases e : d = j
  · subst e
    rw [if_pos rfl, if_pos h, hisP_get h, List.count_append]
    simp
  · rw [if_neg e]
    by_cases hj : j < p
    · rw [hisP_get hj, hisP_get hj, List.count_append]
      simp [List.count_singleton, e]
    · rw [List.getElem?_eq_none (by rw [hisP_len]; omega), List.getElem?_eq_none (by rw [hisP_len]; omega)]
def hisD (D : List Nat) : List Int := hisP D (mxD D)
theorem hisD_len (D : List Nat) : (hisD D).length = mxD D := hisP_len _ _
theorem hisD_perm {D E : List Nat} (h : D.Perm E) : hisD D = hisD E := by
  have hm : mxD D = mxD E := Nat.le_antisymm (mxD_le.2 fun d hd => mxD_le.1 (Nat.le_refl _) d (h.mem_iff.1 hd)) (mxD_le.2 fun d hd => mxD_le.1 (Nat.le_refl _) d (h.mem_iff.2 hd))
  unfold hisD hisP
  rw [hm]
  apply List.map_congr_left
  intro k _
  rw [h.count_eq]
def fD (L : List WN) (k : Nat) : List Nat := (L.take k).map (·.far)
theorem fD_succ {L : List WN} {k : Nat} {x : WN} (h : L[k]? = some x) : fD L (k + 1) = fD L k ++ [x.far] := by
  unfold fD
  rw [List.take_succ, h]
  simp
theorem fD_all (L : List WN) : fD L L.length = L.map (·.far) := by unfold fD; rw [List.take_length]
theorem core_fars {L : List WN} {M : List Nd} (h : L.map coreW = M.map coreN) : L.map (·.far) = M.map Nd.far := by
  have e := congrArg (List.map (fun c => c.2.1)) h
  rw [List.map_map, List.map_map] at e
  exact e
theorem wysB_far {s : ByteArray} {t : St} (h : askB s t = true) : ∀ d ∈ (wysB s t).map Nd.far, d ≤ 1000 := by
  intro d hd
  obtain ⟨q, hq, rfl⟩ := List.mem_map.1 hd
  obtain ⟨i, hi⟩ := List.mem_iff_getElem?.1 hq
  have h1 := (runW_ok (flAt s.data.toList) t 1000).far_ix i i q (Nat.le_refl _) hi
  have h2 := (List.getElem?_eq_some_iff.1 hi).1
  have := wysB_len h
  omega
/-- What LayersOf answers. -/
def loV (s : ByteArray) (t : St) : List Int := if askB s t = true then hisD ((wysB s t).map Nd.far) else []
theorem loV_len (s : ByteArray) (t : St) : (loV s t).length ≤ 100000 := by
  unfold loV
  by_cases h : askB s t = true
  · rw [if_pos h, hisD_len]
    have : mxD ((wysB s t).map Nd.far) ≤ 1001 := mxD_le.2 fun d hd => by have := wysB_far h d hd; omega
    omega
  · rw [if_neg h]; simp
/-! ### Rows of counts -/
def lenV : Value → Nat
  | .slice _ n _ => n
  | _ => 0
theorem lenV_own {w : World} {B z n : Nat} {e : TypeId} {v : Value} {xs : List Value} (h : w.ownsRow B e z v n xs) : lenV v = n := by
  rcases own_forms h with ⟨rfl, rfl⟩ | ⟨g, cap, rfl, -, -⟩ <;> rfl
def SlcV (v : Value) (n : Nat) : Prop := (v = .slice none 0 0 ∧ n = 0) ∨ ∃ g cap, v = .slice (some ⟨g, 0, none⟩) n cap
theorem own_slc {w : World} {B z n : Nat} {e : TypeId} {v : Value} {xs : List Value} (h : w.ownsRow B e z v n xs) : SlcV v n := by
  rcases own_forms h with h | ⟨g, cap, h, -, -⟩
  · exact .inl h
  · exact .inr ⟨g, cap, h⟩
section
variable {w : World} {ops : Array Oper} {rest : List Oper} {o : Oper} {a : Act} {Q : Exit → Act → World → Prop}
theorem wpList_len_row (hg : o.guard = none) (m : Operand) (hop : o.op = Op.call { callee := Callee.builtin Builtin.len, args := #[m], argTypes := #[48] }) (v : Value) (n : Nat) (hm : a.eval m = v) (h : SlcV v n)
    (hK : wpList Tryd.prog ops Q rest (a.put o.dst (.int .i64 (n : Int))) w) : wpList Tryd.prog ops Q (o :: rest) a w := by
  refine wpList_plain hg fun K' hK' => ?_
  have hrun : (Builtin.len_ #[48] o.type #[v]).run Tryd.prog w = .ok (.int .i64 (n : Int)) w := by
    rcases h with ⟨rfl, rfl⟩ | ⟨g, cap, rfl⟩ <;> simp [Builtin.len_, Builtin.lenOf, run_underlying Tryd.underlying48, goInt, Result.andThen]
  unfold Oper.wp
  simp [execOp, hop, resolve, invoke, builtin, hm, hrun, Result.andThen]
  exact hK' _ _ hK
end
/-- A block of known cells. -/
def IsBk (w : World) (b : Nat) (cs : List Value) (T : TypeId) : Prop := w.heap[b]? = some (.cells cs.toArray T (0, 0))
theorem IsBk.lt {w : World} {b : Nat} {cs : List Value} {T : TypeId} (h : IsBk w b cs T) : b < w.heap.size := (Array.getElem?_eq_some_iff.1 h).1
theorem IsBk.new {w : World} {cs : List Value} {T : TypeId} : IsBk (w.alloc (.cells cs.toArray T)) w.heap.size cs T := by
  show (w.heap.push _)[w.heap.size]? = _
  simp
theorem IsBk.alloc {w : World} {b : Nat} {cs : List Value} {T : TypeId} (h : IsBk w b cs T) (o : Obj) : IsBk (w.alloc o) b cs T := (Below.heap_alloc w o b h.lt).trans h
theorem IsBk.kept {w w1 : World} {b : Nat} {cs : List Value} {T : TypeId} {row : Option Nat} (h : IsBk w b cs T) (hg : w.grownBy w1 row) (hne : some b ≠ row) : IsBk w1 b cs T := (hg.block b h.lt hne).trans h
theorem IsBk.cell {w : World} {b : Nat} {cs : List Value} {T : TypeId} (h : IsBk w b cs T) {j : Nat} {u : Value} (hu : cs[j]? = some u) : w.cell? ⟨b, j, none⟩ = some u := by
  unfold World.cell?
  unfold IsBk at h
  rw [show (⟨b, j, none⟩ : Addr).block = b from rfl, h]
  simpa using hu
theorem IsBk.free {w : World} {b : Nat} {cs : List Value} {T : TypeId} (h : IsBk w b cs T) (j : Nat) : w.frozen? ⟨b, j, none⟩ = false := by
  unfold IsBk at h
  simp [World.frozen?, h]
theorem grown_put (w : World) (a : Addr) (u : Value) : w.grownBy (w.setCell a u) (some a.block) := ⟨rfl, rfl, rfl, by simp [World.setCell], fun k _ hne => Below.heap_setCell w a u k (fun e => hne (by rw [e]))⟩
theorem own_grownL {w w' : World} {r : Option Nat} {b : Nat} {e : TypeId} {z : Nat} {v : Value} {n : Nat} {xs : List Value} (hb : w.grownBy w' r) (h : w.ownsRow b e z v n xs) (hl : ∀ g, v.ownBlock = some g → r ≠ some g) : w'.ownsRow b e z v n xs :=
  h.kept hb (by
    cases hv : v.ownBlock with
    | none => exact .inl rfl
    | some g => exact .inr (fun e => hl g hv e.symm))
/-- Rows of two types lie apart. -/
theorem own_types {w : World} {B B' z z' n n' : Nat} {e e' : TypeId} {v v' : Value} {xs ys : List Value} (h : w.ownsRow B e z v n xs) (h' : w.ownsRow B' e' z' v' n' ys) (hne : e ≠ e') : ∀ g, v'.ownBlock = some g → v.ownBlock ≠ some g := by
  intro g hg hv
  rcases h.2 with ⟨h0, _⟩ | ⟨g1, cap, cur, h1, _, hh, _⟩
  · rw [h0] at hv; cases hv
  · rcases h'.2 with ⟨h0, _⟩ | ⟨g2, cap', cur', h2, _, hh', _⟩
    · rw [h0] at hg; cases hg
    · have e1 : g1 = g := by rw [h1] at hv; simpa [Value.ownBlock] using hv
      have e2 : g2 = g := by rw [h2] at hg; simpa [Value.ownBlock] using hg
      subst e1
      subst e2
      rw [hh] at hh'
      injection hh' with hh'
      injection hh' with _ hh'
      exact hne hh'
/-- The inner loop's world: the nodes' row is the caller's; a box; a row of counts. -/
structure LoI (w wq : World) (F : Nat) (cs : List Value) (T : TypeId) (D : List Nat) (v : Value) (p : Nat) : Prop where
  row : wq.ownsRow w.heap.size 3 1 v p (ints (hisP D p))
  box : IsBk wq F cs T
  below : Below w.heap.size w wq
theorem LoI.app {w wq w4 : World} {F : Nat} {cs : List Value} {T : TypeId} {D : List Nat} {v v' : Value} {p : Nat} (h : LoI w wq F cs T D v p) (hT : T ≠ 3) (hp : mxD D ≤ p)
    (hO : w4.ownsRow w.heap.size 3 1 v' (p + 1) (ints (hisP D p) ++ [.int .i64 0])) (hg : (wq.alloc (.cells #[.int .i64 0] 3)).grownBy w4 v.ownBlock) : LoI w w4 F cs T D v' (p + 1) := by
  have hsz := h.below.size
  refine ⟨by rw [hisP_more hp, ints_snoc]; exact hO, (h.box.alloc _).kept hg (apart_blk h.box h.row hT), (h.below.alloc hsz _).grown hg (by simp; omega) (fun k hk => (h.row.lt k hk).1)⟩
theorem LoI.put {w wq : World} {F : Nat} {cs : List Value} {T : TypeId} {D : List Nat} {g p cap d : Nat} (h : LoI w wq F cs T D (.slice (some ⟨g, 0, none⟩) p cap) p) (hd : d < p) (hp : p = mxD (D ++ [d])) :
    (wq.setCell ⟨g, d, none⟩ (.int .i64 ((D.count d : Int) + 1))).ownsRow w.heap.size 3 1 (.slice (some ⟨g, 0, none⟩) p cap) (mxD (D ++ [d])) (ints (hisD (D ++ [d]))) ∧ Below w.heap.size w (wq.setCell ⟨g, d, none⟩ (.int .i64 ((D.count d : Int) + 1))) := by
  have h1 := own_put h.row d (by omega) (.int .i64 ((D.count d : Int) + 1))
  rw [ints_set, hisP_bump hd] at h1
  refine ⟨?_, h.below.setCell (h.row.lt g rfl).1 _⟩
  unfold hisD
  rw [← hp]
  exact h1
end Go.Proofs.YthdkhikkdcjifaaDoor
