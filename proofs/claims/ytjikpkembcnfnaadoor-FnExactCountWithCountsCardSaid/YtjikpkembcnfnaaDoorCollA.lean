/- slices.AppendSeq and slices.Collect at dice, against the iterator of maps.Keys. -/
import Derived.Test.YtjikpkembcnfnaaDoorCollD
import Derived.Test.YtjikpkembcnfnaaDoorLess
namespace Go.Proofs.YtjikpkembcnfnaaDoor
set_option maxRecDepth 100000
set_option linter.all false
open Go.RowKit Go.Maps Go.ChangeMaps

def apAssignD : Code := Code.region 2 #[{ dst := some 5, op := Op.alloc 30, type := 0, pos := "iter.go:51", after := #[], guard := none }, { dst := none, op := Op.store 30 (Operand.tmp 5) (Operand.tmp 7), type := 0, pos := "iter.go:51", after := #[{ on := 0, ground := Ground.data }, { on := 0, ground := Ground.phase }], guard := none }] false
def apBodyD : Code := Code.block 1 (Code.region 3 #[{ dst := some 8, op := Op.load 40 (Operand.tmp 2), type := 40, pos := "iter.go:52", after := #[], guard := none },
  { dst := some 9, op := Op.load 30 (Operand.tmp 5), type := 30, pos := "iter.go:52", after := #[], guard := none },
  { dst := some 10, op := Op.buildSlice 40 1 #[(0, Operand.tmp 9)], type := 40, pos := "iter.go:52", after := #[{ on := 1, ground := Ground.data }], guard := none },
  { dst := some 11, op := Op.call { callee := Callee.builtin Builtin.append, args := #[Operand.tmp 8, Operand.tmp 10], argTypes := #[40, 40] }, type := 40, pos := "iter.go:52", after := #[{ on := 0, ground := Ground.data }, { on := 2, ground := Ground.data }], guard := none },
  { dst := none, op := Op.store 40 (Operand.tmp 2) (Operand.tmp 11), type := 0, pos := "iter.go:52", after := #[{ on := 3, ground := Ground.data }, { on := 3, ground := Ground.chain }, { on := 0, ground := Ground.phase }, { on := 1, ground := Ground.phase }, { on := 2, ground := Ground.phase }, { on := 3, ground := Ground.phase }], guard := none }] false)
/-- The loop's record: AppendSeq's temporaries as they stood at the entering. -/
def apRecD (fn : FuncId) (sv : Value) (Bs D : Nat) (st : LoopState) (pend : Option Code) : Loop :=
  { state := st, pending := pend, fn, tmps := #[.slice none 0 0, sv, .pointer (some ⟨Bs, 0, none⟩), undef, .slice none 0 0, undef, sv, undef, undef, undef, undef, undef, undef], params := #[7], assign := apAssignD, body := apBodyD, defers := D }
/-- Between two rounds: the box holds a slice that owns, in a block of the call's own, what has come so far. -/
structure ApAtD (w0 : World) (fn : FuncId) (sv : Value) (Bs l Dq : Nat) (ss : List D) (W : World) : Prop where
  box : ∃ v, W.heap[Bs]? = some (.cells #[v] 40 (0, 0)) ∧ W.ownsRow w0.heap.size 30 6 v ss.length (cellsW ss)
  L : W.heap[l]? = some (.loop (apRecD fn sv Bs Dq .ready none))
  K : W.heap[Dq]? = some (.deferred (some []))
  below : Below w0.heap.size w0 W
theorem ownRow_abides {W W' : World} {row : Option Nat} {base : Nat} {e : TypeId} {size : Nat} {v : Value} {k : Nat} {xs : List Value} (h : W.ownsRow base e size v k xs) (hg : W.grownBy W' row)
    (hrow : ∀ r, row = some r → ∃ o : Obj, W.heap[r]? = some o ∧ o.isWalk = true) : W'.ownsRow base e size v k xs := by
  refine h.kept hg ?_
  rcases h.2 with ⟨rfl, _⟩ | ⟨g, cap, cur, rfl, _, hgb, _⟩
  · exact .inl rfl
  · refine .inr fun e' => ?_
    obtain ⟨o, ho, hw⟩ := hrow g (by simpa [Value.ownBlock] using e'.symm)
    rw [hgb] at ho; cases ho; cases hw
theorem apD_abides (w0 : World) (fn : FuncId) (sv : Value) (Bs l Dq B : Nat) (hB : w0.heap.size ≤ B) : AbidesFrom B (ApAtD w0 fn sv Bs l Dq) := fun s W W' row h hg hrow => by
  have hrow' : ∀ r, row = some r → ∃ o : Obj, W.heap[r]? = some o ∧ o.isWalk = true := fun r e => (hrow r e).2
  obtain ⟨v, hv, hr⟩ := h.box
  exact ⟨⟨v, (grownBy_keeps hg hrow' hv rfl).trans hv, ownRow_abides hr hg hrow'⟩, (grownBy_keeps hg hrow' h.L rfl).trans h.L, (grownBy_keeps hg hrow' h.K rfl).trans h.K,
    h.below.grown hg h.below.size (fun k e => Nat.le_trans hB (hrow k e).1)⟩
theorem grown_putObj (W : World) (l : Nat) (o : Obj) : W.grownBy (W.putObj l o) (some l) :=
  ⟨rfl, rfl, rfl, by simp, fun k _ hk => World.putObj_heap_other (fun e => hk (by rw [e]))⟩
theorem grown_setCell0 (W : World) (b : Nat) (v : Value) : W.grownBy (W.setCell ⟨b, 0, none⟩ v) (some b) :=
  ⟨rfl, rfl, rfl, (KeepsWalks.setCell W _ v).size, fun k _ hk => Below.heap_setCell _ _ _ k (fun e => hk (by rw [e]))⟩
/-- A slice's own row is not a block that holds something else than cells of its element's type. -/
theorem ownRow_ne {W : World} {base : Nat} {e : TypeId} {size : Nat} {v : Value} {k : Nat} {xs : List Value} (h : W.ownsRow base e size v k xs) {j : Nat} {o : Obj} (hj : W.heap[j]? = some o) (hno : ∀ cur, o ≠ .cells cur e (0, 0)) :
    v.ownBlock = none ∨ v.ownBlock ≠ some j := by
  rcases h.2 with ⟨rfl, _⟩ | ⟨g, cap, cur, rfl, _, hgb, _⟩
  · exact .inl rfl
  · refine .inr fun e' => ?_
    have : g = j := by simpa [Value.ownBlock] using e'
    subst this; rw [hgb] at hj; cases hj; exact hno cur rfl
theorem boxed_cell {W : World} {B : Nat} {v : Value} {t : TypeId} (h : W.heap[B]? = some (.cells #[v] t (0, 0))) : W.cell? ⟨B, 0, none⟩ = some v ∧ W.frozen? ⟨B, 0, none⟩ = false := by
  constructor <;> simp [World.cell?, World.frozen?, h]
theorem heap_setBox {W : World} {B : Nat} {v : Value} {t : TypeId} (v' : Value) (h : W.heap[B]? = some (.cells #[v] t (0, 0))) : (W.setCell ⟨B, 0, none⟩ v').heap[B]? = some (.cells #[v'] t (0, 0)) := by
  obtain ⟨hlt, hk⟩ := Array.getElem?_eq_some_iff.1 h
  show (W.heap.modify B _)[B]? = _
  rw [Array.getElem?_eq_getElem (by rw [Array.size_modify]; exact hlt), Array.getElem_modify_self, hk]
  rfl
theorem ownRow_not_walk {W : World} {base : Nat} {e : TypeId} {size : Nat} {v : Value} {k : Nat} {xs : List Value} (h : W.ownsRow base e size v k xs) : ∀ (j : Nat) (o : Obj), v.ownBlock = some j → W.heap[j]? = some o → o.isWalk = false := by
  intro j o hj ho
  rcases h.2 with ⟨rfl, _⟩ | ⟨g, cap, cur, rfl, _, hgb, _⟩
  · simp [Value.ownBlock] at hj
  · have : g = j := by simpa [Value.ownBlock] using hj
    subst this; rw [hgb] at ho; cases ho; rfl

set_option maxHeartbeats 4000000 in
theorem apYieldD (F : Fence) (m : Nat) (w0 : World) (fn : FuncId) (hfn : F.fn fn) (sv : Value) (Bs l Dq : Nat) (hBl : Bs ≠ l) (hDl : Dq ≠ l) (hDB : Dq ≠ Bs) (h0B : w0.heap.size ≤ Bs) (h0l : w0.heap.size ≤ l)
    (ss : List D) (x : D) (W : World) (h : ApAtD w0 fn sv Bs l Dq ss W) (hlen : ss.length < 1000) :
    YieldAt F m Tryd.prog l #[D.v x] W fun e W' => e = .returned (.bool true) ∧ ApAtD w0 fn sv Bs l Dq (ss ++ [x]) W' ∧ KeepsWalks W W' := by
  obtain ⟨i0, hi, hz0, hz1, hz2⟩ := info_parts info_die
  obtain ⟨v, hv, hrow⟩ := h.box
  refine ⟨fn, #[.slice none 0 0, sv, .pointer (some ⟨Bs, 0, none⟩), undef, .slice none 0 0, undef, sv, D.v x, undef, undef, undef, undef, undef], apAssignD, apBodyD, by simpa [apRecD] using run_yield (P := Tryd.prog) (args := #[D.v x]) h.L rfl, roundIn_of_wpIn hfn ?_⟩
  have hl : l < W.heap.size := (Array.getElem?_eq_some_iff.1 h.L).1
  have ID0 : IsD (W.alloc (.cells #[.int .i64 x.t, .int .i64 x.n, .int .i64 x.e, .int .i64 x.s, .int .i64 x.w, .int .i64 x.b] 30)) W.heap.size x 30 := IsD.new
  have hvA : (W.alloc (.cells #[.int .i64 x.t, .int .i64 x.n, .int .i64 x.e, .int .i64 x.s, .int .i64 x.w, .int .i64 x.b] 30)).heap[Bs]? = some (.cells #[v] 40 (0, 0)) := (Below.heap_alloc _ _ _ (Array.getElem?_eq_some_iff.1 hv).1).trans hv
  have hKA : (W.alloc (.cells #[.int .i64 x.t, .int .i64 x.n, .int .i64 x.e, .int .i64 x.s, .int .i64 x.w, .int .i64 x.b] 30)).heap[Dq]? = some (.deferred (some [])) := (Below.heap_alloc _ _ _ (Array.getElem?_eq_some_iff.1 h.K).1).trans h.K
  have hLA : (W.alloc (.cells #[.int .i64 x.t, .int .i64 x.n, .int .i64 x.e, .int .i64 x.s, .int .i64 x.w, .int .i64 x.b] 30)).heap[l]? = some (.loop (apRecD fn sv Bs Dq .ready none)) := (Below.heap_alloc _ _ _ hl).trans h.L
  have hrowA := hrow.alloc (.cells #[.int .i64 x.t, .int .i64 x.n, .int .i64 x.e, .int .i64 x.s, .int .i64 x.w, .int .i64 x.b] 30)
  have hbA := h.below.alloc h.below.size (.cells #[.int .i64 x.t, .int .i64 x.n, .int .i64 x.e, .int .i64 x.s, .int .i64 x.w, .int .i64 x.b] 30)
  have hkA := KeepsWalks.alloc W (.cells #[.int .i64 x.t, .int .i64 x.n, .int .i64 x.e, .int .i64 x.s, .int .i64 x.w, .int .i64 x.b] 30)
  clear h hv hrow
  unfold apAssignD
  gi_wp2_with (rw [Oper.semAt_eq _ _ _ (fun c h => by cases h)]; go_simp; try go_bits)
  generalize W.alloc (.cells #[.int .i64 x.t, .int .i64 x.n, .int .i64 x.e, .int .i64 x.s, .int .i64 x.w, .int .i64 x.b] 30) = WA at ID0 hvA hKA hLA hrowA hbA hkA ⊢
  have hlV : W.heap.size ≠ l := by omega
  generalize W.heap.size = V at ID0 hlV ⊢
  have hbr := run_beginRound (P := Tryd.prog) hLA rfl
  obtain ⟨W3, hW3⟩ : ∃ W3, WA.putObj l (.loop { apRecD fn sv Bs Dq .ready none with state := .busy }) = W3 := ⟨_, rfl⟩
  rw [hW3] at hbr
  have hg3 : WA.grownBy W3 (some l) := by rw [← hW3]; exact grown_putObj _ _ _
  have hk3 : KeepsWalks W W3 := hkA.trans (by rw [← hW3]; exact KeepsWalks.putObj _ hLA rfl)
  have hv3 : W3.heap[Bs]? = some (.cells #[v] 40 (0, 0)) := by rw [← hW3]; exact (World.putObj_heap_other hBl).trans hvA
  have hK3 : W3.heap[Dq]? = some (.deferred (some [])) := by rw [← hW3]; exact (World.putObj_heap_other hDl).trans hKA
  have hL3 : W3.heap[l]? = some (.loop { apRecD fn sv Bs Dq .ready none with state := .busy }) := by rw [← hW3]; exact World.putObj_heap_same (Array.getElem?_eq_some_iff.1 hLA).1
  have hrow3 : W3.ownsRow w0.heap.size 30 6 v ss.length (cellsW ss) := hrowA.kept hg3 (ownRow_ne hrowA hLA (fun cur e => by cases e))
  have hb3 : Below w0.heap.size w0 W3 := hbA.grown hg3 hbA.size (fun k e => by cases e; exact h0l)
  have ID : IsD W3 V x 30 := by
    have : W3.heap[V]? = WA.heap[V]? := by rw [← hW3]; exact World.putObj_heap_other hlV
    exact this.trans ID0
  clear hW3 hg3 hvA hKA hLA hrowA hbA hkA ID0
  refine ⟨W3, hbr, ?_⟩
  clear hbr
  obtain ⟨hc3, hf3⟩ := boxed_cell hv3
  have hBlt3 : Bs < W3.heap.size := (Array.getElem?_eq_some_iff.1 hv3).1
  have hl3 : l < W3.heap.size := (Array.getElem?_eq_some_iff.1 hL3).1
  have hDlt3 : Dq < W3.heap.size := (Array.getElem?_eq_some_iff.1 hK3).1
  obtain ⟨lV, ⟨c0, c1, c2, c3, c4, c5⟩, -⟩ := ID.all
  have ne_of : ∀ {j : Nat} {o : Obj}, W3.heap[j]? = some o → (∀ cur, o ≠ .cells cur 30 (0, 0)) → some j ≠ v.ownBlock := fun hj hno => by
    rcases ownRow_ne hrow3 hj hno with e | e
    · rw [e]; simp
    · exact fun e' => e e'.symm
  have hown4 := hrow3.alloc (.cells #[.int .i64 x.t, .int .i64 x.n, .int .i64 x.e, .int .i64 x.s, .int .i64 x.w, .int .i64 x.b] 30)
  have hb4 := hb3.size
  have HB4 : w0.heap.size ≤ (W3.alloc (.cells #[.int .i64 x.t, .int .i64 x.n, .int .i64 x.e, .int .i64 x.s, .int .i64 x.w, .int .i64 x.b] 30)).heap.size := by simp; omega
  have HN : (W3.alloc (.cells #[.int .i64 x.t, .int .i64 x.n, .int .i64 x.e, .int .i64 x.s, .int .i64 x.w, .int .i64 x.b] 30)).heap[Bs]? = some (.cells #[v] 40 (0, 0)) := (Below.heap_alloc _ _ _ hBlt3).trans hv3
  unfold apBodyD
  gi_wp2_with (first
    | (gi_at_builtin; refine wpListIn_append_own _ rfl _ _ 40 rfl w0.heap.size 30 i0 (.agg #[.int .i64 0, .int .i64 0, .int .i64 0, .int .i64 0, .int .i64 0, .int .i64 0]) 6 48 Tryd.underlying40 hi hz0 hz1 hz2 rfl (by decide) _ _ _ rfl hown4 ⟨W3.heap.size, 0, none⟩ 1 1 (dcells x) rfl rfl (dcells_cell IsD.new) (dcells_one _) (by unfold maxLen; omega) (by omega) HB4 ?_; intro v' w4 hown' hg4 hnil4
       have hv4 : w4.heap[Bs]? = some (.cells #[v] 40 (0, 0)) := (hg4.block Bs (by simp; omega) (ne_of hv3 (fun cur e => by cases e))).trans HN
       obtain ⟨hc4, hf4⟩ := boxed_cell hv4
       obtain ⟨g', cap', rfl, -, -⟩ := own_form hown' (by omega)
       go_frame)
    | (rw [Oper.semAt_eq _ _ _ (fun c h => by cases h)]; go_simp; try go_bits))
  have hL4 : w4.heap[l]? = some (.loop { apRecD fn sv Bs Dq .ready none with state := .busy }) := (hg4.block l (by simp; omega) (ne_of hL3 (fun cur e => by cases e))).trans ((Below.heap_alloc _ _ _ hl3).trans hL3)
  have hK4 : w4.heap[Dq]? = some (.deferred (some [])) := (hg4.block Dq (by simp; omega) (ne_of hK3 (fun cur e => by cases e))).trans ((Below.heap_alloc _ _ _ hDlt3).trans hK3)
  have hb4' : Below w0.heap.size w0 w4 := (hb3.alloc hb3.size _).grown hg4 HB4 (fun k e => (hrow3.lt k e).1)
  have hk4 : KeepsWalks W w4 := (hk3.trans (KeepsWalks.alloc _ _)).trans (KeepsWalks.of_grownBy hg4 (ownRow_not_walk hown4))
  have hne4 := ownRow_ne hown' hv4 (fun cur e => by cases e)
  obtain ⟨w5, hw5⟩ : ∃ w5, w4.setCell ⟨Bs, 0, none⟩ (.slice (some ⟨g', 0, none⟩) (ss.length + 1) cap') = w5 := ⟨_, rfl⟩
  rw [hw5]
  have hg5 : w4.grownBy w5 (some Bs) := by rw [← hw5]; exact grown_setCell0 _ _ _
  have hv5 : w5.heap[Bs]? = some (.cells #[.slice (some ⟨g', 0, none⟩) (ss.length + 1) cap'] 40 (0, 0)) := by rw [← hw5]; exact heap_setBox _ hv4
  have hL5 : w5.heap[l]? = some (.loop { apRecD fn sv Bs Dq .ready none with state := .busy }) := (hg5.block l (Array.getElem?_eq_some_iff.1 hL4).1 (fun e => hBl (by cases e; rfl))).trans hL4
  have hK5 : w5.heap[Dq]? = some (.deferred (some [])) := (hg5.block Dq (Array.getElem?_eq_some_iff.1 hK4).1 (fun e => hDB (by cases e; rfl))).trans hK4
  have hrow5 := hown'.kept hg5 hne4
  have hl5 : l < w5.heap.size := (Array.getElem?_eq_some_iff.1 hL5).1
  have hb5 : Below w0.heap.size w0 w5 := hb4'.grown hg5 hb4'.size (fun k e => by cases e; exact h0B)
  have hk5 : KeepsWalks W w5 := hk4.trans (by rw [← hw5]; exact KeepsWalks.setCell _ _ _)
  clear hw5
  refine ⟨_, _, run_endRound none hL5, rfl, ⟨⟨_, (World.putObj_heap_other hBl).trans hv5, ?_⟩, World.putObj_heap_same hl5, (World.putObj_heap_other hDl).trans hK5, hb5.grown (grown_putObj _ _ _) hb5.size (fun k e => by cases e; exact h0l)⟩, hk5.trans (KeepsWalks.putObj _ hL5 rfl)⟩
  rw [cellsW_append, cellsW_one, List.length_append, List.length_singleton]
  exact hrow5.kept (grown_putObj w5 l _) (ownRow_ne hrow5 hL5 (fun cur e => by cases e))
set_option maxHeartbeats 4000000 in
/-- slices.AppendSeq(nil, seq). -/
theorem appendSeqD_in (F : Fence) (n : Nat) (h1 : F.fn 132) (hro : F.round = none) (hn : 2 ≤ n) (g : Nat) (lb : Array Value) (hFg : F.fn g) (eg : ∀ args w, (callFunc g args).run Tryd.prog w = .ok (.enter g args) w)
    (S : List D → Prop) (N : Nat) (hN : N ≤ 1000) (w : World) (hseq : SeqGives F (n - 1) Tryd.prog g lb D.v S N w) :
    CallsIn F n Tryd.prog 132 #[.slice none 0 0, .func (.func g) #[] lb] w fun e w' => ∃ (v : Value) (ss : List D), e = .returned v ∧ S ss ∧ w'.ownsRow w.heap.size 30 6 v ss.length (cellsW ss) ∧ Below w.heap.size w w' := by
  have h1' : 1 ≤ n := by omega
  refine callsIn_of_wp_marks Tryd.func132 rfl h1 ?_ hro
  simp only [Tryd.ntmps132, List.size_toArray, List.length_cons, List.length_nil, Nat.reduceAdd, Nat.reduceSub, Array.replicate_succ, Array.replicate_zero, List.push_toArray, List.append_toArray, List.nil_append, List.cons_append]
  gi_wp2
  refine wpIn_rangeFunc ?_
  intro fn hfn
  rw [hro]
  obtain ⟨W0, hW0⟩ : ∃ W0, w.alloc (.cells #[.slice none 0 0] 40) = W0 := ⟨_, rfl⟩
  have hs0 : W0.heap.size = w.heap.size + 1 := by rw [← hW0]; simp
  have hv0 : W0.heap[w.heap.size]? = some (.cells #[.slice none 0 0] 40 (0, 0)) := by rw [← hW0]; exact new_block w _
  have hb0 : Below w.heap.size w W0 := by rw [← hW0]; exact (Below.refl _ w).alloc (Nat.le_refl _) _
  rw [hW0]
  obtain ⟨W1, hW1⟩ : ∃ W1, (W0.alloc (.deferred (some []))).alloc (.loop (apRecD fn (.func (.func g) #[] lb) w.heap.size W0.heap.size .ready none)) = W1 := ⟨_, rfl⟩
  have hold : ∀ k, k < W0.heap.size → W1.heap[k]? = W0.heap[k]? := fun k hk => by
    rw [← hW1]; exact (Below.heap_alloc _ _ k (by simp; omega)).trans (Below.heap_alloc _ _ k hk)
  have hb1 : Below w.heap.size w W1 := by rw [← hW1]; exact (hb0.alloc hb0.size _).alloc (by have := hb0.size; simp; omega) _
  have hs1 : W1.heap.size = W0.heap.size + 2 := by rw [← hW1]; simp
  have hM : ApAtD w fn (.func (.func g) #[] lb) w.heap.size (W0.heap.size + 1) W0.heap.size [] W1 :=
    ⟨⟨_, (hold w.heap.size (by omega)).trans hv0, ⟨rfl, .inl ⟨rfl, rfl⟩⟩⟩,
     by rw [← hW1]; have := new_block (W0.alloc (.deferred (some []))) (.loop (apRecD fn (.func (.func g) #[] lb) w.heap.size W0.heap.size .ready none)); rwa [World.size_alloc] at this,
     by rw [← hW1]; exact (Below.heap_alloc _ _ _ (by simp)).trans (new_block W0 _), hb1⟩
  refine ⟨W0.heap.size + 1, [{ target := .collected W0.heap.size, args := #[] }], W1, { target := .fn (.func g) lb, args := #[.func (.yield (W0.heap.size + 1)) #[] #[]] }, W1, g,
    #[.func (.yield (W0.heap.size + 1)) #[] #[]] ++ lb, W1, ?_, ?_, ?_, ?_, fun _ => h1', ?_⟩
  · rw [← hW1]; exact run_enterLoop_outer _ _ _ _ _
  · simp [resolve, go_sem]
  · intro f' hf'; simp [Target.leads] at hf'; subst hf'; exact hFg
  · simp [invoke, go_sem, eg]
  · refine (hseq (W0.heap.size + 1) (ApAtD w fn (.func (.func g) #[] lb) w.heap.size (W0.heap.size + 1) W0.heap.size) W1 hb1 (apD_abides _ _ _ _ _ _ _ hb1.size)
      (fun pre x W hJ hl => apYieldD F (n - 1 - 1) w fn hfn _ w.heap.size (W0.heap.size + 1) W0.heap.size (by omega) (by omega) (by omega) (Nat.le_refl _) (by omega) pre x W hJ (by omega)) hM).mono ?_
    rintro e W2 ⟨⟨v0, rfl⟩, ss, hS, h2⟩
    obtain ⟨v, hv, hrow⟩ := h2.box
    have hend := run_endLoop (P := Tryd.prog) h2.L (by simp [apRecD])
    obtain ⟨W3, hW3⟩ : ∃ W3, W2.putObj (W0.heap.size + 1) (.loop { apRecD fn (.func (.func g) #[] lb) w.heap.size W0.heap.size .ready none with state := .exhausted }) = W3 := ⟨_, rfl⟩
    rw [hW3] at hend
    have hg3 : W2.grownBy W3 (some (W0.heap.size + 1)) := by rw [← hW3]; exact grown_putObj _ _ _
    have hv3 : W3.heap[w.heap.size]? = some (.cells #[v] 40 (0, 0)) := by rw [← hW3]; exact (World.putObj_heap_other (by omega)).trans hv
    have hK3 : W3.heap[W0.heap.size]? = some (.deferred (some [])) := by rw [← hW3]; exact (World.putObj_heap_other (by omega)).trans h2.K
    have hrow3 := hrow.kept hg3 (ownRow_ne hrow h2.L (fun cur e => by cases e))
    have hb3 : Below w.heap.size w W3 := h2.below.grown hg3 h2.below.size (fun k e => by cases e; omega)
    obtain ⟨hc3, hf3⟩ := boxed_cell hv3
    clear hW3
    refine ⟨none, W3, hend, ?_⟩
    gi_wp2
    rw [← hs0]
    refine ⟨by simp, .inl ⟨_, _, rfl, run_takeDeferred hK3, ?_⟩⟩
    exact ⟨_, results_tmp rfl _ _ _, v, ss, rfl, hS, hrow3.kept (grown_putObj _ _ _) (ownRow_ne hrow3 hK3 (fun cur e => by cases e)), hb3.grown (grown_putObj _ _ _) hb3.size (fun k e => by cases e; omega)⟩
end Go.Proofs.YtjikpkembcnfnaaDoor
