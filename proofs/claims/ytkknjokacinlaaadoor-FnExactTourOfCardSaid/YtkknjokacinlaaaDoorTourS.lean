/- The model's search for tours: what it holds in memory, and the plain facts of a round. -/
import Derived.Test.YtkknjokacinlaaaDoorTour
import Derived.Test.YtkknjokacinlaaaDoorPrRoll
import Derived.Test.YtkknjokacinlaaaDoorInts
namespace Go.Proofs.YtkknjokacinlaaaDoor
set_option maxRecDepth 100000
set_option linter.all false
open Go.RowKit

/-- Nothing that was there has turned, but for two blocks. -/
structure Kept (a b : Nat) (w w' : World) : Prop where
  os : w'.os = w.os
  tape : w'.tape = w.tape
  output : w'.output = w.output
  size : w.heap.size ≤ w'.heap.size
  block : ∀ k, k < w.heap.size → k ≠ a → k ≠ b → w'.heap[k]? = w.heap[k]?
theorem Kept.refl (a b : Nat) (w : World) : Kept a b w w := ⟨rfl, rfl, rfl, Nat.le_refl _, fun _ _ _ _ => rfl⟩
theorem Kept.trans {a b : Nat} {w w' w'' : World} (h : Kept a b w w') (k : Kept a b w' w'') : Kept a b w w'' :=
  ⟨k.os.trans h.os, k.tape.trans h.tape, k.output.trans h.output, Nat.le_trans h.size k.size, fun i h1 h2 h3 => (k.block i (Nat.lt_of_lt_of_le h1 h.size) h2 h3).trans (h.block i h1 h2 h3)⟩
theorem Kept.of {a b B : Nat} {w w' : World} (h : Below B w w') (hB : w.heap.size ≤ B) : Kept a b w w' :=
  ⟨h.os, h.tape, h.output, h.size, fun k hk _ _ => h.block k (by omega)⟩
theorem Kept.drew {a b : Nat} {w w' : World} (h : Kept a b w w') : Kept a b w w'.drew := ⟨h.os, h.tape, h.output, h.size, h.block⟩
theorem Kept.drewN {a b n : Nat} {w w' : World} (h : Kept a b w w') : Kept a b w (w'.drewN n) := ⟨h.os, h.tape, h.output, h.size, h.block⟩
theorem Kept.alloc {a b : Nat} {w w' : World} (h : Kept a b w w') (o : Obj) : Kept a b w (w'.alloc o) := h.trans (.of ((Below.refl _ _).alloc (Nat.le_refl _) o) (Nat.le_refl _))
theorem Kept.setA {a b : Nat} {w w' : World} (h : Kept a b w w') (j : Nat) (u : Value) : Kept a b w (w'.setCell ⟨a, j, none⟩ u) :=
  h.trans ⟨rfl, rfl, rfl, by simp [World.setCell], fun k _ h2 _ => Below.heap_setCell _ _ _ _ (fun e => h2 e)⟩
theorem Kept.setB {a b : Nat} {w w' : World} (h : Kept a b w w') (j : Nat) (u : Value) : Kept a b w (w'.setCell ⟨b, j, none⟩ u) :=
  h.trans ⟨rfl, rfl, rfl, by simp [World.setCell], fun k _ _ h3 => Below.heap_setCell _ _ _ _ (fun e => h3 e)⟩
theorem Kept.to {a b : Nat} {w w' x w'' : World} (h : Kept a b w w') (hb : Below x.heap.size x w'') (e1 : x.heap = w'.heap) (e2 : x.os = w'.os) (e3 : x.tape = w'.tape) (e4 : x.output = w'.output) : Kept a b w w'' :=
  h.trans ⟨hb.os.trans e2, hb.tape.trans e3, hb.output.trans e4, by have := hb.size; rw [e1] at this; exact this, fun k hk _ _ => by rw [hb.block k (by rw [e1]; exact hk), e1]⟩
theorem Kept.below {a b B : Nat} {w w' : World} (h : Kept a b w w') (ha : B ≤ a) (hb : B ≤ b) (hw : B ≤ w.heap.size) : Below B w w' :=
  ⟨h.os, h.tape, h.output, h.size, fun k hk => h.block k (by omega) (by omega) (by omega)⟩
theorem isS_kept {a b : Nat} {w w' : World} {c : Nat} {s : St} {ty : TypeId} (h : Kept a b w w') (i : IsS w c s ty) (h1 : c ≠ a) (h2 : c ≠ b) : IsS w' c s ty := (h.block c i.lt h1 h2).trans i

/-- Where a search's fields point. -/
structure TG where
  W : Nat
  H : Nat
  n : Nat
  g : Nat
  cap : Nat
  gl : Nat
  capl : Nat
  gs : Nat
  caps : Nat
/-- Block b is a search, that holds the word f and the numbers. -/
def IsT (w : World) (b : Nat) (G : TG) (left : Nat) (f : List UInt8) (c M : Nat) : Prop := w.heap[b]? = some (.cells #[.int .i64 (G.W : Int), .int .i64 (G.H : Int), .slice (some ⟨G.g, 0, none⟩) G.n G.cap, .slice (some ⟨G.gl, 0, none⟩) G.n G.capl, .slice (some ⟨G.gs, 0, none⟩) G.n G.caps, .int .i64 (left : Int), .string ⟨f.toArray⟩, .int .i64 (c : Int), .int .i64 (M : Int)] 46 (0, 0))
theorem IsT.lt {w : World} {b : Nat} {G : TG} {left : Nat} {f : List UInt8} {c M : Nat} (h : IsT w b G left f c M) : b < w.heap.size := by
  rcases Nat.lt_or_ge b w.heap.size with h' | h'
  · exact h'
  · simp [IsT, Array.getElem?_eq_none h'] at h
theorem IsT.all {w : World} {b : Nat} {G : TG} {left : Nat} {f : List UInt8} {c M : Nat} (h : IsT w b G left f c M) : b < w.heap.size ∧
    (w.cell? ⟨b, 0, none⟩ = some (.int .i64 (G.W : Int)) ∧ w.cell? ⟨b, 1, none⟩ = some (.int .i64 (G.H : Int)) ∧ w.cell? ⟨b, 2, none⟩ = some (.slice (some ⟨G.g, 0, none⟩) G.n G.cap) ∧ w.cell? ⟨b, 3, none⟩ = some (.slice (some ⟨G.gl, 0, none⟩) G.n G.capl) ∧ w.cell? ⟨b, 4, none⟩ = some (.slice (some ⟨G.gs, 0, none⟩) G.n G.caps) ∧ w.cell? ⟨b, 5, none⟩ = some (.int .i64 (left : Int)) ∧ w.cell? ⟨b, 6, none⟩ = some (.string ⟨f.toArray⟩) ∧ w.cell? ⟨b, 7, none⟩ = some (.int .i64 (c : Int)) ∧ w.cell? ⟨b, 8, none⟩ = some (.int .i64 (M : Int))) ∧
    (w.frozen? ⟨b, 5, none⟩ = false ∧ w.frozen? ⟨b, 6, none⟩ = false ∧ w.frozen? ⟨b, 7, none⟩ = false) := by
  refine ⟨h.lt, ?_⟩
  unfold IsT at h
  simp [World.cell?, World.frozen?, h]
theorem IsT.new {w : World} {G : TG} {left : Nat} {f : List UInt8} {c M : Nat} : IsT (w.alloc (.cells #[.int .i64 (G.W : Int), .int .i64 (G.H : Int), .slice (some ⟨G.g, 0, none⟩) G.n G.cap, .slice (some ⟨G.gl, 0, none⟩) G.n G.capl, .slice (some ⟨G.gs, 0, none⟩) G.n G.caps, .int .i64 (left : Int), .string ⟨f.toArray⟩, .int .i64 (c : Int), .int .i64 (M : Int)] 46)) w.heap.size G left f c M := by
  show (w.heap.push _)[w.heap.size]? = _
  simp
theorem IsT.left {w : World} {b : Nat} {G : TG} {left : Nat} {f : List UInt8} {c M : Nat} (h : IsT w b G left f c M) (v : Nat) : IsT (w.setCell ⟨b, 5, none⟩ (.int .i64 (v : Int))) b G v f c M := by
  have := cells_set h 5 (by simp) (.int .i64 (v : Int)); simpa [IsT] using this
theorem IsT.first {w : World} {b : Nat} {G : TG} {left : Nat} {f : List UInt8} {c M : Nat} (h : IsT w b G left f c M) (v : List UInt8) : IsT (w.setCell ⟨b, 6, none⟩ (.string ⟨v.toArray⟩)) b G left v c M := by
  have := cells_set h 6 (by simp) (.string ⟨v.toArray⟩); simpa [IsT] using this
theorem IsT.count {w : World} {b : Nat} {G : TG} {left : Nat} {f : List UInt8} {c M : Nat} (h : IsT w b G left f c M) (v : Nat) : IsT (w.setCell ⟨b, 7, none⟩ (.int .i64 (v : Int))) b G left f v M := by
  have := cells_set h 7 (by simp) (.int .i64 (v : Int)); simpa [IsT] using this
theorem IsT.other {w : World} {b : Nat} {G : TG} {left : Nat} {f : List UInt8} {c M : Nat} (h : IsT w b G left f c M) {p : Addr} (hp : b ≠ p.block) (u : Value) : IsT (w.setCell p u) b G left f c M := (Below.heap_setCell w p u b hp).trans h
theorem isT_to {w w0 w1 : World} {b : Nat} {G : TG} {left : Nat} {f : List UInt8} {c M : Nat} (hb : Below w0.heap.size w0 w1) (h : IsT w b G left f c M) (e : w0.heap = w.heap) : IsT w1 b G left f c M := by
  have hl := h.lt
  have := hb.block b (by rw [e]; exact hl)
  unfold IsT at h ⊢
  rw [this, e]
  exact h

/-- What was seen: where a label was taken away. -/
def seenV (l L : List UInt8) : List Value := List.zipWith (fun a b => Value.bool (decide (a ≠ b))) (splitP l).flatten (splitP L).flatten
/-- A search's memory. -/
structure SL (G : TG) (tb : Nat) (l : List UInt8) (w : World) (L : List UInt8) (m : Nat) (f : List UInt8) (c M : Nat) : Prop where
  t : IsT w tb G m f c M
  sn : w.ownsRow 0 4 1 (.slice (some ⟨G.gs, 0, none⟩) G.n G.caps) G.n (seenV l L)
  A : BytesAt w G.g (splitP (unlab l)).flatten
  AL : BytesAt w G.gl (splitP l).flatten
section
variable {G : TG} {tb : Nat} {l L : List UInt8} {w : World} {m : Nat} {f : List UInt8} {c M : Nat}
theorem SL.to {w1 x : World} (h : SL G tb l w L m f c M) (hb : Below x.heap.size x w1) (e : x.heap = w.heap) : SL G tb l w1 L m f c M :=
  ⟨isT_to hb h.t e, own_to hb h.sn e, bytesAt_to hb h.A e, bytesAt_to hb h.AL e⟩
theorem SL.alloc (h : SL G tb l w L m f c M) (o : Obj) : SL G tb l (w.alloc o) L m f c M := h.to ((Below.refl _ _).alloc (Nat.le_refl _) o) rfl
theorem SL.drew (h : SL G tb l w L m f c M) : SL G tb l w.drew L m f c M := ⟨h.t, h.sn, h.A, h.AL⟩
theorem SL.drewN {n : Nat} (h : SL G tb l w L m f c M) : SL G tb l (w.drewN n) L m f c M := ⟨h.t, h.sn, h.A, h.AL⟩
/-- The search's block, its flags and its bytes lie apart. -/
structure Sep (G : TG) (tb : Nat) : Prop where
  h1 : tb ≠ G.gs
  h2 : G.g ≠ tb
  h3 : G.g ≠ G.gs
  h4 : G.gl ≠ tb
  h5 : G.gl ≠ G.gs
theorem bytes_set {g : Nat} {F : List UInt8} (h : BytesAt w g F) {p : Addr} (hp : g ≠ p.block) (u : Value) : BytesAt (w.setCell p u) g F := by
  obtain ⟨cur, h1, h2⟩ := h
  exact ⟨cur, (Below.heap_setCell w p u g hp).trans h1, h2⟩
theorem SL.setT (h : SL G tb l w L m f c M) (hs : Sep G tb) (j : Nat) (u : Value) {m' : Nat} {f' : List UInt8} {c' : Nat} (ht : IsT (w.setCell ⟨tb, j, none⟩ u) tb G m' f' c' M) : SL G tb l (w.setCell ⟨tb, j, none⟩ u) L m' f' c' M :=
  ⟨ht, ownsRow_setCell_other h.sn (a := ⟨tb, j, none⟩) (by simp [Value.ownBlock]; exact fun e => hs.h1 e.symm) u, bytes_set h.A hs.h2 u, bytes_set h.AL hs.h4 u⟩
theorem SL.mark (h : SL G tb l w L m f c M) (hs : Sep G tb) (p : Nat) (hp : p < G.n) (b : Bool) {L' : List UInt8} (hL : seenV l L' = (seenV l L).set p (.bool b)) : SL G tb l (w.setCell ⟨G.gs, p, none⟩ (.bool b)) L' m f c M :=
  ⟨h.t.other (p := ⟨G.gs, p, none⟩) hs.h1 _, by rw [hL]; exact own_put h.sn p (by omega) _, bytes_set h.A hs.h3 _, bytes_set h.AL hs.h5 _⟩
end

/-- A text out of which labels were taken. -/
structure RelL (l L : List UInt8) (W H : Nat) : Prop where
  el : Even l W
  hl : (splitP l).length = H
  eL : Even L W
  hL : (splitP L).length = H
  at_ : ∀ i : Nat, (splitP L).flatten[i]? = (splitP l).flatten[i]? ∨ (∃ c, (splitP l).flatten[i]? = some c ∧ isDig c = true ∧ (splitP L).flatten[i]? = some 46)
theorem RelL.refl {l : List UInt8} {W H : Nat} (h : Even l W) (hH : (splitP l).length = H) : RelL l l W H := ⟨h, hH, h, hH, fun _ => .inl rfl⟩
theorem seen_self (l : List UInt8) : seenV l l = List.replicate (splitP l).flatten.length (.bool false) := by
  unfold seenV
  generalize (splitP l).flatten = F
  induction F with
  | nil => rfl
  | cons a r ih =>
    rw [List.zipWith_cons_cons, ih, List.length_cons, List.replicate_succ]
    simp
theorem zip_set {l F : List UInt8} {p : Nat} {a b : UInt8} (hl : l[p]? = some a) (hF : p < F.length) :
    List.zipWith (fun a b => Value.bool (decide (a ≠ b))) l (F.set p b) = (List.zipWith (fun a b => Value.bool (decide (a ≠ b))) l F).set p (.bool (decide (a ≠ b))) := by
  induction l generalizing F p with
  | nil => simp at hl
  | cons x l ih =>
    cases F with
    | nil => simp at hF
    | cons y F =>
      cases p with
      | zero =>
        simp only [List.getElem?_cons_zero, Option.some.injEq] at hl
        subst hl
        simp
      | succ p =>
        simp only [List.getElem?_cons_succ] at hl
        simp only [List.set_cons_succ, List.zipWith_cons_cons]
        rw [ih hl (by simpa using hF)]
section
variable {l L : List UInt8} {W H : Nat} {r : St}
theorem lab_hit (h : RelL l L W H) (h0 : 0 ≤ r.d.t) (h9 : r.d.t ≤ 9) (hl : labAtB L r = true) : hitAt l r = true ∧ ∃ x y : Nat, r.x = (x : Int) ∧ r.y = (y : Int) ∧ x < W ∧ y < H ∧ cellI (splitP l) (x : Int) (y : Int) = lab r.d.t ∧ cellI (splitP L) (x : Int) (y : Int) = lab r.d.t := by
  obtain ⟨x, y, hx, hy, hxW, hyH, -⟩ := lab_in h.eL h.hL h0 h9 hl
  have c1 := cellI_flat h.eL (k := y) (j := x) (by have := h.hL; omega) hxW
  have c0 := cellI_flat h.el (k := y) (j := x) (by have := h.hl; omega) hxW
  have hl2 := hl
  unfold labAtB labB at hl2
  rw [decide_eq_true_eq, hx, hy] at hl2
  have hlab : cellI (splitP L) (x : Int) (y : Int) = lab r.d.t := by
    apply UInt8.toNat_inj.1
    have := lab_nat h0 h9
    omega
  have e : cellI (splitP l) (x : Int) (y : Int) = lab r.d.t := by
    rcases h.at_ (y * W + x) with h1 | ⟨c, h1, h2, h3⟩
    · rw [c1, c0] at h1
      injection h1 with h1
      rw [← h1, hlab]
    · rw [c1, hlab] at h3
      injection h3 with h3
      have := lab_dig h0 h9
      rw [h3] at this
      exact absurd this (by decide)
  refine ⟨?_, x, y, hx, hy, hxW, hyH, e, hlab⟩
  unfold hitAt hitB
  rw [hx, hy, e]
  have e2 : labB (lab r.d.t) r.d.t = true := by unfold labB; rw [decide_eq_true_eq]; exact lab_nat h0 h9
  rw [e2, Bool.or_true]
theorem no_hit (h : RelL l L W H) (h0 : 0 ≤ r.d.t) (h9 : r.d.t ≤ 9) (hh : hitAt l r = false) : labAtB L r = false := by
  cases hl : labAtB L r
  · rfl
  · have := (lab_hit h h0 h9 hl).1
    rw [hh] at this
    cases this
/-- A state that is rolled to and matches: its cell, whether it was seen, and whether it is a label that is left. -/
theorem hit_cell (h : RelL l L W H) {n : Nat} (hg : GridOk (unlab l) W H n) (h0 : 0 ≤ r.d.t) (h9 : r.d.t ≤ 9) (hh : hitAt l r = true) : ∃ (x y : Nat) (c c1 : UInt8), r.x = (x : Int) ∧ r.y = (y : Int) ∧ x < W ∧ y < H ∧ y * W + x < n ∧
    (splitP l).flatten[y * W + x]? = some c ∧ (splitP L).flatten[y * W + x]? = some c1 ∧ (seenV l L)[y * W + x]? = some (.bool (decide (c ≠ c1))) ∧
    labAtB L r = (!decide (c ≠ c1) && isDig c) ∧
    (labAtB L r = true → RelL l (putC W L r 46) W H ∧ seenV l (putC W L r 46) = (seenV l L).set (y * W + x) (.bool true) ∧ seenV l L = (seenV l (putC W L r 46)).set (y * W + x) (.bool false)) := by
  obtain ⟨x, y, hx, hy, hxW, hyH⟩ := floor_in hg (hit_floor h0 h9 hh)
  have c1 := cellI_flat h.eL (k := y) (j := x) (by have := h.hL; omega) hxW
  have c0 := cellI_flat h.el (k := y) (j := x) (by have := h.hl; omega) hxW
  have hfl : (splitP l).flatten.length = n := (lab_facts hg).2.2
  have hp : y * W + x < n := by
    have := (List.getElem?_eq_some_iff.1 c0).1
    omega
  generalize hc : cellI (splitP l) (x : Int) (y : Int) = c at c0
  generalize hd : cellI (splitP L) (x : Int) (y : Int) = d at c1
  have hla : labAtB L r = (!decide (c ≠ d) && isDig c) := by
    have hLd : labAtB L r = labB d r.d.t := by unfold labAtB; rw [hx, hy, hd]
    have hHc : hitB c r.d.t = true := by unfold hitAt at hh; rw [hx, hy, hc] at hh; exact hh
    rw [hLd]
    by_cases e : c = d
    · subst e
      simp only [ne_eq, not_true_eq_false, decide_false, Bool.not_false, Bool.true_and]
      cases hdg : isDig c
      · unfold labB
        rw [decide_eq_false_iff_not]
        intro e2
        unfold isDig at hdg
        rw [decide_eq_false_iff_not] at hdg
        omega
      · unfold hitB at hHc
        rw [Bool.or_eq_true, decide_eq_true_eq] at hHc
        rcases hHc with h46 | h46
        · unfold isDig at hdg
          rw [decide_eq_true_eq] at hdg
          omega
        · exact h46
    · have : d = 46 := by
        rcases h.at_ (y * W + x) with h1 | ⟨c', h1, h2, h3⟩
        · rw [c1, c0] at h1
          injection h1 with h1
          exact absurd h1.symm e
        · rw [c1] at h3
          injection h3
      subst this
      simp only [ne_eq, e, not_false_eq_true, decide_true, Bool.not_true, Bool.false_and]
      unfold labB
      rw [decide_eq_false_iff_not]
      have : ((46 : UInt8).toNat : Int) = 46 := rfl
      omega
  refine ⟨x, y, c, d, hx, hy, hxW, hyH, hp, c0, c1, ?_, hla, ?_⟩
  · unfold seenV
    rw [List.getElem?_zipWith, c0, c1]
  · intro hl
    rw [hla, Bool.and_eq_true, Bool.not_eq_true', decide_eq_false_iff_not] at hl
    have hcd : c = d := by have := hl.1; exact Decidable.of_not_not this
    subst hcd
    have hdg := hl.2
    rw [put_of hx hy]
    have hyL : y < (splitP L).length := by have := h.hL; omega
    obtain ⟨e1, e2, e3⟩ := put_even h.eL (y := y) (x := x) hyL hxW 46 (by decide)
    have hpF : y * W + x < (splitP L).flatten.length := (List.getElem?_eq_some_iff.1 c1).1
    have hc46 : c ≠ 46 := by intro e; subst e; exact absurd hdg (by decide)
    have hs1 : seenV l (L.set (y * (W + 1) + x) 46) = (seenV l L).set (y * W + x) (.bool true) := by
      unfold seenV
      rw [e3, zip_set c0 hpF]
      simp [hc46]
    refine ⟨⟨h.el, h.hl, e1, by rw [e2]; exact h.hL, fun i => ?_⟩, hs1, ?_⟩
    · rw [e3]
      by_cases hi : i = y * W + x
      · subst hi
        exact .inr ⟨c, c0, hdg, by rw [List.getElem?_set_self hpF]⟩
      · rw [List.getElem?_set_ne (fun e => hi e.symm)]
        exact h.at_ i
    · rw [hs1, List.set_set]
      have hv : (seenV l L)[y * W + x]? = some (.bool false) := by
        unfold seenV
        rw [List.getElem?_zipWith, c0, c1]
        simp
      obtain ⟨hq, he⟩ := List.getElem?_eq_some_iff.1 hv
      rw [← he]
      exact (List.set_getElem_self hq).symm
end

/-- The first word that a search holds behind some tours. -/
def fstT (f : List UInt8) (c : Nat) (T : List (List UInt8)) : List UInt8 := if c = 0 then T.headD f else f
theorem fstT_nil (f : List UInt8) (c : Nat) : fstT f c [] = f := by unfold fstT; split <;> rfl
theorem fstT_app (f : List UInt8) (c M : Nat) (P Q : List (List UInt8)) (hM : min M (c + P.length) < M) : fstT (fstT f c P) (min M (c + P.length)) Q = fstT f c (P ++ Q) := by
  have hm : min M (c + P.length) = c + P.length := by omega
  rw [hm]
  unfold fstT
  by_cases hc : c = 0
  · subst hc
    cases P with
    | nil => simp
    | cons a P => simp
  · rw [if_neg hc, if_neg (by omega), if_neg hc]
theorem fstT_full (f : List UInt8) (c M : Nat) (P Q : List (List UInt8)) (h : c < M) (hM : ¬ min M (c + P.length) < M) : fstT f c P = fstT f c (P ++ Q) ∧ min M (c + P.length) = min M (c + (P ++ Q).length) := by
  refine ⟨?_, by rw [List.length_append]; omega⟩
  unfold fstT
  by_cases hc : c = 0
  · subst hc
    cases P with
    | nil => simp at hM; omega
    | cons a P => simp
  · rw [if_neg hc, if_neg hc]
end Go.Proofs.YtkknjokacinlaaaDoor
