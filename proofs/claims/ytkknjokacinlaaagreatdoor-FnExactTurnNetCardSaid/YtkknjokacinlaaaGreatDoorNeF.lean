/- The model of sixes: what spec.neBottoms holds. -/
import Derived.Test.YtkknjokacinlaaaGreatDoorNeC
import Derived.Test.YtkknjokacinlaaaGreatDoorNetP
import Derived.Test.YtkknjokacinlaaaGreatDoorFaces
namespace Go.Proofs.YtkknjokacinlaaaGreatDoor
set_option maxRecDepth 100000
set_option linter.all false
open Go.RowKit

theorem info_dieN : (Tryz.prog.info? 51).map (fun i => (i.zero, i.size, i.bytes)) = some (some (.agg #[.int .i64 0, .int .i64 0, .int .i64 0, .int .i64 0, .int .i64 0, .int .i64 0]), 6, 48) := by kernel_rfl
/-- The cells of a die. -/
def dC (d : D) (i : Nat) : Value := [Value.int .i64 d.t, .int .i64 d.n, .int .i64 d.e, .int .i64 d.s, .int .i64 d.w, .int .i64 d.b].getD i undef
/-- Block b is a row of n dice; those on the cells of Q are Q's. -/
def DiceN (w : World) (b n W : Nat) (Q : List Lg) : Prop := ∃ f, w.rowIs b 51 (n * 6) f ∧ ∀ q ∈ Q, ∀ i, i < 6 → f (ixL W q.1 * 6 + i) = dC q.1.d i
theorem DiceN.lt {w : World} {b n W : Nat} {Q : List Lg} (h : DiceN w b n W Q) : b < w.heap.size := by obtain ⟨f, h1, -⟩ := h; exact h1.lt
theorem DiceN.of_block {w w' : World} {b n W : Nat} {Q : List Lg} (h : DiceN w b n W Q) (e : w'.heap[b]? = w.heap[b]?) : DiceN w' b n W Q := by obtain ⟨f, h1, h2⟩ := h; exact ⟨f, h1.of_block e, h2⟩
theorem DiceN.frozen {w : World} {b n W : Nat} {Q : List Lg} (h : DiceN w b n W Q) (j : Nat) : w.frozen? ⟨b, j, none⟩ = false := by obtain ⟨f, h1, -⟩ := h; exact h1.frozen j
theorem DiceN.has {w : World} {b n W : Nat} {Q : List Lg} (h : DiceN w b n W Q) {j : Nat} (hj : j < n * 6) : ∃ v, w.cell? ⟨b, j, none⟩ = some v := by obtain ⟨f, h1, -⟩ := h; exact ⟨_, h1.cell hj⟩
/-- The six cells of a die. -/
theorem DiceN.cells {w : World} {b n W : Nat} {Q : List Lg} (h : DiceN w b n W Q) {q : Lg} (hq : q ∈ Q) {x : Nat} (hx : ixL W q.1 = x) (hn : x < n) :
    w.cell? ⟨b, x * 6, none⟩ = some (.int .i64 q.1.d.t) ∧ w.cell? ⟨b, x * 6 + 1, none⟩ = some (.int .i64 q.1.d.n) ∧ w.cell? ⟨b, x * 6 + 2, none⟩ = some (.int .i64 q.1.d.e) ∧ w.cell? ⟨b, x * 6 + 3, none⟩ = some (.int .i64 q.1.d.s) ∧ w.cell? ⟨b, x * 6 + 4, none⟩ = some (.int .i64 q.1.d.w) ∧ w.cell? ⟨b, x * 6 + 5, none⟩ = some (.int .i64 q.1.d.b) := by
  obtain ⟨f, h1, h2⟩ := h
  subst hx
  have H : ∀ i, i < 6 → w.cell? ⟨b, ixL W q.1 * 6 + i, none⟩ = some (dC q.1.d i) := fun i hi => by rw [h1.cell (by omega), h2 q hq i hi]
  exact ⟨H 0 (by omega), H 1 (by omega), H 2 (by omega), H 3 (by omega), H 4 (by omega), H 5 (by omega)⟩
/-- A die is written on a new cell. -/
theorem DiceN.put {w : World} {b n W : Nat} {Q : List Lg} (h : DiceN w b n W Q) {p : Lg} {j : Nat} (hj : ixL W p.1 = j) (hm : j ∉ Q.map (fun q => ixL W q.1)) : DiceN ((((((w.setCell ⟨b, j * 6, none⟩ (.int .i64 p.1.d.t)).setCell ⟨b, j * 6 + 1, none⟩ (.int .i64 p.1.d.n)).setCell ⟨b, j * 6 + 2, none⟩ (.int .i64 p.1.d.e)).setCell ⟨b, j * 6 + 3, none⟩ (.int .i64 p.1.d.s)).setCell ⟨b, j * 6 + 4, none⟩ (.int .i64 p.1.d.w)).setCell ⟨b, j * 6 + 5, none⟩ (.int .i64 p.1.d.b)) b n W (Q ++ [p]) := by
  obtain ⟨f, h1, h2⟩ := h
  refine ⟨_, (((((h1.set _ _).set _ _).set _ _).set _ _).set _ _).set _ _, fun q hq i hi => ?_⟩
  rcases List.mem_append.1 hq with hq | hq
  · have hne : ixL W q.1 ≠ j := fun e => hm (List.mem_map.2 ⟨q, hq, e⟩)
    rw [if_neg (by omega), if_neg (by omega), if_neg (by omega), if_neg (by omega), if_neg (by omega), if_neg (by omega)]
    exact h2 q hq i hi
  · rw [List.mem_singleton] at hq
    subst hq
    rw [hj]
    match i, hi with
    | 0, _ => rw [if_neg (by omega), if_neg (by omega), if_neg (by omega), if_neg (by omega), if_neg (by omega), if_pos (by omega)]; rfl
    | 1, _ => rw [if_neg (by omega), if_neg (by omega), if_neg (by omega), if_neg (by omega), if_pos (by omega)]; rfl
    | 2, _ => rw [if_neg (by omega), if_neg (by omega), if_neg (by omega), if_pos (by omega)]; rfl
    | 3, _ => rw [if_neg (by omega), if_neg (by omega), if_pos (by omega)]; rfl
    | 4, _ => rw [if_neg (by omega), if_pos (by omega)]; rfl
    | 5, _ => rw [if_pos (by omega)]; rfl
/-- What neBottoms holds. -/
structure NB (l : List UInt8) (W H n g cap : Nat) (w0 w : World) (f : Nat → Int) (Qd Q : List Lg) (qv : Value) : Prop where
  box : IsGN w w0.heap.size (W : Int) (H : Int) (.slice (some ⟨g, 0, none⟩) n cap)
  byn : ByN w g (flatL l)
  out : w.rowIs (w0.heap.size + 1) 3 n (fun i => .int .i64 (f i))
  dice : DiceN w (w0.heap.size + 2) n W Qd
  que : w.ownsRow (w0.heap.size + 3) 3 1 qv Q.length (ints (natI (Q.map fun q => ixL W q.1)))
  bel : Below w0.heap.size w0 w
theorem NB.to {l : List UInt8} {W H n g cap : Nat} {w0 w x w1 : World} {f : Nat → Int} {Qd Q : List Lg} {qv : Value} (t : NB l W H n g cap w0 w f Qd Q qv) (hb : Below x.heap.size x w1) (e : x.heap = w.heap) (e1 : x.os = w.os) (e2 : x.tape = w.tape) (e3 : x.output = w.output) : NB l W H n g cap w0 w1 f Qd Q qv :=
  ⟨isGN_to hb t.box e, byN_to hb t.byn e, rowIs_to hb t.out e, t.dice.of_block (by have hl := t.dice.lt; rw [hb.block _ (by rw [e]; exact hl), e]), own_to hb t.que e, below_to hb t.bel t.bel.size e e1 e2 e3⟩
theorem NB.put {l : List UInt8} {W H n g cap : Nat} {w0 w : World} {f : Nat → Int} {Qd Q : List Lg} {qv : Value} (t : NB l W H n g cap w0 w f Qd Q qv) (hg : g < w0.heap.size) (j : Nat) (x : Int) : NB l W H n g cap w0 (w.setCell ⟨w0.heap.size + 1, j, none⟩ (.int .i64 x)) (fun i => if i = j then x else f i) Qd Q qv := by
  refine ⟨t.box.other (by show w0.heap.size ≠ w0.heap.size + 1; omega) _, ⟨by have := t.byn.1; simpa using this, fun i c hc => ?_⟩, (t.out.set j _).congr (fun i hi => by show (if i = j then _ else _) = Value.int .i64 (if i = j then _ else _); split <;> rfl), t.dice.of_block (Below.heap_setCell w _ _ _ (by show w0.heap.size + 2 ≠ w0.heap.size + 1; omega)), ?_, t.bel.setCell (p := ⟨w0.heap.size + 1, j, none⟩) (Nat.le_succ _) _⟩
  · rw [World.cell?_setCell_other _ _ _ _ (fun e => by injection e with e1; omega)]
    exact t.byn.2 i c hc
  · exact ownsRow_setCell_below t.que (by show w0.heap.size + 1 < w0.heap.size + 3; omega) _
/-- A store into the dice's block leaves the rest. -/
theorem NB.other {l : List UInt8} {W H n g cap : Nat} {w0 w : World} {f : Nat → Int} {Qd Q : List Lg} {qv : Value} (t : NB l W H n g cap w0 w f Qd Q qv) (hg : g < w0.heap.size) (j : Nat) (v : Value) (Qn : List Lg) (hd : DiceN (w.setCell ⟨w0.heap.size + 2, j, none⟩ v) (w0.heap.size + 2) n W Qn) : NB l W H n g cap w0 (w.setCell ⟨w0.heap.size + 2, j, none⟩ v) f Qn Q qv := by
  refine ⟨t.box.other (by show w0.heap.size ≠ w0.heap.size + 2; omega) _, ⟨by have := t.byn.1; simpa using this, fun i c hc => ?_⟩, t.out.of_block (Below.heap_setCell w _ _ _ (by show w0.heap.size + 1 ≠ w0.heap.size + 2; omega)), hd, ?_, t.bel.setCell (p := ⟨w0.heap.size + 2, j, none⟩) (by show w0.heap.size ≤ w0.heap.size + 2; omega) _⟩
  · rw [World.cell?_setCell_other _ _ _ _ (fun e => by injection e with e1; omega)]
    exact t.byn.2 i c hc
  · exact ownsRow_setCell_below t.que (by show w0.heap.size + 2 < w0.heap.size + 3; omega) _
theorem DiceN.any {w : World} {b n W : Nat} {Q : List Lg} (h : DiceN w b n W Q) (j : Nat) (v : Value) : DiceN (w.setCell ⟨b, j, none⟩ v) b n W [] := by
  obtain ⟨f, h1, -⟩ := h
  exact ⟨_, h1.set j v, fun q hq => by simp at hq⟩
theorem NB.put6 {l : List UInt8} {W H n g cap : Nat} {w0 w : World} {f : Nat → Int} {Qd Q : List Lg} {qv : Value} (t : NB l W H n g cap w0 w f Qd Q qv) (hg : g < w0.heap.size) {p : Lg} {j : Nat} (hj : ixL W p.1 = j) (hm : j ∉ Qd.map (fun q => ixL W q.1)) : NB l W H n g cap w0 ((((((w.setCell ⟨w0.heap.size + 2, j * 6, none⟩ (.int .i64 p.1.d.t)).setCell ⟨w0.heap.size + 2, j * 6 + 1, none⟩ (.int .i64 p.1.d.n)).setCell ⟨w0.heap.size + 2, j * 6 + 2, none⟩ (.int .i64 p.1.d.e)).setCell ⟨w0.heap.size + 2, j * 6 + 3, none⟩ (.int .i64 p.1.d.s)).setCell ⟨w0.heap.size + 2, j * 6 + 4, none⟩ (.int .i64 p.1.d.w)).setCell ⟨w0.heap.size + 2, j * 6 + 5, none⟩ (.int .i64 p.1.d.b)) f (Qd ++ [p]) Q qv := by
  have t1 := t.other hg (j * 6) (.int .i64 p.1.d.t) [] (t.dice.any _ _)
  have t2 := t1.other hg (j * 6 + 1) (.int .i64 p.1.d.n) [] (t1.dice.any _ _)
  have t3 := t2.other hg (j * 6 + 2) (.int .i64 p.1.d.e) [] (t2.dice.any _ _)
  have t4 := t3.other hg (j * 6 + 3) (.int .i64 p.1.d.s) [] (t3.dice.any _ _)
  have t5 := t4.other hg (j * 6 + 4) (.int .i64 p.1.d.w) [] (t4.dice.any _ _)
  exact t5.other hg (j * 6 + 5) (.int .i64 p.1.d.b) (Qd ++ [p]) (t.dice.put hj hm)
theorem NB.push {l : List UInt8} {W H n g cap : Nat} {w0 w w4 : World} {f : Nat → Int} {Qd Q : List Lg} {qv v' : Value} {o : Obj} {q : Lg} (t : NB l W H n g cap w0 w f Qd Q qv) (hg : g < w0.heap.size) (hj : w4.ownsRow (w0.heap.size + 3) 3 1 v' (Q.length + 1) (ints (natI (Q.map fun q => ixL W q.1)) ++ [.int .i64 ((ixL W q.1 : Nat) : Int)])) (hk : (w.alloc o).grownBy w4 qv.ownBlock) : NB l W H n g cap w0 w4 f Qd (Q ++ [q]) v' := by
  have t1 := t.to (w1 := w.alloc o) ((Below.refl _ _).alloc (Nat.le_refl _) o) rfl rfl rfl rfl
  have hne : ∀ j, qv.ownBlock = some j → w0.heap.size + 3 ≤ j := fun j e => (t.que.lt j e).1
  refine ⟨t1.box.kept hk (fun e => by have := hne _ e.symm; omega), t1.byn.kept hk (fun e => by have := hne _ e.symm; omega), t1.out.of_block (hk.block _ t1.out.lt (fun e => by have := hne _ e.symm; omega)), t1.dice.of_block (hk.block _ t1.dice.lt (fun e => by have := hne _ e.symm; omega)), ?_, t1.bel.grown hk t1.bel.size (fun j e => by have := hne j e; omega)⟩
  rw [List.length_append, List.length_singleton, List.map_append, List.map_singleton, natI_snoc, ints_snoc]
  exact hj
theorem NB.said {l : List UInt8} {W H n g cap : Nat} {w0 w : World} {f f' : Nat → Int} {Qd Q : List Lg} {qv : Value} (t : NB l W H n g cap w0 w f Qd Q qv) (e : ∀ i, i < n → f i = f' i) : NB l W H n g cap w0 w f' Qd Q qv :=
  ⟨t.box, t.byn, t.out.congr (fun i hi => by show Value.int .i64 (f i) = Value.int .i64 (f' i); rw [e i hi]), t.dice, t.que, t.bel⟩
theorem NB.first {l : List UInt8} {W H n g cap : Nat} {w0 w : World} {f : Nat → Int} {Qd : List Lg} {q : Lg} {d0 b : Nat} (t : NB l W H n g cap w0 w f Qd [] (.slice none 0 0)) (hd : ixL W q.1 = d0) (hb : w.heap.size = b) : NB l W H n g cap w0 (w.alloc (.cells #[.int .i64 (d0 : Int)] 3)) f Qd [q] (.slice (some ⟨b, 0, none⟩) 1 1) := by
  subst hb
  have t1 := t.to (w1 := w.alloc (.cells #[.int .i64 (d0 : Int)] 3)) ((Below.refl _ _).alloc (Nat.le_refl _) _) rfl rfl rfl rfl
  refine ⟨t1.box, t1.byn, t1.out, t1.dice, ?_, t1.bel⟩
  have := World.ownsRow_lit (base := w0.heap.size + 3) (e := 3) (size := 1) w #[.int .i64 (d0 : Int)] 1 (by have := t.dice.lt; omega) (by unfold maxLen; omega) rfl
  rw [← hd] at this ⊢
  exact this
theorem bot_one {W : Nat} (q : Lg) (d0 : Nat) (h0 : q.1.d.b = 5) (hd : ixL W q.1 = d0) (i : Nat) : (if i = d0 then (5 : Int) else -1) = botI W [q] i := by
  have := botI_snoc (W := W) (Q := []) (q := q) (by simp) i
  rw [List.nil_append] at this
  rw [this, hd, h0]
  rfl
theorem botI_none {l : List UInt8} {W : Nat} {Q : List Lg} (hQ : GoodQ l Q) {i : Nat} : botI W Q i < 0 ↔ i ∉ Q.map (fun q => ixL W q.1) := by
  unfold botI
  cases hf : Q.find? (fun q => ixL W q.1 == i) with
  | none =>
    rw [List.find?_eq_none] at hf
    refine ⟨fun _ hm => ?_, fun _ => by show (-1 : Int) < 0; omega⟩
    obtain ⟨q, hq, e⟩ := List.mem_map.1 hm
    exact hf q hq (beq_iff_eq.2 e)
  | some q =>
    have h1 : ixL W q.1 = i := by have := List.find?_some hf; simpa using this
    have hb := (way_bot (hQ.way q (List.mem_of_find?_eq_some hf))).1
    refine ⟨fun h => ?_, fun h => absurd (List.mem_map.2 ⟨q, List.mem_of_find?_eq_some hf, h1⟩) h⟩
    have h' : q.1.d.b < 0 := h
    omega
theorem botI_lo {l : List UInt8} {W : Nat} {Q : List Lg} (hQ : GoodQ l Q) (i : Nat) : -1 ≤ botI W Q i ∧ botI W Q i < 6 := by
  unfold botI
  cases hf : Q.find? (fun q => ixL W q.1 == i) with
  | none => exact ⟨by show (-1 : Int) ≤ -1; omega, by show (-1 : Int) < 6; omega⟩
  | some q =>
    have hb := way_bot (hQ.way q (List.mem_of_find?_eq_some hf))
    exact ⟨by show -1 ≤ q.1.d.b; omega, by show q.1.d.b < 6; omega⟩
end Go.Proofs.YtkknjokacinlaaaGreatDoor
