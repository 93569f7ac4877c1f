/- Pairs of a die; the walk of the law of PairsOf. -/
import Derived.Test.YtkiocklkpnjejaaSS
import Derived.Test.YtkiocklkpnjejaaGood
import Derived.Test.YtkiocklkpnjejaaShelf
import Derived.Sort.OwnSortedInts
namespace Go.Proofs.Ytkiocklkpnjejaa
set_option maxRecDepth 100000
set_option linter.all false
open Go.RowKit

/-- Two numbers, the lesser one first. -/
def pr (a b : Int) : List Int := if b < a then [b, a] else [a, b]
def pairsL (d : D) : List (List Int) := [pr d.n d.s, pr d.e d.w, pr d.t d.b]
theorem pr_len (a b : Int) : (pr a b).length = 2 := by unfold pr; split <;> rfl
theorem pr_sorted (a b : Int) : ([a, b].mergeSort fun x y => decide (x ≤ y)) = pr a b := by
  refine List.Perm.eq_of_pairwise (le := fun a b : Int => decide (a ≤ b) = true) (fun a b _ _ h1 h2 => by simp at h1 h2; omega) (List.pairwise_mergeSort (le := fun x y : Int => decide (x ≤ y)) (fun a b c h1 h2 => by simp at h1 h2 ⊢; omega) (fun a b => by simp; omega) _) ?_ ((List.mergeSort_perm _ _).trans ?_)
  · unfold pr
    split <;> simp <;> omega
  · unfold pr
    split
    · exact List.Perm.swap _ _ _
    · exact List.Perm.refl _
def pA (a b : Int) : Int := if b < a then b else a
def pB (a b : Int) : Int := if b < a then a else b
theorem pr_eq (a b : Int) : pr a b = [pA a b, pB a b] := by unfold pr pA pB; split <;> rfl
def ppL (d : D) : List (List Int) := if goodB d = true then pairsL d else []
theorem ppL_len (d : D) : (ppL d).length ≤ 100000 ∧ sumL (ppL d) ≤ 100000 := by
  unfold ppL
  split
  · simp [pairsL, sumL, pr_len]
  · simp [sumL]
theorem one_slice {w : World} {B n : Nat} {u : Value} {xs : List Value} {e : TypeId} {z : Nat} (h : w.ownsRow B e z u n xs) : u.oneCell' = true := by
  obtain ⟨p, c, rfl⟩ := int_form h
  rfl
theorem isD_below {w w1 : World} {B b : Nat} {d : D} {ty : TypeId} (hb : Below B w w1) (h : IsD w b d ty) (hl : b < B) : IsD w1 b d ty := by
  unfold IsD at h ⊢
  rw [hb.block b hl]
  exact h
theorem two_cells {w : World} {b : Nat} {x y : Int} {ty : TypeId} (h : w.heap[b]? = some (.cells #[.int .i64 x, .int .i64 y] ty (0, 0))) : ∀ j, j < [x, y].length → w.cell? ⟨b, 0 + j, none⟩ = some (.int .i64 ([x, y].getD j 0)) := by
  intro j hj
  have hj2 : j = 0 ∨ j = 1 := by simp at hj; omega
  rcases hj2 with rfl | rfl <;> simp [World.cell?, h]
def PpPost (d : D) (w : World) (e : Ending) (w' : World) : Prop := ∃ v, e = .returned (.tuple #[v, .bool (goodB d)]) ∧ SS w' w.heap.size w'.heap.size v (ppL d) ∧ Below w.heap.size w w'
theorem clPair_any (a b : Int) (w : World) : Calls Try.prog 99 #[.int .i64 a, .int .i64 b] w fun e w' => e = .returned (.slice (some ⟨w.heap.size, 0, none⟩) 2 2) ∧ w.alloc (.cells #[.int .i64 (pA a b), .int .i64 (pB a b)] 3) = w' := by
  unfold pA pB
  by_cases h : b < a
  · rw [if_pos h, if_pos h]
    go_enter Try.func99, Try.ntmps99
    go_wp2
    go_returns
    exact ⟨rfl, rfl⟩
  · rw [if_neg h, if_neg h]
    go_enter Try.func99, Try.ntmps99
    go_wp2
    go_returns
    exact ⟨rfl, rfl⟩
/-- A row built at once. -/
theorem own_built (w : World) (base : Nat) (cs : Array Value) (ty : TypeId) (hb : base ≤ w.heap.size) (hm : cs.size ≤ maxLen) : (w.alloc (.cells cs ty)).ownsRow base ty 1 (.slice (some ⟨w.heap.size, 0, none⟩) cs.size cs.size) cs.size cs.toList :=
  ⟨by simp, .inr ⟨w.heap.size, cs.size, cs, rfl, hb, by show (w.heap.push _)[w.heap.size]? = _; simp, Nat.le_refl _, hm, by simp, List.take_of_length_le (by simp)⟩⟩
/-- Three rows of two, and the row of them. -/
theorem ss_three (w : World) (a b c d e f : Int) (base : Nat) (hb : base ≤ w.heap.size) :
    SS ((((w.alloc (.cells #[.int .i64 a, .int .i64 b] 3)).alloc (.cells #[.int .i64 c, .int .i64 d] 3)).alloc (.cells #[.int .i64 e, .int .i64 f] 3)).alloc (.cells #[.slice (some ⟨w.heap.size, 0, none⟩) 2 2, .slice (some ⟨w.heap.size + 1, 0, none⟩) 2 2, .slice (some ⟨w.heap.size + 2, 0, none⟩) 2 2] 27)) base (w.heap.size + 4) (.slice (some ⟨w.heap.size + 3, 0, none⟩) 3 3) [[a, b], [c, d], [e, f]] := by
  have m1 := own_built w base #[.int .i64 a, .int .i64 b] 3 hb (by simp [maxLen])
  have m2 := own_built (w.alloc (.cells #[.int .i64 a, .int .i64 b] 3)) base #[.int .i64 c, .int .i64 d] 3 (by simp; omega) (by simp [maxLen])
  have m3 := own_built ((w.alloc (.cells #[.int .i64 a, .int .i64 b] 3)).alloc (.cells #[.int .i64 c, .int .i64 d] 3)) base #[.int .i64 e, .int .i64 f] 3 (by simp; omega) (by simp [maxLen])
  have m4 := own_built (((w.alloc (.cells #[.int .i64 a, .int .i64 b] 3)).alloc (.cells #[.int .i64 c, .int .i64 d] 3)).alloc (.cells #[.int .i64 e, .int .i64 f] 3)) base #[.slice (some ⟨w.heap.size, 0, none⟩) 2 2, .slice (some ⟨w.heap.size + 1, 0, none⟩) 2 2, .slice (some ⟨w.heap.size + 2, 0, none⟩) 2 2] 27 (by simp; omega) (by simp [maxLen])
  simp only [World.size_alloc] at m2 m3 m4
  have ob : ∀ (g n c : Nat) (x : Nat), (Value.slice (some ⟨g, 0, none⟩) n c).ownBlock = some x → x = g := fun g n c x h => (Option.some.inj h).symm
  refine ⟨[.slice (some ⟨w.heap.size, 0, none⟩) 2 2, .slice (some ⟨w.heap.size + 1, 0, none⟩) 2 2, .slice (some ⟨w.heap.size + 2, 0, none⟩) 2 2], rfl, m4, fun g hg => by have := ob _ _ _ _ hg; omega, ?_, ?_⟩
  · intro i l u hl hu
    match i, hl, hu with
    | 0, hl, hu =>
      simp at hl hu
      subst hl; subst hu
      exact ⟨((m1.alloc _).alloc _).alloc _, fun g hg => by have := ob _ _ _ _ hg; omega, fun g hg hv => by have := ob _ _ _ _ hg; have := ob _ _ _ _ hv; omega⟩
    | 1, hl, hu =>
      simp at hl hu
      subst hl; subst hu
      exact ⟨(m2.alloc _).alloc _, fun g hg => by have := ob _ _ _ _ hg; omega, fun g hg hv => by have := ob _ _ _ _ hg; have := ob _ _ _ _ hv; omega⟩
    | 2, hl, hu =>
      simp at hl hu
      subst hl; subst hu
      exact ⟨m3.alloc _, fun g hg => by have := ob _ _ _ _ hg; omega, fun g hg hv => by have := ob _ _ _ _ hg; have := ob _ _ _ _ hv; omega⟩
    | i + 3, hl, _ => simp at hl
  · intro i j u u' hij hu hu' g hg hg'
    have aux : ∀ (k : Nat) (x : Value), ([.slice (some ⟨w.heap.size, 0, none⟩) 2 2, .slice (some ⟨w.heap.size + 1, 0, none⟩) 2 2, .slice (some ⟨w.heap.size + 2, 0, none⟩) 2 2] : List Value)[k]? = some x → x = .slice (some ⟨w.heap.size + k, 0, none⟩) 2 2 := by
      intro k x hx
      match k, hx with
      | 0, hx => simp at hx; subst hx; rfl
      | 1, hx => simp at hx; subst hx; rfl
      | 2, hx => simp at hx; subst hx; rfl
      | k + 3, hx => simp at hx
    rw [aux i u hu] at hg
    rw [aux j u' hu'] at hg'
    have h1 := ob _ _ _ _ hg
    have h2 := ob _ _ _ _ hg'
    omega
set_option maxHeartbeats 1600000 in
theorem clPairs_any (d : D) (w : World) : Calls Try.prog 75 #[D.v d] w fun e w' => ∃ v, e = .returned v ∧ SS w' w.heap.size w'.heap.size v (pairsL d) ∧ Below w.heap.size w w' := by
  have X := IsD.new (w := w) (d := d) (ty := 30)
  obtain ⟨lx, ⟨c0, c1, c2, c3, c4, c5⟩, -⟩ := X.all
  have HX := hide X
  have hss := (ss_three (w.alloc (.cells #[.int .i64 d.t, .int .i64 d.n, .int .i64 d.e, .int .i64 d.s, .int .i64 d.w, .int .i64 d.b] 30)) (pA d.n d.s) (pB d.n d.s) (pA d.e d.w) (pB d.e d.w) (pA d.t d.b) (pB d.t d.b) w.heap.size (by simp))
  simp only [World.size_alloc] at hss
  have HSS := hide hss
  clear hss
  have HPL := hide (show pairsL d = [[pA d.n d.s, pB d.n d.s], [pA d.e d.w, pB d.e d.w], [pA d.t d.b, pB d.t d.b]] from by unfold pairsL; rw [pr_eq, pr_eq, pr_eq])
  clear X
  go_enter Try.func75, Try.ntmps75
  go_upto_region 1 with (fail)
  go_region_held3 (fun w' => w'.cell? ⟨w.heap.size, 0, none⟩ = some (.int .i64 d.t) ∧ w'.cell? ⟨w.heap.size, 1, none⟩ = some (.int .i64 d.n) ∧ w'.cell? ⟨w.heap.size, 2, none⟩ = some (.int .i64 d.e) ∧ w'.cell? ⟨w.heap.size, 3, none⟩ = some (.int .i64 d.s) ∧ w'.cell? ⟨w.heap.size, 4, none⟩ = some (.int .i64 d.w) ∧ w'.cell? ⟨w.heap.size, 5, none⟩ = some (.int .i64 d.b))
    (first | exact HX.out.cells.1 | exact (HX.out.alloc _).cells.1 | exact ((HX.out.alloc _).alloc _).cells.1 | exact (((HX.out.alloc _).alloc _).alloc _).cells.1 | exact ((((HX.out.alloc _).alloc _).alloc _).alloc _).cells.1)
    (first | (go_at_call 99; (refine (clPair_any _ _ _).mono ?_); rintro e w1 ⟨rfl, rfl⟩))
  go_wp2
  go_returns
  exact ⟨_, rfl, by rw [HPL.out]; exact ss_mono HSS.out (Nat.le_refl _) (by simp), by go_grown⟩
/-- What the program's pairsOf hands back. -/
def pairsV (d : D) : Value := .agg #[.int .i64 (pA d.n d.s), .int .i64 (pB d.n d.s), .int .i64 (pA d.e d.w), .int .i64 (pB d.e d.w), .int .i64 (pA d.t d.b), .int .i64 (pB d.t d.b)]
/-- The numbers of the pairs, the first k pairs sorted. -/
def srK (d : D) : Nat → List Int
  | 0 => [d.n, d.s, d.e, d.w, d.t, d.b]
  | 1 => [pA d.n d.s, pB d.n d.s, d.e, d.w, d.t, d.b]
  | 2 => [pA d.n d.s, pB d.n d.s, pA d.e d.w, pB d.e d.w, d.t, d.b]
  | _ => [pA d.n d.s, pB d.n d.s, pA d.e d.w, pB d.e d.w, pA d.t d.b, pB d.t d.b]
/-- The k-th pair, not sorted. -/
def rwK (d : D) : Nat → List Int
  | 0 => [d.n, d.s]
  | 1 => [d.e, d.w]
  | _ => [d.t, d.b]
theorem rwK_len (d : D) (k : Nat) : (rwK d k).length = 2 := by unfold rwK; split <;> rfl
def IsR6 (w : World) (b : Nat) (L : List Int) : Prop := w.heap[b]? = some (.cells (ints L).toArray 87 (0, 0))
theorem holds_pair (d : D) (k : Nat) (hk : k < 3) {w : World} {b : Nat} (h : IsR6 w b (srK d k)) : Sort.Holds (Value.int .i64) w b (k * 2) (rwK d k).toArray := by
  intro j hj
  rw [List.size_toArray, rwK_len] at hj
  unfold IsR6 at h
  have hk' : k = 0 ∨ k = 1 ∨ k = 2 := by omega
  have hj' : j = 0 ∨ j = 1 := by omega
  rcases hk' with rfl | rfl | rfl <;> rcases hj' with rfl | rfl <;> simp [World.cell?, World.frozen?, h, ints, srK, rwK]
theorem sorted_pair (d : D) (k : Nat) : ((rwK d k).mergeSort fun x y => decide (x ≤ y)) = match k with | 0 => [pA d.n d.s, pB d.n d.s] | 1 => [pA d.e d.w, pB d.e d.w] | _ => [pA d.t d.b, pB d.t d.b] := by
  unfold rwK
  split <;> rw [pr_sorted, pr_eq]
theorem put_pair (d : D) (k : Nat) (hk : k < 3) {w : World} {b n : Nat} {os : Array Obj} (h : IsR6 w b (srK d k)) : IsR6 (Sort.grow (Sort.putRow (Value.int .i64) (Sort.ahead w n) b (k * 2) ((rwK d k).mergeSort fun x y => decide (x ≤ y)).toArray) os) b (srK d (k + 1)) := by
  have hb := lt_of_block h
  unfold IsR6 at h ⊢
  rw [Sort.heap_grow_old _ _ (by simpa using hb), sorted_pair]
  have hk' : k = 0 ∨ k = 1 ∨ k = 2 := by omega
  rcases hk' with rfl | rfl | rfl <;> simp [Sort.putRow, Sort.mapBlock, Sort.ahead, Array.getElem?_modify, h, Sort.onCells, Sort.putCells, srK, ints]
theorem below_sorted {w : World} {B b n off : Nat} {os : Array Obj} (d : Array Int) (hb : B ≤ b) (hB : B ≤ w.heap.size) : Below B w (Sort.grow (Sort.putRow (Value.int .i64) (Sort.ahead w n) b off d) os) :=
  ⟨rfl, rfl, rfl, by simp [Sort.grow, Sort.putRow, Sort.mapBlock, Sort.ahead], fun k hk => by
    rw [Sort.heap_grow_old _ _ (by simp; omega)]
    have : b ≠ k := by omega
    simp [Sort.putRow, Sort.mapBlock, Sort.ahead, Array.getElem?_modify, this]⟩
theorem isR6_kept {w : World} {b b2 n off : Nat} {os : Array Obj} {L : List Int} (d : Array Int) (h : IsR6 w b2 L) (hne : b ≠ b2) : IsR6 (Sort.grow (Sort.putRow (Value.int .i64) (Sort.ahead w n) b off d) os) b2 L := by
  have hb := lt_of_block h
  unfold IsR6 at h ⊢
  rw [Sort.heap_grow_old _ _ (by simpa using hb)]
  simpa [Sort.putRow, Sort.mapBlock, Sort.ahead, Array.getElem?_modify, hne] using h
def srD (d : D) : D := ⟨pA d.n d.s, pB d.n d.s, pA d.e d.w, pB d.e d.w, pA d.t d.b, pB d.t d.b⟩
theorem isR6_d {w : World} {b : Nat} {d : D} (h : IsR6 w b (srK d 3)) : IsD w b (srD d) 87 := h
theorem load_six {w : World} {b : Nat} {d : D} (h : IsD w b d 87) : (loadVar 87 ⟨b, 0, none⟩).run Try.prog w = .ok (D.v d) w := by
  obtain ⟨⟨c0, c1, c2, c3, c4, c5⟩, _⟩ := h.cells
  simp [go_sem, c0, c1, c2, c3, c4, c5]
set_option maxRecDepth 100000 in
theorem ret_six {fn : Func} {p : Tmp} {tmps : Array Value} {w : World} {b : Nat} {d : D} (h : fn.results = #[.cell p 87]) (hp : tmps.getD p undef = .pointer (some ⟨b, 0, none⟩)) (hd : IsD w b d 87) : (results fn tmps).run Try.prog w = .ok (D.v d) w := by
  rw [results_cell h, hp]
  exact load_six hd
theorem isR6_to {w w0 w1 : World} {b : Nat} {L : List Int} (hb : Below w0.heap.size w0 w1) (h : IsR6 w b L) (e : w0.heap = w.heap) : IsR6 w1 b L := by
  have hl := lt_of_block h
  unfold IsR6 at h ⊢
  rw [hb.block b (by rw [e]; exact hl), e]
  exact h
set_option maxHeartbeats 1600000 in
theorem pairsOf_any (d : D) (w : World) : Calls Try.prog 76 #[D.v d] w fun e w' => e = .returned (pairsV d) ∧ Below w.heap.size w w' := by
  go_enter Try.func76, Try.ntmps76
  have hr := (show IsR6 (((w.alloc (.cells #[.int .i64 d.t, .int .i64 d.n, .int .i64 d.e, .int .i64 d.s, .int .i64 d.w, .int .i64 d.b] 30)).alloc (.cells #[.int .i64 0, .int .i64 0, .int .i64 0, .int .i64 0, .int .i64 0, .int .i64 0] 87)).alloc (.cells #[.int .i64 d.n, .int .i64 d.s, .int .i64 d.e, .int .i64 d.w, .int .i64 d.t, .int .i64 d.b] 87)) (w.heap.size + 1 + 1) (srK d 0) from by
    show (World.heap (World.alloc _ _))[_]? = _
    have := IsD.new (w := (w.alloc (.cells #[.int .i64 d.t, .int .i64 d.n, .int .i64 d.e, .int .i64 d.s, .int .i64 d.w, .int .i64 d.b] 30)).alloc (.cells #[.int .i64 0, .int .i64 0, .int .i64 0, .int .i64 0, .int .i64 0, .int .i64 0] 87)) (d := ⟨d.n, d.s, d.e, d.w, d.t, d.b⟩) (ty := 87)
    simpa [IsD, ints, srK] using this)
  have hz := (show IsD (((w.alloc (.cells #[.int .i64 d.t, .int .i64 d.n, .int .i64 d.e, .int .i64 d.s, .int .i64 d.w, .int .i64 d.b] 30)).alloc (.cells #[.int .i64 0, .int .i64 0, .int .i64 0, .int .i64 0, .int .i64 0, .int .i64 0] 87)).alloc (.cells #[.int .i64 d.n, .int .i64 d.s, .int .i64 d.e, .int .i64 d.w, .int .i64 d.t, .int .i64 d.b] 87)) (w.heap.size + 1) zeroD 87 from by
    have := (IsD.new (w := w.alloc (.cells #[.int .i64 d.t, .int .i64 d.n, .int .i64 d.e, .int .i64 d.s, .int .i64 d.w, .int .i64 d.b] 30)) (d := zeroD) (ty := 87)).alloc (.cells #[.int .i64 d.n, .int .i64 d.s, .int .i64 d.e, .int .i64 d.w, .int .i64 d.t, .int .i64 d.b] 87)
    simpa [zeroD] using this)
  have hq : Below w.heap.size w (((w.alloc (.cells #[.int .i64 d.t, .int .i64 d.n, .int .i64 d.e, .int .i64 d.s, .int .i64 d.w, .int .i64 d.b] 30)).alloc (.cells #[.int .i64 0, .int .i64 0, .int .i64 0, .int .i64 0, .int .i64 0, .int .i64 0] 87)).alloc (.cells #[.int .i64 d.n, .int .i64 d.s, .int .i64 d.e, .int .i64 d.w, .int .i64 d.t, .int .i64 d.b] 87)) := by go_grown
  go_upto_region 2 with (fail)
  generalize ((w.alloc (.cells #[.int .i64 d.t, .int .i64 d.n, .int .i64 d.e, .int .i64 d.s, .int .i64 d.w, .int .i64 d.b] 30)).alloc (.cells #[.int .i64 0, .int .i64 0, .int .i64 0, .int .i64 0, .int .i64 0, .int .i64 0] 87)).alloc (.cells #[.int .i64 d.n, .int .i64 d.s, .int .i64 d.e, .int .i64 d.w, .int .i64 d.t, .int .i64 d.b] 87) = w1 at hr hz hq ⊢
  have hlt := lt_of_block hr
  obtain ⟨b, hb⟩ : ∃ b, b = w.heap.size + 1 := ⟨_, rfl⟩
  have hwb : w.heap.size ≤ b := by omega
  rw [← hb] at hr hz hlt ⊢
  clear hb
  have HR := hide hr
  have HZ := hide hz
  have HQ := hide hq
  clear hr hz hq hlt
  go_wp2
  go_loopw [21, 4] (fun i _ wr => ∃ k : Nat, k ≤ 3 ∧ i = .int .i64 (k : Int) ∧ IsR6 wr (b + 1) (srK d k) ∧ IsD wr b zeroD 87 ∧ Below w.heap.size w wr) (fun i _ _ => 3 - (intOf i).toNat)
  case atStart => exact ⟨0, Nat.zero_le _, rfl, HR.out, HZ.out, HQ.out⟩
  case round =>
    obtain ⟨k, hk, rfl, R, Zd, q⟩ := hrel
    clear HR HZ HQ
    by_cases hlt : k < 3
    · have hki : (k : Int) < 3 := by omega
      have HSN := hide (fun (W : World) (e : W.heap = wr.heap) => Try.slices_Sort_int (b + 1) (k * 2) 2 (rwK d k) W (holds_pair d k hlt (show IsR6 W (b + 1) (srK d k) from by unfold IsR6; rw [e]; exact R)) (by rw [e]; exact lt_of_block R) (by rw [rwK_len]; decide))
      simp only [rwK_len] at HSN
      have HR := hide R
      have HZ := hide Zd
      have HQ := hide q
      clear R Zd q
      go_wp2_with fail
      refine (HSN.out _ rfl).mono ?_
      rintro e w3 ⟨rfl, nn, os, rfl⟩
      have hR := hide (put_pair d k hlt (n := nn) (os := os) HR.out)
      have hZ := hide (show IsD (Sort.grow (Sort.putRow (Value.int .i64) (Sort.ahead wr nn) (b + 1) (k * 2) ((rwK d k).mergeSort fun x y => decide (x ≤ y)).toArray) os) b zeroD 87 from (Below.block (below_sorted (B := b + 1) (n := nn) (os := os) _ (Nat.le_refl _) (by have := lt_of_block HR.out; omega)) b (by omega)).trans HZ.out)
      have hQ := hide (HQ.out.trans (below_sorted (B := w.heap.size) (n := nn) (os := os) (off := k * 2) ((rwK d k).mergeSort fun x y => decide (x ≤ y)).toArray (show w.heap.size ≤ b + 1 from by omega) HQ.out.size))
      clear HR HZ HQ HSN
      generalize Sort.grow _ _ = w4 at hR hZ hQ ⊢
      go_wp2
      go_roundw
      case rel => exact ⟨k + 1, by omega, by go_num, hR.out, hZ.out, hQ.out⟩
      case measure => simp [intOf] <;> omega
    · obtain rfl : k = 3 := by omega
      have X := isR6_d R
      obtain ⟨lx, ⟨c0, c1, c2, c3, c4, c5⟩, -⟩ := X.all
      obtain ⟨ly, ⟨d0, d1, d2, d3, d4, d5⟩, f0, f1, f2, f3, f4, f5⟩ := Zd.all
      clear R X
      unfold srD at c0 c1 c2 c3 c4 c5
      go_wp2
      refine bodyPost_ret (ret_six Try.results76 rfl (Zd.set6 (srD d))) rfl ⟨rfl, ?_⟩
      exact below_set6 q hwb (srD d)
theorem index_pair (d : D) : ∀ (k : Nat) (hk : k < 3), ∃ x y, (pairsL d)[k]? = some [x, y] ∧ ∀ wx : World, (Instr.index 87 (pairsV d) (.int .i64 (k : Int))).run Try.prog wx = .ok (.agg #[.int .i64 x, .int .i64 y]) wx
  | 0, _ => ⟨_, _, by show some (pr _ _) = _; rw [pr_eq], fun _ => by kernel_rfl⟩
  | 1, _ => ⟨_, _, by show some (pr _ _) = _; rw [pr_eq], fun _ => by kernel_rfl⟩
  | 2, _ => ⟨_, _, by show some (pr _ _) = _; rw [pr_eq], fun _ => by kernel_rfl⟩
set_option maxHeartbeats 800000 in
theorem specPP_no (d : D) (w : World) (h : goodB d = false) : Calls Try.prog 34 #[D.v d] w fun e w' => e = .returned (.tuple #[.slice none 0 0, .bool false]) ∧ Below w.heap.size w w' := by
  have HG := hide h
  clear h
  go_enter Try.func34, Try.ntmps34
  go_wp2_with fail
  refine (diGood_any d _).mono ?_
  rintro e w1 ⟨rfl, hb1⟩
  rw [HG.out]
  have q1 : Below w.heap.size w w1 := below_after (by go_grown) hb1 (by simp)
  clear hb1
  go_wp2
  go_returns
  exact ⟨rfl, q1⟩
set_option maxHeartbeats 800000 in
theorem implPP_no (d : D) (w : World) (h : goodB d = false) : Calls Try.prog 35 #[D.v d] w fun e w' => e = .returned (.tuple #[.slice none 0 0, .bool false]) ∧ Below w.heap.size w w' := by
  have HG := hide h
  clear h
  go_enter Try.func35, Try.ntmps35
  go_wp2_with fail
  refine (isDie_any d _).mono ?_
  rintro e w1 ⟨rfl, hb1⟩
  rw [HG.out]
  have q1 : Below w.heap.size w w1 := below_after (by go_grown) hb1 (by simp)
  clear hb1
  go_wp2
  go_returns
  exact ⟨rfl, q1⟩
set_option maxHeartbeats 800000 in
theorem specPP_yes (d : D) (w : World) (h : goodB d = true) : Calls Try.prog 34 #[D.v d] w fun e w' => ∃ v, e = .returned (.tuple #[v, .bool true]) ∧ SS w' w.heap.size w'.heap.size v (pairsL d) ∧ Below w.heap.size w w' := by
  have HG := hide h
  clear h
  go_enter Try.func34, Try.ntmps34
  go_wp2_with fail
  refine (diGood_any d _).mono ?_
  rintro e w1 ⟨rfl, hb1⟩
  rw [HG.out]
  have g1 := (IsD.new (d := d)).below rfl hb1
  have q1 : Below w.heap.size w w1 := below_after (by go_grown) hb1 (by simp)
  clear hb1
  obtain ⟨lq, ⟨c0, c1, c2, c3, c4, c5⟩, -⟩ := g1.all
  go_wp2_with fail
  clear c0 c1 c2 c3 c4 c5
  refine (clPairs_any d _).mono ?_
  rintro e w2 ⟨v, rfl, O2, hb2⟩
  have q2 := below_to hb2 q1 q1.size rfl rfl rfl rfl
  have HO := hide (ss_mono O2 q1.size (Nat.le_refl _))
  clear hb2 q1 O2
  go_wp2
  go_returns
  exact ⟨_, rfl, HO.out, q2⟩
set_option maxHeartbeats 3200000 in
theorem implPP_yes (d : D) (w : World) (h : goodB d = true) : Calls Try.prog 35 #[D.v d] w fun e w' => ∃ v, e = .returned (.tuple #[v, .bool true]) ∧ SS w' w.heap.size w'.heap.size v (pairsL d) ∧ Below w.heap.size w w' := by
  have HG := hide h
  clear h
  obtain ⟨i0, hi, hz0, hz1, hz2⟩ := info_parts info_intS
  have HI := hide hi
  have HZ0 := hide hz0
  have HZ1 := hide hz1
  have HZ2 := hide hz2
  clear hi hz0 hz1 hz2
  have HX := hide (fun k hk => index_pair d k hk)
  have HL := hide (show (pairsL d).length = 3 from rfl)
  obtain ⟨P, hP⟩ : ∃ P, P = pairsL d := ⟨_, rfl⟩
  obtain ⟨PV, hPV⟩ : ∃ PV, PV = pairsV d := ⟨_, rfl⟩
  have HPO := hide (fun wx => pairsOf_any d wx)
  rw [← hP] at HX HL ⊢
  rw [← hPV] at HX HPO
  clear hP hPV
  go_enter Try.func35, Try.ntmps35
  go_wp2_with fail
  refine (isDie_any d _).mono ?_
  rintro e w1 ⟨rfl, hb1⟩
  rw [HG.out]
  have g1 := (IsD.new (d := d)).below rfl hb1
  have q1 : Below w.heap.size w w1 := below_after (by go_grown) hb1 (by simp)
  clear hb1
  obtain ⟨lq, ⟨c0, c1, c2, c3, c4, c5⟩, -⟩ := g1.all
  go_wp2_with fail
  clear c0 c1 c2 c3 c4 c5
  refine (HPO.out _).mono ?_
  rintro e w2 ⟨rfl, hb2⟩
  have q2 := below_to hb2 q1 q1.size rfl rfl rfl rfl
  clear hb2 q1 g1
  have HQ := hide q2
  clear q2
  go_wp2
  go_loopw [12, 4, 6] (fun i v _ wr => ∃ (k T : Nat), k ≤ 3 ∧ i = .int .i64 (k : Int) ∧ T ≤ wr.heap.size ∧ SS wr w.heap.size T v (P.take k) ∧ Below w.heap.size w wr) (fun i _ _ _ => 3 - (intOf i).toNat)
  case atStart => exact ⟨0, 0, Nat.zero_le _, rfl, Nat.zero_le _, ss_nil _ _ _, HQ.out⟩
  case round =>
    obtain ⟨k, T, hk, rfl, hT, S, q⟩ := hrel
    clear HQ
    by_cases hlt : k < 3
    · have hki : (k : Int) < 3 := by omega
      obtain ⟨x, y, hx, ix⟩ := HX.out k hlt
      have HP := hide (show P.take (k + 1) = P.take k ++ [[x, y]] from by rw [List.take_add_one, hx]; rfl)
      have hlen : (P.take k).length = k := by rw [List.length_take, HL.out]; omega
      obtain ⟨vs, h1, h2, h3, h4, h5⟩ := S
      rw [hlen] at h1 h2
      have HS := hide (And.intro h1 (And.intro h3 (And.intro h4 h5)))
      have HO := hide (h2.alloc (.cells #[.int .i64 x, .int .i64 y] 86))
      have HQ := hide (q.alloc q.size (.cells #[.int .i64 x, .int .i64 y] 86))
      have HLN := hide hlen
      have HCL := hide (Try.slices_Clone_int wr.heap.size 0 2 2 [x, y] (wr.alloc (.cells #[.int .i64 x, .int .i64 y] 86)) (Nat.le_refl 2) (by decide) (two_cells (ty := 86) (by show (wr.heap.push _)[wr.heap.size]? = _; simp)))
      have hqs := q.size
      clear hx h1 h2 h3 h4 h5 hlen q
      go_upto_region 7 with (fail)
      go_wp2_with (first
        | (go_at_call 77; (refine HCL.out.mono ?_); rintro e w3 ⟨u, rfl, hu, -, hb3⟩; obtain ⟨pu, cu, rfl⟩ := int_form hu; have HU := hide hu; have HO3 := hide (own_to hb3 HO.out rfl); have HQ3 := hide (below_to hb3 HQ.out HQ.out.size rfl rfl rfl rfl); have HB3 := hide hb3; have hs3 := hb3.size; clear hu hb3)
        | (at_builtin; (refine wpList_append_own_at _ rfl _ _ 51 rfl w.heap.size 27 i0 (.slice none 0 0) 1 24 Try.underlying51 HI.out HZ0.out HZ1.out HZ2.out rfl (by decide) _ _ _ rfl (HO3.out.alloc _) ⟨w3.heap.size, 0, none⟩ 1 1 [.slice pu 2 cu] rfl rfl (cell_one_newR _ _ _) (by intro z hz; simp only [List.mem_singleton] at hz; subst hz; exact one_slice HU.out) (by unfold maxLen; omega) (by omega) (by have := HQ3.out.size; simp; omega) ?_); intro v' w4 hown hgr hnil hblk))
      have hs1 : (wr.alloc (.cells #[.int .i64 x, .int .i64 y] 86)).heap.size = wr.heap.size + 1 := by simp
      have S4 := hide (show SS w4 w.heap.size w4.heap.size v' (P.take (k + 1)) from by
        rw [HP.out]
        obtain ⟨h1, h3, h4, h5⟩ := HS.out
        have hst : ∀ i l z, (P.take k)[i]? = some l → vs[i]? = some z → (w3.alloc (.cells #[.slice pu 2 cu] 27)).ownsRow w.heap.size 3 1 z l.length (ints l) ∧ (∀ g, z.ownBlock = some g → g < T) ∧ (∀ g, z.ownBlock = some g → u4.ownBlock ≠ some g) := fun i l z hl hz => ⟨((own_to HB3.out ((h4 i l z hl hz).1.alloc (.cells #[.int .i64 x, .int .i64 y] 86)) rfl).alloc _), (h4 i l z hl hz).2⟩
        refine ss_snoc (w1 := w3.alloc (.cells #[.slice pu 2 cu] 27)) (b := (wr.alloc (.cells #[.int .i64 x, .int .i64 y] 86)).heap.size) (by rw [HLN.out]; exact h1) h3 hst h5 (HU.out.alloc _) (by omega) (by omega) (by simp; omega) (by rw [HLN.out]; exact hown) hgr hblk)
      have HQ4 := hide ((HQ3.out.alloc HQ3.out.size (.cells #[.slice pu 2 cu] 27)).grown hgr (by have := HQ3.out.size; simp; omega) (fun j hj => (HO3.out.lt j hj).1))
      clear hown hgr hnil hblk HO3 HQ3 HU HB3 HCL
      go_wp2
      go_roundw
      case rel => exact ⟨k + 1, w4.heap.size, by omega, by go_num, Nat.le_refl _, S4.out, HQ4.out⟩
      case measure => simp [intOf] <;> omega
    · obtain rfl : k = 3 := by omega
      have HS := hide (show SS wr w.heap.size wr.heap.size u4 P from by
        rw [List.take_of_length_le (by rw [HL.out]; exact Nat.le_refl _)] at S
        exact ss_mono S (Nat.le_refl _) hT)
      clear S
      go_wp2
      go_returns
      exact ⟨_, rfl, HS.out, q⟩
theorem specPP_any (d : D) (w : World) : Calls Try.prog 34 #[D.v d] w (PpPost d w) := by
  unfold PpPost ppL
  cases h : goodB d
  · rw [if_neg (by decide)]
    exact (specPP_no d w h).mono fun e w' k => ⟨_, k.1, ss_nil _ _ _, k.2⟩
  · rw [if_pos rfl]
    exact specPP_yes d w h
theorem implPP_any (d : D) (w : World) : Calls Try.prog 35 #[D.v d] w (PpPost d w) := by
  unfold PpPost ppL
  cases h : goodB d
  · rw [if_neg (by decide)]
    exact (implPP_no d w h).mono fun e w' k => ⟨_, k.1, ss_nil _ _ _, k.2⟩
  · rw [if_pos rfl]
    exact implPP_yes d w h
set_option maxHeartbeats 3200000 in
theorem walk_PairsOf (d0 : D) (w : World) : Calls Try.prog 8 #[D.v d0] w fun e w' => e = .returned (.bool true) ∧ Below w.heap.size w w' := by
  have hlen := hide (show (ppL d0).length ≤ 100000 ∧ sumL (ppL d0) ≤ 100000 from ppL_len _)
  obtain ⟨Z, hZ⟩ : ∃ Z, Z = ppL d0 := ⟨_, rfl⟩
  have HZ := hide hZ
  clear hZ
  rw [← HZ.out] at hlen
  obtain ⟨ok, hok⟩ : ∃ ok, ok = goodB d0 := ⟨_, rfl⟩
  have HOK := hide hok
  clear hok
  have e1 : (ok != ok) = false := by simp
  obtain ⟨N, hN⟩ : ∃ N : Int, N = ((sumL Z : Nat) : Int) := ⟨_, rfl⟩
  have n1 : ¬ (1 + N < 0) := by omega
  have n2 : ((1 + N) != (1 + N)) = false := by simp
  have HN := hide hN
  clear hN
  go_enter Try.func8, Try.ntmps8
  go_wp2_with fail
  refine (toDie_any d0 _).mono ?_
  rintro e w1 ⟨rfl, hb1⟩
  have q1 : Below w.heap.size w w1 := below_after (by go_grown) hb1 (by simp)
  have GD1 := hide ((IsD.new (d := d0)).below rfl hb1)
  obtain ⟨lq, ⟨c0, c1, c2, c3, c4, c5⟩, -⟩ := GD1.out.all
  clear hb1  
  go_wp2_with fail
  clear c0 c1 c2 c3 c4 c5
  refine (specPP_any d0 _).mono ?_
  rintro e w2 ⟨r0, rfl, O2, hb2⟩
  have q2 := below_to hb2 q1 q1.size rfl rfl rfl rfl
  have GD2 := hide (GD1.out.below rfl hb2)
  obtain ⟨lq, ⟨c0, c1, c2, c3, c4, c5⟩, -⟩ := GD2.out.all
  have zs2 := hb2.size
  rw [← HZ.out] at O2
  rw [← HOK.out]
  have HO2 := hide (O2)
  clear hb2 GD1 q1 O2
  go_wp2_with fail
  clear c0 c1 c2 c3 c4 c5
  refine (toDie_any d0 _).mono ?_
  rintro e w3 ⟨rfl, hb3⟩
  have q3 := below_to hb3 q2 q2.size rfl rfl rfl rfl
  have HO3 := hide (ss_to hb3 HO2.out rfl)
  have GD3 := hide (GD2.out.below rfl hb3)
  obtain ⟨lq, ⟨c0, c1, c2, c3, c4, c5⟩, -⟩ := GD3.out.all
  have zs3 := hb3.size
  clear hb3 HO2 GD2 q2 
  have hltO := hide (by first | exact Nat.le_refl _ | exact zs3)
  have hltD := hide GD3.out.lt
  have hsq : w.heap.size ≤ _ := q3.size
  go_wp2_with fail
  clear c0 c1 c2 c3 c4 c5
  refine (implPP_any d0 _).mono ?_
  rintro e w4 ⟨r1, rfl, O4, hb4⟩
  have q4 := below_to hb4 q3 q3.size rfl rfl rfl rfl
  have HO4 := hide (ss_to hb4 HO3.out rfl)
  have GD4 := hide (GD3.out.below rfl hb4)
  obtain ⟨lq, ⟨c0, c1, c2, c3, c4, c5⟩, -⟩ := GD4.out.all
  have zs4 := hb4.size
  rw [← HZ.out] at O4
  rw [← HOK.out]
  have HG4 := hide (O4)
  clear hb4 HO3 GD3 q3 O4
  go_wp2_with fail
  clear c0 c1 c2 c3 c4 c5
  refine (eqIntSS_any r1 r0 _ _ Z _ (by have := hlen.out; omega) HG4.out HO4.out).mono ?_
  rintro e w5 ⟨rfl, hb5⟩
  have q5 := below_to hb5 q4 q4.size rfl rfl rfl rfl
  have HG5 := hide (ss_to hb5 HG4.out rfl)
  have HO5 := hide (ss_to hb5 HO4.out rfl)
  have GD5 := hide (GD4.out.below rfl hb5)
  obtain ⟨lq, ⟨c0, c1, c2, c3, c4, c5⟩, -⟩ := GD5.out.all
  have zs5 := hb5.size
  clear hb5 HG4 HO4 GD4 q4 
  go_wp2_with fail
  clear c0 c1 c2 c3 c4 c5
  refine (markIntSS_any r1 _ Z 1 _ (by have := hlen.out; omega) (by omega) HG5.out).mono ?_
  rintro e w6 ⟨rfl, G6, hb6⟩
  rw [← HN.out]
  have GD6 := hide (isD_below hb6 GD5.out hltD.out)
  obtain ⟨lq, ⟨c0, c1, c2, c3, c4, c5⟩, -⟩ := GD6.out.all
  have q6 := q5.trans (hb6.mono hsq)
  have HO6 := hide (ss_below hb6 HO5.out hltO.out)
  have HG6 := hide G6
  clear hb6 G6 q5 HO5 HG5 GD5
  go_wp2_with fail
  clear c0 c1 c2 c3 c4 c5
  refine (heldIntSS_any r1 Z 1 _ (by have := hlen.out; omega) (by omega) HG6.out).mono ?_
  rintro e w' ⟨rfl, rfl⟩
  obtain ⟨lq, ⟨c0, c1, c2, c3, c4, c5⟩, -⟩ := GD6.out.all
  rw [← HN.out]
  go_wp2_with fail
  clear c0 c1 c2 c3 c4 c5
  refine (toDie_any d0 _).mono ?_
  rintro e w7 ⟨rfl, hb7⟩
  have q7 := below_to hb7 q6 q6.size rfl rfl rfl rfl
  have HG7 := hide (ss_to hb7 HG6.out rfl)
  have HO7 := hide (ss_to hb7 HO6.out rfl)
  have GD7 := hide (GD6.out.below rfl hb7)
  obtain ⟨lq, ⟨c0, c1, c2, c3, c4, c5⟩, -⟩ := GD7.out.all
  have zs7 := hb7.size
  clear hb7 HG6 HO6 GD6 q6 
  go_wp2_with fail
  clear c0 c1 c2 c3 c4 c5
  refine (implPP_any d0 _).mono ?_
  rintro e w8 ⟨r2, rfl, O8, hb8⟩
  have q8 := below_to hb8 q7 q7.size rfl rfl rfl rfl
  have HG8 := hide (ss_to hb8 HG7.out rfl)
  have HO8 := hide (ss_to hb8 HO7.out rfl)
  have GD8 := hide (GD7.out.below rfl hb8)
  obtain ⟨lq, ⟨c0, c1, c2, c3, c4, c5⟩, -⟩ := GD8.out.all
  have zs8 := hb8.size
  rw [← HZ.out] at O8
  rw [← HOK.out]
  have HH8 := hide (O8)
  clear hb8 HG7 HO7 GD7 q7 O8
  go_wp2_with fail
  clear c0 c1 c2 c3 c4 c5
  refine (eqIntSS_any r2 r0 _ _ Z _ (by have := hlen.out; omega) HH8.out HO8.out).mono ?_
  rintro e w9 ⟨rfl, hb9⟩
  have q9 := below_to hb9 q8 q8.size rfl rfl rfl rfl
  have HG9 := hide (ss_to hb9 HG8.out rfl)
  have HH9 := hide (ss_to hb9 HH8.out rfl)
  have HO9 := hide (ss_to hb9 HO8.out rfl)
  have GD9 := hide (GD8.out.below rfl hb9)
  obtain ⟨lq, ⟨c0, c1, c2, c3, c4, c5⟩, -⟩ := GD9.out.all
  have zs9 := hb9.size
  clear hb9 HG8 HH8 HO8 GD8 q8 
  go_wp2_with fail
  clear c0 c1 c2 c3 c4 c5
  refine (heldIntSS_any r1 Z 1 _ (by have := hlen.out; omega) (by omega) HG9.out).mono ?_
  rintro e w' ⟨rfl, rfl⟩
  obtain ⟨lq, ⟨c0, c1, c2, c3, c4, c5⟩, -⟩ := GD9.out.all
  rw [← HN.out]
  go_wp2
  go_returns
  exact ⟨rfl, q9⟩
end Go.Proofs.Ytkiocklkpnjejaa
