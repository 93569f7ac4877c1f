/- In how many ways cycles can be given colours: mathematics. No Go in sight. One operation of a drawn region taken first. countFillings and colorsWanted of the program. -/
import Derived.Test.YtjikpkembcnfnaaDoorCycM
import Derived.Test.YtjikpkembcnfnaaDoorBase
import Derived.Deep.RegionHeld3
import Derived.Deep.Cut
import Derived.Test.YtjikpkembcnfnaaDoorIntsA
import Derived.Test.YtjikpkembcnfnaaDoorArr
import Derived.Test.YtjikpkembcnfnaaDoorTake
import Derived.Deep.RegionWith
import Derived.Deep.RegionLaw
namespace Go.Proofs.YtjikpkembcnfnaaDoor
set_option maxRecDepth 100000
set_option linter.all false

/-- In how many ways whole cycles can be given colours so that counts come out. -/
def cf : List Int → List Int → Int
  | [], _ => 1
  | x :: L, C => ((List.range C.length).map fun i => if x ≤ C.getD i 0 then cf L (C.set i (C.getD i 0 - x)) else 0).sum
/-- .. with one of the first i colours for the first cycle. -/
def cfp (x : Int) (L C : List Int) (i : Nat) : Int := ((List.range i).map fun i => if x ≤ C.getD i 0 then cf L (C.set i (C.getD i 0 - x)) else 0).sum
theorem cfp_zero (x : Int) (L C : List Int) : cfp x L C 0 = 0 := rfl
theorem cfp_done (x : Int) (L C : List Int) : cfp x L C C.length = cf (x :: L) C := rfl
theorem cfp_succ (x : Int) (L C : List Int) (i : Nat) : cfp x L C (i + 1) = cfp x L C i + if x ≤ C.getD i 0 then cf L (C.set i (C.getD i 0 - x)) else 0 := by
  unfold cfp
  rw [List.range_succ, List.map_append, List.sum_append]
  simp
theorem cf_bd : ∀ (L C : List Int), C.length ≤ 10 → 0 ≤ cf L C ∧ cf L C ≤ 10 ^ L.length
  | [], C, _ => by simp [cf]
  | x :: L, C, h => by
    have hp : ∀ i, 0 ≤ cfp x L C i ∧ cfp x L C i ≤ (i : Int) * 10 ^ L.length := by
      intro i
      induction i with
      | zero => simp [cfp_zero]
      | succ i ih =>
        rw [cfp_succ]
        have hb := cf_bd L (C.set i (C.getD i 0 - x)) (by rw [List.length_set]; exact h)
        have hpos : (0 : Int) ≤ 10 ^ L.length := Int.le_trans hb.1 hb.2
        have e : ((i + 1 : Nat) : Int) * 10 ^ L.length = (i : Int) * 10 ^ L.length + 10 ^ L.length := by
          rw [Int.natCast_add, Int.add_mul]
          simp
        rw [e]
        split <;> omega
    have hd := hp C.length
    rw [cfp_done] at hd
    refine ⟨hd.1, Int.le_trans hd.2 ?_⟩
    rw [List.length_cons, Int.pow_succ, Int.mul_comm (10 ^ L.length) 10]
    have hpos : (0 : Int) ≤ 10 ^ L.length := by
      have := cf_bd L [] (by simp)
      exact Int.le_trans this.1 this.2
    exact Int.mul_le_mul_of_nonneg_right (by omega) hpos
theorem pow10_le {n : Nat} (h : n ≤ 6) : (10 : Int) ^ n ≤ 1000000 := by
  have : n = 0 ∨ n = 1 ∨ n = 2 ∨ n = 3 ∨ n = 4 ∨ n = 5 ∨ n = 6 := by omega
  rcases this with rfl | rfl | rfl | rfl | rfl | rfl | rfl <;> decide
theorem cf_bd6 {L C : List Int} (h : C.length ≤ 10) (h6 : L.length ≤ 6) : 0 ≤ cf L C ∧ cf L C ≤ 1000000 := by
  have h1 := cf_bd L C h
  have h2 := pow10_le h6
  omega
theorem cfp_bd {x : Int} {L C : List Int} (h : C.length ≤ 10) (h6 : L.length ≤ 6) : ∀ i, i ≤ 10 → 0 ≤ cfp x L C i ∧ cfp x L C i ≤ 1000000 * (i : Int)
  | 0, _ => by simp [cfp_zero]
  | i + 1, hi => by
    have ih := cfp_bd (x := x) h h6 i (by omega)
    have hb := cf_bd6 (L := L) (C := C.set i (C.getD i 0 - x)) (by rw [List.length_set]; exact h) h6
    rw [cfp_succ]
    split <;> omega
/-- Colours that are not wanted change nothing. -/
theorem cf_pad : ∀ (L : List Int) (m : Nat) (C : List Int), (∀ x ∈ L, 1 ≤ x) → cf L (C ++ List.replicate m 0) = cf L C
  | [], _, _, _ => rfl
  | x :: L, m, C, h => by
    have hx : 1 ≤ x := h x List.mem_cons_self
    have ih := fun C => cf_pad L m C (fun y hy => h y (List.mem_cons_of_mem _ hy))
    unfold cf
    rw [List.length_append, List.length_replicate, List.range_add, List.map_append, List.sum_append]
    have h1 : ((List.range C.length).map fun i => if x ≤ (C ++ List.replicate m 0).getD i 0 then cf L ((C ++ List.replicate m 0).set i ((C ++ List.replicate m 0).getD i 0 - x)) else 0) = (List.range C.length).map fun i => if x ≤ C.getD i 0 then cf L (C.set i (C.getD i 0 - x)) else 0 := by
      apply List.map_congr_left
      intro i hi
      have hi' : i < C.length := List.mem_range.1 hi
      have hg : (C ++ List.replicate m 0).getD i 0 = C.getD i 0 := by
        rw [List.getD_eq_getElem?_getD, List.getD_eq_getElem?_getD, List.getElem?_append_left hi']
      rw [hg, List.set_append_left _ _ hi', ih]
    have h2 : (((List.range m).map (C.length + ·)).map fun i => if x ≤ (C ++ List.replicate m 0).getD i 0 then cf L ((C ++ List.replicate m 0).set i ((C ++ List.replicate m 0).getD i 0 - x)) else 0).sum = 0 := by
      rw [List.map_map]
      have : ∀ i ∈ List.range m, ((fun i => if x ≤ (C ++ List.replicate m 0).getD i 0 then cf L ((C ++ List.replicate m 0).set i ((C ++ List.replicate m 0).getD i 0 - x)) else 0) ∘ (C.length + ·)) i = (fun _ => (0 : Int)) i := by
        intro i hi
        have hi' := List.mem_range.1 hi
        simp only [Function.comp]
        rw [if_neg]
        rw [List.getD_eq_getElem?_getD, List.getElem?_append_right (by omega), List.getElem?_replicate, if_pos (by omega)]
        simp
        omega
      rw [List.map_congr_left this]
      have hz : ∀ n : Nat, ((List.range n).map (fun _ => (0 : Int))).sum = 0 := by
        intro n
        induction n with
        | zero => rfl
        | succ n ih => rw [List.range_succ, List.map_append, List.sum_append, ih]; rfl
      exact hz m
    rw [h1, h2, Int.add_zero]
theorem cyc_pos : ∀ p ∈ wayz, (∀ x ∈ cycL p, 1 ≤ x ∧ x ≤ 6) ∧ 0 < (cycL p).length := by decide +kernel
/-- The first j of some counts, and noughts behind them. -/
def padU (C : List Int) (j : Nat) : List Int := C.take j ++ List.replicate (10 - j) 0
theorem padU_len {C : List Int} {j : Nat} (h : j ≤ C.length) (h9 : C.length ≤ 9) : (padU C j).length = 10 := by
  simp [padU]; omega
theorem padU_get {C : List Int} {j : Nat} (h : j < C.length) (h9 : C.length ≤ 9) : (padU C j)[j]? = some 0 := by
  unfold padU
  rw [List.getElem?_append_right (by simp; omega), List.getElem?_replicate, if_pos (by simp; omega)]
theorem padU_set {C : List Int} {j : Nat} {x : Int} (h : C[j]? = some x) (h9 : C.length ≤ 9) : (padU C j).set j x = padU C (j + 1) := by
  have hj := (List.getElem?_eq_some_iff.1 h).1
  unfold padU
  rw [List.set_append_right _ _ (by simp; omega), List.length_take, Nat.min_eq_left (by omega), Nat.sub_self, show 10 - j = (10 - (j + 1)) + 1 by omega, List.replicate_succ, List.set_cons_zero, List.take_add_one, h]
  simp
theorem padU_done (C : List Int) : padU C C.length = C ++ List.replicate (10 - C.length) 0 := by simp [padU]
def in06 (x : Int) : Bool := decide (0 ≤ x ∧ x ≤ 6)
theorem sum_bd : ∀ (C : List Int), (∀ x ∈ C, in06 x = true) → 0 ≤ C.sum ∧ C.sum ≤ 6 * (C.length : Int)
  | [], _ => ⟨Int.le_refl _, Int.le_refl _⟩
  | x :: C, h => by
    have h1 : 0 ≤ x ∧ x ≤ 6 := of_decide_eq_true (h x List.mem_cons_self)
    have ih := sum_bd C (fun y hy => h y (List.mem_cons_of_mem _ hy))
    rw [List.sum_cons, List.length_cons]
    omega
theorem sum_snoc {C : List Int} {j : Nat} {x : Int} (h : C[j]? = some x) : (C.take (j + 1)).sum = (C.take j).sum + x := by
  rw [List.take_add_one, h, List.sum_append]
  simp
end Go.Proofs.YtjikpkembcnfnaaDoor
namespace Go.Proofs.YtjikpkembcnfnaaDoor
set_option maxRecDepth 100000
set_option linter.all false
open Go.RowKit

theorem run_tl (g o m c : Nat) (h1 : 1 ≤ m) (hm : m ≤ c) (wx : World) : (Instr.slice 45 (.slice (some ⟨g, o, none⟩) m c) (some (.int .i64 1)) none none).run Tryd.prog wx = .ok (.slice (some ⟨g, if c = 1 then o else o + 1, none⟩) (m - 1) (c - 1)) wx := by
  have h2 : (1 : Int) ≤ (m : Int) := by omega
  by_cases h3 : c = 1
  · subst h3
    simp [Instr.slice, run_underlying Tryd.underlying45, Instr.sliceBounds, Instr.sliceBound, asIntOf, go_sem, h2]
    try omega
  · simp [Instr.slice, run_underlying Tryd.underlying45, Instr.sliceBounds, Instr.sliceBound, asIntOf, go_sem, h2, h3, Addr.add]
    try omega
theorem iAt_tl {w : World} {g o c n : Nat} {x : Int} {L : List Int} (h : IAt w g o (x :: L)) (hn : n = (x :: L).length) (hc : n ≤ c) : IAt w g (if c = 1 then o else o + 1) L := by
  by_cases h1 : c = 1
  · have : L = [] := by
      cases L with
      | nil => rfl
      | cons y L => simp at hn; omega
    subst this
    exact ⟨h.1, fun j y hj => by simp at hj⟩
  · rw [if_neg h1]
    exact iAt_tail h
theorem iAt_row {w : World} {g o b : Nat} {L : List Int} (h : IAt w g o L) (hne : g ≠ b) (cs : Array Value) : IAt (w.setRow b cs) g o L :=
  ⟨by have := h.1; rw [setRow_size]; exact this, fun j x hj => by rw [World.cell?_of_block (setRow_other w b g cs hne)]; exact h.2 j x hj⟩
theorem step_load_row {P : Program} {ops : Array Oper} {o : Oper} {a : Act} {w : World} {K : Act → World → Prop} {Q : Exit → Act → World → Prop} {E : Prop} (hgd : o.guard = none) (ty : TypeId) (x : Operand) (ho : o.op = .load ty x)
    (g : Nat) (hx : a.eval x = .pointer (some ⟨g, 0, none⟩)) (t : TypeId) (cs : Array Value) (fr : Nat × Nat) (d : TypeDesc) (hg : w.heap[g]? = some (.cells cs t fr))
    (hu : P.underlying ty = some d) (hd : (match d with | .struct _ | .array _ _ => true | _ => false) = true) (hi : (P.info? ty).map (·.size) = some cs.size)
    (h : K (a.put o.dst (.agg cs)) w) : if Region.wanted o (yielded ops a.tmps) = true then Oper.wp P o a w K Q else E := by
  have hw : Region.wanted o (yielded ops a.tmps) = true := by simp [Region.wanted, hgd]
  rw [if_pos hw]
  exact wp_load_row ty x ho g hx t cs fr d hg hu hd hi h
theorem num_start (M : List Int) (w : World) : ∃ W, w.alloc (.cells (ints M).toArray 80) = W ∧ IsA W w.heap.size M 80 ∧ Below w.heap.size w W := ⟨_, rfl, IsA.new, (Below.refl _ _).alloc (Nat.le_refl _) _⟩
theorem countFillings_nil (M : List Int) (g o cap : Nat) (w : World) : Calls Tryd.prog 58 #[.slice (some ⟨g, o, none⟩) 0 cap, .agg (ints M).toArray] w fun e w' => e = .returned (.int .i64 1) ∧ Below w.heap.size w w' := by
  go_enter Tryd.func58, Tryd.ntmps58
  go_wp2
  go_returns
  exact ⟨rfl, by go_grown⟩
set_option maxHeartbeats 6400000 in
theorem countFillings_any : ∀ (L : List Int), (∀ x ∈ L, 1 ≤ x ∧ x ≤ 6) → L.length ≤ 6 → ∀ (M : List Int), M.length = 10 → (∀ x ∈ M, 0 ≤ x ∧ x ≤ 6) → ∀ (g o n cap : Nat) (w : World), n = L.length → n ≤ cap → cap ≤ maxLen → IAt w g o L → Calls Tryd.prog 58 #[.slice (some ⟨g, o, none⟩) n cap, .agg (ints M).toArray] w fun e w' => e = .returned (.int .i64 (cf L M)) ∧ Below w.heap.size w w'
  | [], _, _, M, _, _, g, o, n, cap, w, hn, _, _, _ => by
    subst hn
    exact countFillings_nil M g o cap w
  | x :: L, hL, h6, M, hM, hMb, g, o, n, cap, w, hn, hc, hcm, hA => by
    have HREC := hide (countFillings_any L (fun y hy => hL y (List.mem_cons_of_mem _ hy)) (by simp at h6; omega))
    obtain ⟨W0, hW, A0, q0⟩ := num_start M w
    have HW := hide hW
    have hx := hL x List.mem_cons_self
    have hL6 : L.length ≤ 5 := by simp at h6; omega
    have hn1 : 1 ≤ n := by rw [hn]; simp
    have hn1i : (1 : Int) ≤ (n : Int) := by omega
    have hn0i : (0 : Int) < (n : Int) := by omega
    have hn0 : 0 < n := by omega
    have hne0 : ((n : Int) == 0) = false := by simp; omega
    have hn7 : (n : Int) ≤ 6 := by rw [hn]; simp at h6 ⊢; omega
    have HMB := hide hMb
    have HML := hide hM
    have HI0 := hide (iAt_to (w0 := w) q0 hA rfl)
    have HTL := hide (fun (wx : World) (h : IAt wx g o (x :: L)) => iAt_tl (c := cap) (n := n) h hn hc)
    have hsl := run_tl g o n cap hn1 hc
    have hn2 : n - 1 = L.length := by rw [hn]; simp
    have hc2 : n - 1 ≤ cap - 1 := by omega
    have hcm2 : cap - 1 ≤ maxLen := by unfold maxLen at hcm ⊢; omega
    obtain ⟨S, hS⟩ : ∃ S, S = cf (x :: L) M := ⟨_, rfl⟩
    have HS := hide hS
    rw [← hS]
    have HA0 := hide A0
    obtain ⟨n1, hn1e⟩ : ∃ n1, n1 = n - 1 := ⟨_, rfl⟩
    obtain ⟨c1, hc1e⟩ : ∃ c1, c1 = cap - 1 := ⟨_, rfl⟩
    rw [← hn1e] at hsl hn2 hc2
    rw [← hc1e] at hsl hc2 hcm2
    obtain ⟨o1, ho1⟩ : ∃ o1, o1 = (if cap = 1 then o else o + 1) := ⟨_, rfl⟩
    rw [← ho1] at hsl HTL
    have HN2 := hide hn2
    clear hW hL h6 hMb hM hA hn hS A0 hn2 hn1e hc1e ho1
    go_enter Tryd.func58, Tryd.ntmps58
    go_upto_region 1 with (fail)
    rw [HW.out]
    go_wp2
    go_loopw [11, 5] (fun i s wr => ∃ j : Nat, j ≤ 10 ∧ i = .int .i64 (j : Int) ∧ s = .int .i64 (cfp x L M j) ∧ IsA wr w.heap.size M 80 ∧ IAt wr g o (x :: L) ∧ Below w.heap.size w wr) (fun i _ _ => 10 - (intOf i).toNat)
    case atStart => exact ⟨0, Nat.zero_le _, rfl, rfl, HA0.out, HI0.out, q0⟩
    case round =>
      obtain ⟨j, hj, rfl, rfl, A, I, q⟩ := hrel
      clear HA0 HI0 q0
      by_cases hlt : j < 10
      · have hji : (j : Int) < 10 := by omega
        have hMj : M[j]? = some (M.getD j 0) := by
          have : j < M.length := by have := HML.out; omega
          rw [List.getD_eq_getElem?_getD, List.getElem?_eq_getElem this]
          rfl
        have hyb := HMB.out _ (List.mem_of_getElem? hMj)
        have hsu := cfp_succ x L M j
        have hb1 := cfp_bd (x := x) (L := L) (C := M) (by have := HML.out; omega) (by omega) j (by omega)
        have hb2 := cf_bd6 (L := L) (C := M.set j (M.getD j 0 - x)) (by rw [List.length_set]; have := HML.out; omega) (by omega)
        obtain ⟨cm, fm⟩ := A.cell hMj
        have cx := I.2 0 x rfl
        simp only [Nat.add_zero] at cx
        have HR := hide (fun (hyx : x ≤ M.getD j 0) => HREC.out (M.set j (M.getD j 0 - x)) (by rw [List.length_set]; exact HML.out) (fun z hz => by
          rcases List.mem_or_eq_of_mem_set hz with h | h
          · exact HMB.out z h
          · rw [h]; omega))
        have HMS := hide (fun (W : World) (b : Nat) (h : IsA W b M 80) => h.set j (by have := HML.out; omega) (M.getD j 0 - x))
        generalize M.getD j 0 = y at hMj hyb hsu hb2 cm HR HMS
        have HMJ := hide hMj
        generalize cfp x L M j = s at hsu hb1 ⊢
        obtain ⟨r, hr⟩ : ∃ r, r = cf L (M.set j (y - x)) := ⟨_, rfl⟩
        rw [← hr] at hsu hb2 HR
        have hws : IntKind.i64.wrap (s + r) = s + r := IntWalk.i64_in _ (by omega)
        have hwy : IntKind.i64.wrap (y - x) = y - x := IntWalk.i64_in _ (by omega)
        have HWS := hide hws
        have HWY := hide hwy
        have HAA := hide A
        have HII := hide I
        clear A I hMj hr hws hwy
        by_cases hyx : x ≤ y
        · rw [if_pos hyx] at hsu
          have HSU := hide hsu
          have HRR := hide (HR.out hyx)
          clear hsu HR
          go_upto_region 7 with (fail)
          go_region_held3 (fun w' => w'.cell? ⟨w.heap.size, j, none⟩ = some (.int .i64 y) ∧ w'.cell? ⟨g, o, none⟩ = some (.int .i64 x)) (first | (refine ⟨?_, ?_⟩ <;> with_reducible assumption) | (refine ⟨?_, ?_⟩ <;> assumption)) (fail)
          have Z0 := hide (show IsA (wr.alloc (.cells #[.int .i64 0, .int .i64 0, .int .i64 0, .int .i64 0, .int .i64 0, .int .i64 0, .int .i64 0, .int .i64 0, .int .i64 0, .int .i64 0] 80)).drew wr.heap.size (List.replicate 10 0) 80 from IsA.new (w := wr.drew) (M := List.replicate 10 0))
          have r0 : Below wr.drew.heap.size wr.drew (wr.alloc (.cells #[.int .i64 0, .int .i64 0, .int .i64 0, .int .i64 0, .int .i64 0, .int .i64 0, .int .i64 0, .int .i64 0, .int .i64 0, .int .i64 0] 80)).drew := (Below.refl _ _).alloc (Nat.le_refl _) _
          have B2 := Z0.out.row (N := M)
          have A2 := hide ((IsA.to (w0 := wr.drew) (w := wr) r0 HAA.out rfl).rowOther (g := wr.heap.size) (by have := HAA.out.lt; omega) (ints M).toArray)
          have I2 := hide (iAt_row (iAt_to (w0 := wr.drew) (w := wr) r0 HII.out rfl) (b := wr.heap.size) (by have := HII.out.1; omega) (ints M).toArray)
          have q2 := below_setRow (below_to r0 q q.size rfl rfl rfl rfl) (show w.heap.size ≤ wr.heap.size from q.size) (ints M).toArray
          have hbw : w.heap.size < wr.heap.size := HAA.out.lt
          have hbg : g < wr.heap.size := HII.out.1
          clear r0
          go_upto_region 9 with (first
            | (refine wpList_load_row rfl 80 (.tmp 3) rfl w.heap.size rfl _ _ _ _ HAA.out und_num rfl (by rw [ints_size, HML.out]; exact size_num) ?_)
            | (refine wpList_store_row rfl 80 (.tmp 7) (.tmp 21) rfl wr.heap.size (ints M).toArray rfl rfl _ _ Z0.out (by rw [ints_size, HML.out]; exact size_num) (by rw [ints_size, ints_size, HML.out]; rfl) (ints_one M) ?_))
          generalize (wr.alloc (.cells #[.int .i64 0, .int .i64 0, .int .i64 0, .int .i64 0, .int .i64 0, .int .i64 0, .int .i64 0, .int .i64 0, .int .i64 0, .int .i64 0] 80)).drew.setRow wr.heap.size (ints M).toArray = W2 at B2 A2 I2 q2 ⊢
          generalize wr.heap.size = b2 at B2 hbw hbg ⊢
          have cy := B2.cell HMJ.out
          have HB3 := hide (HMS.out W2 b2 B2)
          have A3 := hide (A2.out.other (p := ⟨b2, j, none⟩) (by simp; omega) (.int .i64 (y - x)))
          have I3 := hide (show IAt (W2.setCell ⟨b2, j, none⟩ (.int .i64 (y - x))) g o (x :: L) from ⟨by have := I2.out.1; simpa [World.setCell] using this, fun i z hi => by rw [World.cell?_of_block (Below.heap_setCell W2 ⟨b2, j, none⟩ _ g (by simp; omega))]; exact I2.out.2 i z hi⟩)
          have q3 := q2.setCell (p := ⟨b2, j, none⟩) (by simp; omega) (.int .i64 (y - x))
          have cx2 := I2.out.2 0 x rfl
          simp only [Nat.add_zero] at cx2
          obtain ⟨cy1, cy2⟩ := cy
          have hwy := HWY.out
          clear cm fm cx q q2 A2 B2 HAA HII I2 Z0
          go_frame
          go_region
          go_upto_region 10 with (fail)
          refine wp_region_held_drew (S := (fun w' => True)) (by kernel_rfl) trivial (fun hHeld => ?_)
          refine takeD (i := 0) (v := ?_) 30 rfl rfl (by kernel_rfl) (by kernel_rfl) (by kernel_rfl) (fun _ _ _ h => h) (Or.inl ⟨by rfl, ?_⟩) trivial ?_
          rotate_left 1
          · (intro w hSw; go_simp; (try with_reducible rfl))
          try simp only [Act.put, List.setIfInBounds_toArray, List.set_cons_zero, List.set_cons_succ]
          refine takeD (i := 1) (v := ?_) 31 rfl rfl (by kernel_rfl) (by kernel_rfl) (by kernel_rfl) (fun _ _ _ h => h) (Or.inl ⟨by rfl, ?_⟩) trivial ?_
          rotate_left 1
          · (intro w hSw; go_simp; (try with_reducible rfl))
          try simp only [Act.put, List.setIfInBounds_toArray, List.set_cons_zero, List.set_cons_succ]
          refine takeD (i := 2) (v := ?_) 32 rfl rfl (by kernel_rfl) (by kernel_rfl) (by kernel_rfl) (fun _ _ _ h => h) (Or.inl ⟨by rfl, ?_⟩) trivial ?_
          rotate_left 1
          · (intro w hSw; go_simp; (try with_reducible rfl))
          try simp only [Act.put, List.setIfInBounds_toArray, List.set_cons_zero, List.set_cons_succ]
          refine wpAnyH_ready (rs := [3]) (by kernel_rfl) (by simp) ?_
          refine AllReadyH.cons (o := _) rfl (fun K hK => ?_) AllReadyH.nil
          refine step_load_row rfl 80 (.tmp 7) rfl b2 rfl _ _ _ _ HB3.out und_num rfl (by rw [ints_size, List.length_set, HML.out]; exact size_num) ?_
          refine hK.out _ _ trivial (fun _ => ?_)
          clear hK
          try simp only [Act.put, List.setIfInBounds_toArray, List.set_cons_zero, List.set_cons_succ]
          refine wpAnyH_ready (rs := [4]) (by kernel_rfl) (by simp) ?_
          refine AllReadyH.cons (o := _) rfl (fun K hK => ?_) AllReadyH.nil
          go_simp
          go_at_call 58
          refine Calls.mono (HRR.out g o1 n1 c1 _ HN2.out hc2 hcm2 ?_) ?_
          · exact HTL.out _ I3.out
          rintro e w5 ⟨rfl, hb5⟩
          have A5 := hide (IsA.to hb5 A3.out rfl)
          have I5 := hide (iAt_to hb5 I3.out rfl)
          have q5 := below_to hb5 q3 q3.size rfl rfl rfl rfl
          clear hb5 A3 I3 q3 HB3
          dsimp only
          refine hK.out _ _ trivial (fun _ => ?_)
          clear hK
          try simp only [Act.put, List.setIfInBounds_toArray, List.set_cons_zero, List.set_cons_succ]
          have hws := HWS.out
          refine takeD (i := 5) (v := ?_) 35 rfl rfl (by kernel_rfl) (by kernel_rfl) (by kernel_rfl) (fun _ _ _ h => h) (Or.inl ⟨by rfl, ?_⟩) trivial ?_
          rotate_left 1
          · (intro w hSw; go_simp; (try with_reducible rfl))
          try simp only [Act.put, List.setIfInBounds_toArray, List.set_cons_zero, List.set_cons_succ]
          refine takeD (i := 6) (v := ?_) 5 rfl rfl (by kernel_rfl) (by kernel_rfl) (by kernel_rfl) (fun _ _ _ h => h) (Or.inl ⟨by rfl, ?_⟩) trivial ?_
          rotate_left 1
          · (intro w hSw; go_simp; (try with_reducible rfl))
          try simp only [Act.put, List.setIfInBounds_toArray, List.set_cons_zero, List.set_cons_succ]
          refine wpAnyH_done (by kernel_rfl) ?_ _
          clear hws
          go_wp2
          go_roundw
          case rel => exact ⟨j + 1, by omega, by go_num, by rw [HSU.out], A5.out, I5.out, q5⟩
          case measure => simp [intOf] <;> omega
        · rw [if_neg hyx] at hsu
          have HSU := hide hsu
          clear hsu HR
          go_upto_region 7 with (fail)
          go_region_held3 (fun w' => w'.cell? ⟨w.heap.size, j, none⟩ = some (.int .i64 y) ∧ w'.cell? ⟨g, o, none⟩ = some (.int .i64 x)) (first | (refine ⟨?_, ?_⟩ <;> with_reducible assumption) | (refine ⟨?_, ?_⟩ <;> assumption)) (fail)
          go_wp2
          go_roundw
          case rel => exact ⟨j + 1, by omega, by go_num, by rw [HSU.out, Int.add_zero], HAA.out, HII.out, q.drew⟩
          case measure => simp [intOf] <;> omega
      · obtain rfl : j = 10 := by omega
        have he : cfp x L M 10 = S := by rw [HS.out, ← cfp_done, HML.out]
        rw [he]
        clear he A I
        go_wp2
        go_returns
        exact ⟨rfl, q⟩
end Go.Proofs.YtjikpkembcnfnaaDoor
