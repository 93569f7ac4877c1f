/- The walk of the law of ColorsOf. -/
import Derived.Test.YtkiocklkpnjejaaCycI
import Derived.Test.YtkiocklkpnjejaaGood
import Derived.Test.YtkiocklkpnjejaaDieS
import Derived.Test.YtkiocklkpnjejaaWalksA
namespace Go.Proofs.Ytkiocklkpnjejaa
set_option maxRecDepth 100000
set_option linter.all false
open Go.RowKit

theorem isD_below {w w1 : World} {B b : Nat} {d : D} {ty : TypeId} (hb : Below B w w1) (h : IsD w b d ty) (hl : b < B) : IsD w1 b d ty := by
  unfold IsD at h ⊢
  rw [hb.block b hl]
  exact h
/-- How often each of the numbers 0 to 9 is there. -/
def cntU (L : List Int) : List Int := (List.range 10).map (fun (i : Nat) => ((L.count (i : Int) : Nat) : Int))
theorem cntU_len (L : List Int) : (cntU L).length = 10 := by simp [cntU]
theorem cntU_get (L : List Int) (n : Nat) (h : n < 10) : (cntU L)[n]? = some ((L.count (n : Int) : Nat) : Int) := by
  unfold cntU
  rw [List.getElem?_map, List.getElem?_range h]
  rfl
theorem cntU_snoc (L : List Int) (n : Nat) (h : n < 10) : (cntU L).set n (((L.count (n : Int) : Nat) : Int) + 1) = cntU (L ++ [(n : Int)]) := by
  apply List.ext_getElem?
  intro j
  rw [List.getElem?_set]
  by_cases hj : j < 10
  · rw [cntU_get _ j hj, cntU_get _ j hj, cntU_len]
    by_cases hn : n = j
    · subst hn
      rw [if_pos rfl, if_pos hj, List.count_append]
      simp
    · rw [if_neg hn, List.count_append]
      have : ¬ (n : Int) = (j : Int) := by omega
      simp [List.count_singleton, this]
  · have h1 : (cntU L)[j]? = none := List.getElem?_eq_none (by rw [cntU_len]; omega)
    have h2 : (cntU (L ++ [(n : Int)]))[j]? = none := List.getElem?_eq_none (by rw [cntU_len]; omega)
    rw [h1, h2]
    have : ¬ n = j := by omega
    rw [if_neg this]
theorem cntU_zero : cntU [] = List.replicate 10 0 := by decide
/-- What ColorsOf answers. -/
def coL (d : D) : List Int := if goodB d = true then cntU (fl d) else []
theorem coL_len (d : D) : (coL d).length ≤ 100000 := by
  unfold coL
  split
  · rw [cntU_len]; decide
  · simp
theorem fl_good {d : D} (h : goodB d = true) (j : Nat) (hj : j < 6) : ∃ n : Nat, n < 10 ∧ (fl d)[j]? = some (n : Int) ∧ (fl d).take (j + 1) = (fl d).take j ++ [(n : Int)] := by
  simp only [goodB, decide_eq_true_eq] at h
  have hl : (fl d)[j]? = some ((fl d)[j]'(by simpa [fl] using hj)) := List.getElem?_eq_getElem _
  have hb : 0 ≤ (fl d)[j]'(by simpa [fl] using hj) ∧ (fl d)[j]'(by simpa [fl] using hj) ≤ 9 := by
    match j, hj with
    | 0, _ => exact ⟨h.1, h.2.1⟩
    | 1, _ => exact ⟨h.2.2.1, h.2.2.2.1⟩
    | 2, _ => exact ⟨h.2.2.2.2.1, h.2.2.2.2.2.1⟩
    | 3, _ => exact ⟨h.2.2.2.2.2.2.1, h.2.2.2.2.2.2.2.1⟩
    | 4, _ => exact ⟨h.2.2.2.2.2.2.2.2.1, h.2.2.2.2.2.2.2.2.2.1⟩
    | 5, _ => exact ⟨h.2.2.2.2.2.2.2.2.2.2.1, h.2.2.2.2.2.2.2.2.2.2.2⟩
  generalize (fl d)[j]'(by simpa [fl] using hj) = x at hl hb
  refine ⟨x.toNat, by omega, by rw [hl]; congr 1; omega, ?_⟩
  rw [List.take_add_one, hl]
  congr 1
  show [x] = _
  congr 1
  omega
theorem index_fl (d : D) : ∀ (j : Nat) (hj : j < 6) (x : Int), (fl d)[j]? = some x → ∀ wx : World, (Instr.index 69 (D.v d) (.int .i64 (j : Int))).run Try.prog wx = .ok (.int .i64 x) wx
  | 0, _, x, h, _ => by simp [fl] at h; subst h; kernel_rfl
  | 1, _, x, h, _ => by simp [fl] at h; subst h; kernel_rfl
  | 2, _, x, h, _ => by simp [fl] at h; subst h; kernel_rfl
  | 3, _, x, h, _ => by simp [fl] at h; subst h; kernel_rfl
  | 4, _, x, h, _ => by simp [fl] at h; subst h; kernel_rfl
  | 5, _, x, h, _ => by simp [fl] at h; subst h; kernel_rfl
theorem made_ten : (madeCells (Value.int .i64 0).cells (10 * 1)).toList = ints (List.replicate 10 0) := by
  have hc : (Value.int IntKind.i64 0).cells = #[Value.int .i64 0] := rfl
  simp [madeCells, hc, List.range_succ, ints]
def CoPost (d : D) (w : World) (e : Ending) (w' : World) : Prop := ∃ v, e = .returned (.tuple #[v, .bool (goodB d)]) ∧ w'.ownsRow w.heap.size 3 1 v (coL d).length (ints (coL d)) ∧ Below w.heap.size w w'
set_option maxHeartbeats 1600000 in
theorem specCO_no (d : D) (w : World) (h : goodB d = false) : Calls Try.prog 15 #[D.v d] w fun e w' => e = .returned (.tuple #[.slice none 0 0, .bool false]) ∧ Below w.heap.size w w' := by
  have HG := hide h
  clear h
  go_enter Try.func15, Try.ntmps15
  go_wp2_with fail
  refine (diGood_any d _).mono ?_
  rintro e w1 ⟨rfl, hb1⟩
  rw [HG.out]
  have q1 : Below w.heap.size w w1 := below_after (by go_grown) hb1 (by simp)
  clear hb1
  go_wp2
  go_returns
  exact ⟨rfl, q1⟩
set_option maxHeartbeats 3200000 in
theorem specCO_yes (d : D) (w : World) (h : goodB d = true) : Calls Try.prog 15 #[D.v d] w fun e w' => ∃ v, e = .returned (.tuple #[v, .bool true]) ∧ w'.ownsRow w.heap.size 3 1 v 10 (ints (cntU (fl d))) ∧ Below w.heap.size w w' := by
  have HG := hide h
  have HF := hide (fun j hj => fl_good h j hj)
  clear h
  obtain ⟨i0, hi, hz0, hz1, hz2⟩ := info_parts info_intI
  have HI := hide hi
  have HZ0 := hide hz0
  have HZ1 := hide hz1
  have HZ2 := hide hz2
  clear hi hz0 hz1 hz2
  go_enter Try.func15, Try.ntmps15
  go_wp2_with fail
  refine (diGood_any d _).mono ?_
  rintro e w1 ⟨rfl, hb1⟩
  rw [HG.out]
  have g1 := (IsD.new (d := d)).below rfl hb1
  have q1 : Below w.heap.size w w1 := below_after (by go_grown) hb1 (by simp)
  clear hb1
  obtain ⟨lq, ⟨c0, c1, c2, c3, c4, c5⟩, -⟩ := g1.all
  go_wp2_with (at_make; refine wpList_make_full _ rfl _ _ 27 rfl w1.heap.size 3 i0 (.int .i64 0) 1 Try.underlying27 HI.out HZ0.out HZ1.out .i64 .i64 _ _ 10 rfl rfl rfl rfl (by rw [HZ2.out]; omega) (by unfold maxLen; omega) (Nat.le_refl _) ?_; intro w2 O2 g2; rw [made_ten] at O2; have GD2 := (show IsD w2 w.heap.size d 30 from (g2.block _ g1.lt (by simp)).trans g1); have q2 := q1.grown g2 q1.size (fun j hj => by cases hj); have hgs := g2.size; clear c0 c1 c2 c3 c4 c5 g2; obtain ⟨lq, ⟨c0, c1, c2, c3, c4, c5⟩, -⟩ := GD2.all)
  clear c0 c1 c2 c3 c4 c5
  refine (diFaces_any d _).mono ?_
  rintro e w3 ⟨rfl, rfl⟩
  have A3 : At6 ((w2.alloc (.cells #[.int .i64 d.t, .int .i64 d.n, .int .i64 d.e, .int .i64 d.s, .int .i64 d.w, .int .i64 d.b] 30)).alloc (.cells #[.int .i64 d.t, .int .i64 d.n, .int .i64 d.e, .int .i64 d.s, .int .i64 d.w, .int .i64 d.b] 3)) (w2.heap.size + 1) (fl d) := by
    have := At6.new (w := w2.alloc (.cells #[.int .i64 d.t, .int .i64 d.n, .int .i64 d.e, .int .i64 d.s, .int .i64 d.w, .int .i64 d.b] 30)) (d := d) (ty := 3)
    simpa using this
  have O3 := hide (((own_mono O2 q1.size).alloc (.cells #[.int .i64 d.t, .int .i64 d.n, .int .i64 d.e, .int .i64 d.s, .int .i64 d.w, .int .i64 d.b] 30)).alloc (.cells #[.int .i64 d.t, .int .i64 d.n, .int .i64 d.e, .int .i64 d.s, .int .i64 d.w, .int .i64 d.b] 3))
  have HQ := hide ((q2.alloc q2.size (.cells #[.int .i64 d.t, .int .i64 d.n, .int .i64 d.e, .int .i64 d.s, .int .i64 d.w, .int .i64 d.b] 30)).alloc (by have := q2.size; simp; omega) (.cells #[.int .i64 d.t, .int .i64 d.n, .int .i64 d.e, .int .i64 d.s, .int .i64 d.w, .int .i64 d.b] 3))
  have hg2 := (O2.lt w1.heap.size rfl).2
  generalize (w2.alloc _).alloc _ = w3 at A3 O3 HQ ⊢
  obtain ⟨bF, hbF⟩ : ∃ b, b = w2.heap.size + 1 := ⟨_, rfl⟩
  obtain ⟨g, hgv⟩ : ∃ g, g = w1.heap.size := ⟨_, rfl⟩
  have hwg : w.heap.size ≤ g := by have := q1.size; omega
  have hne : bF ≠ g := by omega
  rw [← hbF] at A3 ⊢
  rw [← hgv] at O3 ⊢
  clear hgv hbF q1 q2 g1 hgs O2 GD2 hg2
  have HA := hide A3
  clear A3
  go_wp2
  go_loopw [14, 6] (fun i _ wr => ∃ k : Nat, k ≤ 6 ∧ i = .int .i64 (k : Int) ∧ wr.ownsRow w.heap.size 3 1 (.slice (some ⟨g, 0, none⟩) 10 10) 10 (ints (cntU ((fl d).take k))) ∧ At6 wr bF (fl d) ∧ Below w.heap.size w wr) (fun i _ _ => 6 - (intOf i).toNat)
  case atStart => exact ⟨0, Nat.zero_le _, rfl, by rw [List.take_zero, cntU_zero]; exact O3.out, HA.out, HQ.out⟩
  case round =>
    obtain ⟨k, hk, rfl, O, A, q⟩ := hrel
    clear O3 HQ HA
    by_cases hlt : k < 6
    · obtain ⟨n, hn, hx, hs⟩ := HF.out k hlt
      have hki : (k : Int) < 6 := by omega
      have hni : (n : Int) < 10 := by omega
      have cx := A.2 k _ hx
      have HA2 := hide (A.other (p := ⟨g, n, none⟩) hne (.int .i64 (((((fl d).take k).count (n : Int) : Nat) : Int) + 1)))
      clear A
      have cg := ints_cell O n _ (cntU_get ((fl d).take k) n hn)
      have fg := own_free O n
      have hcl : ((fl d).take k).count (n : Int) ≤ 6 := Nat.le_trans List.count_le_length (by rw [List.length_take]; omega)
      have HO := hide (own_put O n (by omega) (.int .i64 (((((fl d).take k).count (n : Int) : Nat) : Int) + 1)))
      rw [ints_set, cntU_snoc _ n hn, ← hs] at HO
      have HQ := hide (q.setCell (p := ⟨g, n, none⟩) hwg (.int .i64 (((((fl d).take k).count (n : Int) : Nat) : Int) + 1)))
      generalize ((fl d).take k).count (n : Int) = c at *
      clear O q hs hx
      go_wp2
      go_roundw
      case rel => exact ⟨k + 1, by omega, by go_num, HO.out, HA2.out, HQ.out⟩
      case measure => simp [intOf] <;> omega
    · obtain rfl : k = 6 := by omega
      have HO := hide O
      clear O A
      go_wp2
      go_returns
      exact ⟨_, rfl, HO.out, q⟩
theorem specCO_any (d : D) (w : World) : Calls Try.prog 15 #[D.v d] w (CoPost d w) := by
  unfold CoPost coL
  cases h : goodB d
  · rw [if_neg (by decide)]
    exact (specCO_no d w h).mono fun e w' k => ⟨_, k.1, World.ownsRow_nil _ _ _ _, k.2⟩
  · rw [if_pos rfl, cntU_len]
    exact specCO_yes d w h
set_option maxHeartbeats 1600000 in
theorem implCO_no (d : D) (w : World) (h : goodB d = false) : Calls Try.prog 17 #[D.v d] w fun e w' => e = .returned (.tuple #[.slice none 0 0, .bool false]) ∧ Below w.heap.size w w' := by
  have HG := hide h
  clear h
  go_enter Try.func17, Try.ntmps17
  go_wp2_with fail
  refine (isDie_any d _).mono ?_
  rintro e w1 ⟨rfl, hb1⟩
  rw [HG.out]
  have q1 : Below w.heap.size w w1 := below_after (by go_grown) hb1 (by simp)
  clear hb1
  go_wp2
  go_returns
  exact ⟨rfl, q1⟩
set_option maxHeartbeats 3200000 in
theorem implCO_yes (d : D) (w : World) (h : goodB d = true) : Calls Try.prog 17 #[D.v d] w fun e w' => ∃ v, e = .returned (.tuple #[v, .bool true]) ∧ w'.ownsRow w.heap.size 3 1 v 10 (ints (cntU (fl d))) ∧ Below w.heap.size w w' := by
  have HG := hide h
  have HF := hide (fun j hj => fl_good h j hj)
  clear h
  obtain ⟨i0, hi, hz0, hz1, hz2⟩ := info_parts info_intI
  have HI := hide hi
  have HZ0 := hide hz0
  have HZ1 := hide hz1
  have HZ2 := hide hz2
  clear hi hz0 hz1 hz2
  go_enter Try.func17, Try.ntmps17
  go_wp2_with fail
  refine (isDie_any d _).mono ?_
  rintro e w1 ⟨rfl, hb1⟩
  rw [HG.out]
  have g1 := (IsD.new (d := d)).below rfl hb1
  have q1 : Below w.heap.size w w1 := below_after (by go_grown) hb1 (by simp)
  clear hb1
  obtain ⟨lq, ⟨c0, c1, c2, c3, c4, c5⟩, -⟩ := g1.all
  go_wp2_with (at_make; refine wpList_make_full _ rfl _ _ 27 rfl w1.heap.size 3 i0 (.int .i64 0) 1 Try.underlying27 HI.out HZ0.out HZ1.out .i64 .i64 _ _ 10 rfl rfl rfl rfl (by rw [HZ2.out]; omega) (by unfold maxLen; omega) (Nat.le_refl _) ?_; intro w2 O2 g2; rw [made_ten] at O2; have GD2 := (show IsD w2 w.heap.size d 30 from (g2.block _ g1.lt (by simp)).trans g1); have q2 := q1.grown g2 q1.size (fun j hj => by cases hj); have hgs := g2.size; clear c0 c1 c2 c3 c4 c5 g2; obtain ⟨lq, ⟨c0, c1, c2, c3, c4, c5⟩, -⟩ := GD2.all)
  clear c0 c1 c2 c3 c4 c5
  refine (facesOf_any d _).mono ?_
  rintro e w3 ⟨rfl, hb3⟩
  have O3 := hide (own_to hb3 (own_mono O2 q1.size) rfl)
  have q3 := below_to hb3 q2 q2.size rfl rfl rfl rfl
  clear hb3 q2 O2 GD2
  obtain ⟨g, hgv⟩ : ∃ g, g = w1.heap.size := ⟨_, rfl⟩
  have hwg : w.heap.size ≤ g := by have := q1.size; omega
  rw [← hgv] at O3 ⊢
  clear hgv q1 g1 hgs
  have HQ := hide q3
  clear q3
  go_wp2
  go_loopw [13, 6] (fun i _ wr => ∃ k : Nat, k ≤ 6 ∧ i = .int .i64 (k : Int) ∧ wr.ownsRow w.heap.size 3 1 (.slice (some ⟨g, 0, none⟩) 10 10) 10 (ints (cntU ((fl d).take k))) ∧ Below w.heap.size w wr) (fun i _ _ => 6 - (intOf i).toNat)
  case atStart => exact ⟨0, Nat.zero_le _, rfl, by rw [List.take_zero, cntU_zero]; exact O3.out, HQ.out⟩
  case round =>
    obtain ⟨k, hk, rfl, O, q⟩ := hrel
    clear O3 HQ
    by_cases hlt : k < 6
    · obtain ⟨n, hn, hx, hs⟩ := HF.out k hlt
      have hki : (k : Int) < 6 := by omega
      have hni : (n : Int) < 10 := by omega
      have ix := index_fl d k hlt _ hx
      have cg := ints_cell O n _ (cntU_get ((fl d).take k) n hn)
      have fg := own_free O n
      have hcl : ((fl d).take k).count (n : Int) ≤ 6 := Nat.le_trans List.count_le_length (by rw [List.length_take]; omega)
      have HO := hide (own_put O n (by omega) (.int .i64 (((((fl d).take k).count (n : Int) : Nat) : Int) + 1)))
      rw [ints_set, cntU_snoc _ n hn, ← hs] at HO
      have HQ := hide (q.setCell (p := ⟨g, n, none⟩) hwg (.int .i64 (((((fl d).take k).count (n : Int) : Nat) : Int) + 1)))
      generalize ((fl d).take k).count (n : Int) = c at *
      clear O q hs hx
      go_wp2
      go_roundw
      case rel => exact ⟨k + 1, by omega, by go_num, HO.out, HQ.out⟩
      case measure => simp [intOf] <;> omega
    · obtain rfl : k = 6 := by omega
      have HO := hide O
      clear O
      go_wp2
      go_returns
      exact ⟨_, rfl, HO.out, q⟩
theorem implCO_any (d : D) (w : World) : Calls Try.prog 17 #[D.v d] w (CoPost d w) := by
  unfold CoPost coL
  cases h : goodB d
  · rw [if_neg (by decide)]
    exact (implCO_no d w h).mono fun e w' k => ⟨_, k.1, World.ownsRow_nil _ _ _ _, k.2⟩
  · rw [if_pos rfl, cntU_len]
    exact implCO_yes d w h
set_option maxHeartbeats 3200000 in
theorem walk_ColorsOf (d0 : D) (w : World) : Calls Try.prog 4 #[D.v d0] w fun e w' => e = .returned (.bool true) ∧ Below w.heap.size w w' := by
  have hlen := hide (show (coL d0).length ≤ 100000 from coL_len _)
  obtain ⟨Z, hZ⟩ : ∃ Z, Z = coL d0 := ⟨_, rfl⟩
  have HZ := hide hZ
  clear hZ
  rw [← HZ.out] at hlen
  obtain ⟨ok, hok⟩ : ∃ ok, ok = goodB d0 := ⟨_, rfl⟩
  have HOK := hide hok
  clear hok
  have e1 : (ok != ok) = false := by simp
  obtain ⟨N, hN⟩ : ∃ N : Int, N = ((Z.length : Nat) : Int) := ⟨_, rfl⟩
  have n1 : ¬ (1 + N < 0) := by omega
  have n2 : ((1 + N) != (1 + N)) = false := by simp
  have HN := hide hN
  clear hN
  go_enter Try.func4, Try.ntmps4
  go_wp2_with fail
  refine (toDie_any d0 _).mono ?_
  rintro e w1 ⟨rfl, hb1⟩
  have q1 : Below w.heap.size w w1 := below_after (by go_grown) hb1 (by simp)
  have GD1 := hide ((IsD.new (d := d0)).below rfl hb1)
  obtain ⟨lq, ⟨c0, c1, c2, c3, c4, c5⟩, -⟩ := GD1.out.all
  clear hb1  
  go_wp2_with fail
  clear c0 c1 c2 c3 c4 c5
  refine (specCO_any d0 _).mono ?_
  rintro e w2 ⟨r0, rfl, O2, hb2⟩
  have q2 := below_to hb2 q1 q1.size rfl rfl rfl rfl
  have GD2 := hide (GD1.out.below rfl hb2)
  obtain ⟨lq, ⟨c0, c1, c2, c3, c4, c5⟩, -⟩ := GD2.out.all
  rw [← HZ.out] at O2
  rw [← HOK.out]
  have HO2 := hide (O2)
  clear hb2 GD1 q1 O2
  go_wp2_with fail
  clear c0 c1 c2 c3 c4 c5
  refine (toDie_any d0 _).mono ?_
  rintro e w3 ⟨rfl, hb3⟩
  have q3 := below_to hb3 q2 q2.size rfl rfl rfl rfl
  have HO3 := hide (own_to hb3 HO2.out rfl)
  have GD3 := hide (GD2.out.below rfl hb3)
  obtain ⟨lq, ⟨c0, c1, c2, c3, c4, c5⟩, -⟩ := GD3.out.all
  clear hb3 HO2 GD2 q2 
  have hltO := hide (fun g hg => (HO3.out.lt g hg).2)
  have hltD := hide GD3.out.lt
  have hsq : w.heap.size ≤ _ := q3.size
  go_wp2_with fail
  clear c0 c1 c2 c3 c4 c5
  refine (implCO_any d0 _).mono ?_
  rintro e w4 ⟨r1, rfl, O4, hb4⟩
  have q4 := below_to hb4 q3 q3.size rfl rfl rfl rfl
  have HO4 := hide (own_to hb4 HO3.out rfl)
  have GD4 := hide (GD3.out.below rfl hb4)
  obtain ⟨lq, ⟨c0, c1, c2, c3, c4, c5⟩, -⟩ := GD4.out.all
  rw [← HZ.out] at O4
  rw [← HOK.out]
  have HG4 := hide (O4)
  clear hb4 HO3 GD3 q3 O4
  go_wp2_with fail
  clear c0 c1 c2 c3 c4 c5
  refine (eqIntS_any r1 r0 Z.length _ _ Z _ (by have := hlen.out; omega) HG4.out HO4.out).mono ?_
  rintro e w5 ⟨rfl, hb5⟩
  have q5 := below_to hb5 q4 q4.size rfl rfl rfl rfl
  have HG5 := hide (own_to hb5 HG4.out rfl)
  have HO5 := hide (own_to hb5 HO4.out rfl)
  have GD5 := hide (GD4.out.below rfl hb5)
  obtain ⟨lq, ⟨c0, c1, c2, c3, c4, c5⟩, -⟩ := GD5.out.all
  clear hb5 HG4 HO4 GD4 q4 
  go_wp2_with fail
  clear c0 c1 c2 c3 c4 c5
  refine (markIntS_any r1 Z.length _ Z 1 _ (by have := hlen.out; omega) (by omega) HG5.out).mono ?_
  rintro e w6 ⟨rfl, G6, hb6⟩
  rw [← HN.out]
  have GD6 := hide (isD_below hb6 GD5.out hltD.out)
  obtain ⟨lq, ⟨c0, c1, c2, c3, c4, c5⟩, -⟩ := GD6.out.all
  have q6 := q5.trans (hb6.mono hsq)
  have HO6 := hide (own_below hb6 HO5.out hltO.out)
  have HG6 := hide G6
  clear hb6 G6 q5 HO5 HG5 GD5
  go_wp2_with fail
  clear c0 c1 c2 c3 c4 c5
  refine (heldIntS_any r1 Z.length _ 1 _ (by have := hlen.out; omega) (by omega) HG6.out).mono ?_
  rintro e w' ⟨rfl, rfl⟩
  obtain ⟨lq, ⟨c0, c1, c2, c3, c4, c5⟩, -⟩ := GD6.out.all
  rw [← HN.out]
  go_wp2_with fail
  clear c0 c1 c2 c3 c4 c5
  refine (toDie_any d0 _).mono ?_
  rintro e w7 ⟨rfl, hb7⟩
  have q7 := below_to hb7 q6 q6.size rfl rfl rfl rfl
  have HG7 := hide (own_to hb7 HG6.out rfl)
  have HO7 := hide (own_to hb7 HO6.out rfl)
  have GD7 := hide (GD6.out.below rfl hb7)
  obtain ⟨lq, ⟨c0, c1, c2, c3, c4, c5⟩, -⟩ := GD7.out.all
  clear hb7 HG6 HO6 GD6 q6 
  go_wp2_with fail
  clear c0 c1 c2 c3 c4 c5
  refine (implCO_any d0 _).mono ?_
  rintro e w8 ⟨r2, rfl, O8, hb8⟩
  have q8 := below_to hb8 q7 q7.size rfl rfl rfl rfl
  have HG8 := hide (own_to hb8 HG7.out rfl)
  have HO8 := hide (own_to hb8 HO7.out rfl)
  have GD8 := hide (GD7.out.below rfl hb8)
  obtain ⟨lq, ⟨c0, c1, c2, c3, c4, c5⟩, -⟩ := GD8.out.all
  rw [← HZ.out] at O8
  rw [← HOK.out]
  have HH8 := hide (O8)
  clear hb8 HG7 HO7 GD7 q7 O8
  go_wp2_with fail
  clear c0 c1 c2 c3 c4 c5
  refine (eqIntS_any r2 r0 Z.length _ _ Z _ (by have := hlen.out; omega) HH8.out HO8.out).mono ?_
  rintro e w9 ⟨rfl, hb9⟩
  have q9 := below_to hb9 q8 q8.size rfl rfl rfl rfl
  have HG9 := hide (own_to hb9 HG8.out rfl)
  have HH9 := hide (own_to hb9 HH8.out rfl)
  have HO9 := hide (own_to hb9 HO8.out rfl)
  have GD9 := hide (GD8.out.below rfl hb9)
  obtain ⟨lq, ⟨c0, c1, c2, c3, c4, c5⟩, -⟩ := GD9.out.all
  clear hb9 HG8 HH8 HO8 GD8 q8 
  go_wp2_with fail
  clear c0 c1 c2 c3 c4 c5
  refine (heldIntS_any r1 Z.length _ 1 _ (by have := hlen.out; omega) (by omega) HG9.out).mono ?_
  rintro e w' ⟨rfl, rfl⟩
  obtain ⟨lq, ⟨c0, c1, c2, c3, c4, c5⟩, -⟩ := GD9.out.all
  rw [← HN.out]
  go_wp2
  go_returns
  exact ⟨rfl, q9⟩
end Go.Proofs.Ytkiocklkpnjejaa
