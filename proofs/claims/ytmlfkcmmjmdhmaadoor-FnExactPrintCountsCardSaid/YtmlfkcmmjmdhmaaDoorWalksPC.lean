/- FnExactPrintCounts's walk. -/
import Derived.Test.YtmlfkcmmjmdhmaaDoorWayA
namespace Go.Proofs.YtmlfkcmmjmdhmaaDoor
set_option maxRecDepth 100000
set_option linter.all false
open Go.RowKit

/-- How often each number is printed by the first k states. -/
def cntT (t : St) (L : List UInt8) : Nat → List Int
  | 0 => List.replicate 10 0
  | k + 1 => (cntT t L k).set (atT t L k).d.b.toNat ((cntT t L k).getD (atT t L k).d.b.toNat 0 + 1)
theorem cntT_len (t : St) (L : List UInt8) : ∀ k, (cntT t L k).length = 10
  | 0 => by simp [cntT]
  | k + 1 => by rw [cntT, List.length_set, cntT_len t L k]
theorem cntT_near (t : St) (L : List UInt8) : ∀ (k j : Nat), 0 ≤ (cntT t L k).getD j 0 ∧ (cntT t L k).getD j 0 ≤ k
  | 0, j => by
    have : (cntT t L 0).getD j 0 = 0 := by
      simp only [cntT, List.getD, List.getElem?_replicate]
      split <;> rfl
    rw [this]
    simp
  | k + 1, j => by
    have ih := cntT_near t L k
    rw [cntT]
    simp only [List.getD, List.getElem?_set] at ih ⊢
    have i1 := ih j
    have i2 := ih (atT t L k).d.b.toNat
    split
    · rename_i he
      subst he
      split
      · simp only [Option.getD_some]
        omega
      · simp
        omega
    · omega
theorem ints_setC (xs : List Int) (j : Nat) (x : Int) : (ints xs).set j (.int .i64 x) = ints (xs.set j x) := by simp [ints, List.map_set]
theorem ints_zero : (madeCells (Value.int .i64 0).cells (10 * 1)).toList = ints (List.replicate 10 0) := by simp [madeCells, Value.cells, ints, List.range_succ]
/-- What PrintCounts answers. -/
def pcV (l : List UInt8) (t : St) (L : List UInt8) : List Int := if raB l t L = true then cntT t L (L.length + 1) else []
theorem PrintCounts_len (v : ByteArray) (t : St) (u : ByteArray) : (pcV v.data.toList t u.data.toList).length ≤ 100000 := by
  unfold pcV
  split
  · rw [cntT_len]; omega
  · exact Nat.zero_le _
theorem st_floor2 {l : List UInt8} {t : St} (h : stL l t = true) : goodB t.d = true := (Bool.and_eq_true_iff.1 h).2
set_option maxHeartbeats 3200000 in
theorem specPC_any (s : ByteArray) (t : St) (v : ByteArray) (w : World) (hs : s.size ≤ 1048576) (hv : v.size ≤ 1048576) : Calls Tryd.prog 9 #[.string s, St.v t, .string v] w (fun e w' => ∃ vv, e = .returned (.tuple #[vv, .bool (raB s.data.toList t v.data.toList)]) ∧ w'.ownsRow w.heap.size 3 1 vv (pcV s.data.toList t v.data.toList).length (ints (pcV s.data.toList t v.data.toList)) ∧ Below w.heap.size w w') := by
  cases hra : raB s.data.toList t v.data.toList
  · have HRA := hide hra
    have HP := hide (show pcV s.data.toList t v.data.toList = [] from by unfold pcV; rw [hra]; rfl)
    rw [HP.out]
    clear hra
    go_enter Tryd.func9, Tryd.ntmps9
    go_wp2_with fail
    refine (boWayA_any s t v _ hs hv).mono ?_
    rintro e w1 ⟨vv, rfl, hown, hb1⟩
    rw [HRA.out]
    have q0 : Below w.heap.size w w1 := below_after (by go_grown) hb1 (by simp)
    clear hown hb1
    go_wp2
    go_returns
    exact ⟨.slice none 0 0, rfl, World.ownsRow_nil _ _ _ _, q0⟩
  · have HRA := hide hra
    obtain ⟨p1, p2, p3, p4⟩ := ra_parts hra
    have HGD := hide (show goodB t.d = true from (st_floor2 p2))
    have hlen : v.size ≤ 60 := by have := isWord_len p3; simpa using this
    have hl : v.data.toList.length = v.size := by simp
    have HP := hide (show pcV s.data.toList t v.data.toList = cntT t v.data.toList (v.size + 1) from by unfold pcV; rw [if_pos hra, hl])
    have HSA := hide (show saV s.data.toList t v.data.toList = waysT t v.data.toList v.size from by rw [sa_yes hra, hl])
    rw [HP.out, cntT_len]
    clear hra p1 p2 p3 p4 hl
    obtain ⟨i0, hi, hz0, hz1, hz2⟩ := info_parts info_intI
    have HI := hide hi
    have HZ0 := hide hz0
    have HZ1 := hide hz1
    have HZ2 := hide hz2
    clear hi hz0 hz1 hz2
    go_enter Tryd.func9, Tryd.ntmps9
    go_wp2_with fail
    refine (boWayA_any s t v _ hs hv).mono ?_
    rintro e w1 ⟨vv, rfl, hown, hb1⟩
    rw [HSA.out, waysT_len] at hown
    rw [HRA.out]
    obtain ⟨gq, cq, rfl, -, hgq⟩ := own_form hown (by omega)
    have q0 : Below w.heap.size w w1 := below_after (by go_grown) hb1 (by simp)
    have HO1 := hide (own_mono hown (show w.heap.size ≤ _ from by simp))
    clear hb1 hown
    go_wp2_with (at_make; refine wpList_make_full _ rfl _ _ 33 rfl w1.heap.size 3 i0 (.int .i64 0) 1 Tryd.underlying33 HI.out HZ0.out HZ1.out .i64 .i64 _ _ 10 rfl rfl (by omega) (by omega) (by rw [HZ2.out]; omega) (by unfold maxLen; omega) (Nat.le_refl _) ?_; intro w0 hown0 hgrow0)
    rw [ints_zero] at hown0
    have O0 := hide (HO1.out.kept hgrow0 (.inr (by simp [Value.ownBlock] <;> omega)))
    have q1 : Below w.heap.size w w0 := q0.grown hgrow0 q0.size (fun k hk => by cases hk)
    have hs0 := hgrow0.size
    generalize hg0 : w1.heap.size = g0 at hgq hown0 hs0 ⊢
    have hq0 : w.heap.size ≤ g0 := by have := q0.size; omega
    have HW0 := hide hown0
    clear hgrow0 HO1 hown0 q0 hg0
    go_wp2
    go_loopw [25, 12] (fun i _ wr => ∃ k : Nat, k ≤ v.size + 1 ∧ i = .int .i64 (k : Int) ∧ wr.ownsRow g0 3 1 (.slice (some ⟨g0, 0, none⟩) 10 10) 10 (ints (cntT t v.data.toList k)) ∧ wr.ownsRow w.heap.size 30 8 (.slice (some ⟨gq, 0, none⟩) (v.size + 1) cq) (v.size + 1) (cellsS (waysT t v.data.toList v.size)) ∧ Below w.heap.size w wr) (fun i _ _ => v.size + 1 - (intOf i).toNat)
    case atStart => exact ⟨0, Nat.zero_le _, rfl, HW0.out, O0.out, q1⟩
    case round =>
      obtain ⟨k, hk, rfl, T, O, q⟩ := hrel
      clear HW0 O0 q1
      by_cases hlt : k < v.size + 1
      · obtain ⟨a0, a1, a2, a3, a4, a5, a6, a7⟩ := row_cells_at k O hlt (waysT_get t v.data.toList v.size k (by omega))
        have hbt := good_bot (way_good v.data.toList k HGD.out)
        have hnear := cntT_near t v.data.toList k (atT t v.data.toList k).d.b.toNat
        have hcl := cntT_len t v.data.toList k
        have HS := hide (show cntT t v.data.toList (k + 1) = (cntT t v.data.toList k).set (atT t v.data.toList k).d.b.toNat ((cntT t v.data.toList k).getD (atT t v.data.toList k).d.b.toNat 0 + 1) from rfl)
        generalize cntT t v.data.toList k = P at T hnear hcl HS
        generalize atT t v.data.toList k = u at a0 a1 a2 a3 a4 a5 a6 a7 hbt hnear HS
        obtain ⟨⟨ux, uy, ⟨ut, un, ue, us, uw, ub⟩⟩, rfl⟩ : ∃ u', u' = u := ⟨u, rfl⟩
        simp only at a0 a1 a2 a3 a4 a5 a6 a7 hbt hnear HS
        obtain ⟨b, rfl⟩ : ∃ b : Nat, ub = (b : Int) := ⟨ub.toNat, by omega⟩
        have hb9 : (b : Int) < 10 := by omega
        have hb0 : (0 : Int) ≤ (b : Int) := by omega
        have hbn : b < 10 := by omega
        simp only [Int.toNat_natCast] at hnear HS
        have hPx : P[b]? = some (P.getD b 0) := by simp [List.getD, List.getElem?_eq_getElem (show b < P.length by omega)]
        generalize P.getD b 0 = x at hnear HS hPx
        have hbg : g0 < wr.heap.size := (T.lt g0 rfl).2
        have hk0 : (k : Int) < ((v.size + 1 : Nat) : Int) := by omega
        obtain ⟨l1, ⟨c0, c1, c2, c3, c4, c5, c6, c7⟩, -⟩ := (IsS.new (w := wr) (s := ⟨ux, uy, ⟨ut, un, ue, us, uw, (b : Int)⟩⟩) (ty := 30)).all
        simp only at c0 c1 c2 c3 c4 c5 c6 c7
        have d0 := (T.cellAt b (by omega)).trans (show (ints P)[b]? = some (.int .i64 x) from by simp [ints, hPx])
        have df := own_free T b
        have w1q : IntKind.i64.wrap (x + 1) = x + 1 := IntWalk.i64_in _ (by omega)
        have hne : g0 ≠ wr.heap.size := by omega
        have T3 := hide ((own_put T b (by omega) (.int .i64 (x + 1))).alloc (.cells #[.int .i64 ux, .int .i64 uy, .int .i64 ut, .int .i64 un, .int .i64 ue, .int .i64 us, .int .i64 uw, .int .i64 (b : Int)] 30))
        have O3 := hide ((ownsRow_setCell_other O (a := ⟨g0, b, none⟩) (by simp [Value.ownBlock]; omega) (.int .i64 (x + 1))).alloc (.cells #[.int .i64 ux, .int .i64 uy, .int .i64 ut, .int .i64 un, .int .i64 ue, .int .i64 us, .int .i64 uw, .int .i64 (b : Int)] 30))
        have q3 := q.setCell (p := ⟨g0, b, none⟩) hq0 (.int .i64 (x + 1))
        have q4 := q3.alloc q3.size (.cells #[.int .i64 ux, .int .i64 uy, .int .i64 ut, .int .i64 un, .int .i64 ue, .int .i64 us, .int .i64 uw, .int .i64 (b : Int)] 30)
        clear T O q q3 hPx
        go_wp2
        go_roundw
        case rel => exact ⟨k + 1, by omega, by go_num, by rw [HS.out, ← ints_setC]; exact T3.out, O3.out, q4⟩
        case measure => simp [intOf] <;> omega
      · obtain rfl : k = v.size + 1 := by omega
        have HT := hide (own_mono T hq0)
        clear O T
        go_wp2
        go_returns
        exact ⟨_, rfl, HT.out, q⟩
set_option maxHeartbeats 3200000 in
theorem implPC_any (s : ByteArray) (t : St) (v : ByteArray) (w : World) (hs : s.size ≤ 1048576) (hv : v.size ≤ 1048576) (hg : Glob w) : Calls Tryd.prog 10 #[.string s, St.v t, .string v] w (fun e w' => ∃ vv, e = .returned (.tuple #[vv, .bool (raB s.data.toList t v.data.toList)]) ∧ w'.ownsRow w.heap.size 3 1 vv (pcV s.data.toList t v.data.toList).length (ints (pcV s.data.toList t v.data.toList)) ∧ Below w.heap.size w w') := by
  have HG := hide (show Glob (w.alloc (.cells #[.int .i64 t.x, .int .i64 t.y, .int .i64 t.d.t, .int .i64 t.d.n, .int .i64 t.d.e, .int .i64 t.d.s, .int .i64 t.d.w, .int .i64 t.d.b] 30)) from glob_to (w0 := w) ((Below.refl _ _).alloc (Nat.le_refl _) _) hg rfl)
  clear hg
  cases hra : raB s.data.toList t v.data.toList
  · have HRA := hide hra
    have HP := hide (show pcV s.data.toList t v.data.toList = [] from by unfold pcV; rw [hra]; rfl)
    rw [HP.out]
    clear hra
    go_enter Tryd.func10, Tryd.ntmps10
    go_wp2_with fail
    refine (implSA_any s t v _ hs hv HG.out).mono ?_
    rintro e w1 ⟨vv, rfl, hown, hb1⟩
    rw [HRA.out]
    have q0 : Below w.heap.size w w1 := below_after (by go_grown) hb1 (by simp)
    clear hown hb1
    go_wp2
    go_returns
    exact ⟨.slice none 0 0, rfl, World.ownsRow_nil _ _ _ _, q0⟩
  · have HRA := hide hra
    obtain ⟨p1, p2, p3, p4⟩ := ra_parts hra
    have HGD := hide (show goodB t.d = true from (st_floor2 p2))
    have hlen : v.size ≤ 60 := by have := isWord_len p3; simpa using this
    have hl : v.data.toList.length = v.size := by simp
    have HP := hide (show pcV s.data.toList t v.data.toList = cntT t v.data.toList (v.size + 1) from by unfold pcV; rw [if_pos hra, hl])
    have HSA := hide (show saV s.data.toList t v.data.toList = waysT t v.data.toList v.size from by rw [sa_yes hra, hl])
    rw [HP.out, cntT_len]
    clear hra p1 p2 p3 p4 hl
    obtain ⟨i0, hi, hz0, hz1, hz2⟩ := info_parts info_intI
    have HI := hide hi
    have HZ0 := hide hz0
    have HZ1 := hide hz1
    have HZ2 := hide hz2
    clear hi hz0 hz1 hz2
    go_enter Tryd.func10, Tryd.ntmps10
    go_wp2_with fail
    refine (implSA_any s t v _ hs hv HG.out).mono ?_
    rintro e w1 ⟨vv, rfl, hown, hb1⟩
    rw [HSA.out, waysT_len] at hown
    rw [HRA.out]
    obtain ⟨gq, cq, rfl, -, hgq⟩ := own_form hown (by omega)
    have q0 : Below w.heap.size w w1 := below_after (by go_grown) hb1 (by simp)
    have HO1 := hide (own_mono hown (show w.heap.size ≤ _ from by simp))
    clear hb1 hown
    go_wp2_with (at_make; refine wpList_make_full _ rfl _ _ 33 rfl w1.heap.size 3 i0 (.int .i64 0) 1 Tryd.underlying33 HI.out HZ0.out HZ1.out .i64 .i64 _ _ 10 rfl rfl (by omega) (by omega) (by rw [HZ2.out]; omega) (by unfold maxLen; omega) (Nat.le_refl _) ?_; intro w0 hown0 hgrow0)
    rw [ints_zero] at hown0
    have O0 := hide (HO1.out.kept hgrow0 (.inr (by simp [Value.ownBlock] <;> omega)))
    have q1 : Below w.heap.size w w0 := q0.grown hgrow0 q0.size (fun k hk => by cases hk)
    have hs0 := hgrow0.size
    generalize hg0 : w1.heap.size = g0 at hgq hown0 hs0 ⊢
    have hq0 : w.heap.size ≤ g0 := by have := q0.size; omega
    have HW0 := hide hown0
    clear hgrow0 HO1 hown0 q0 hg0
    go_wp2
    go_loopw [25, 12] (fun i _ wr => ∃ k : Nat, k ≤ v.size + 1 ∧ i = .int .i64 (k : Int) ∧ wr.ownsRow g0 3 1 (.slice (some ⟨g0, 0, none⟩) 10 10) 10 (ints (cntT t v.data.toList k)) ∧ wr.ownsRow w.heap.size 30 8 (.slice (some ⟨gq, 0, none⟩) (v.size + 1) cq) (v.size + 1) (cellsS (waysT t v.data.toList v.size)) ∧ Below w.heap.size w wr) (fun i _ _ => v.size + 1 - (intOf i).toNat)
    case atStart => exact ⟨0, Nat.zero_le _, rfl, HW0.out, O0.out, q1⟩
    case round =>
      obtain ⟨k, hk, rfl, T, O, q⟩ := hrel
      clear HW0 O0 q1
      by_cases hlt : k < v.size + 1
      · obtain ⟨a0, a1, a2, a3, a4, a5, a6, a7⟩ := row_cells_at k O hlt (waysT_get t v.data.toList v.size k (by omega))
        have hbt := good_bot (way_good v.data.toList k HGD.out)
        have hnear := cntT_near t v.data.toList k (atT t v.data.toList k).d.b.toNat
        have hcl := cntT_len t v.data.toList k
        have HS := hide (show cntT t v.data.toList (k + 1) = (cntT t v.data.toList k).set (atT t v.data.toList k).d.b.toNat ((cntT t v.data.toList k).getD (atT t v.data.toList k).d.b.toNat 0 + 1) from rfl)
        generalize cntT t v.data.toList k = P at T hnear hcl HS
        generalize atT t v.data.toList k = u at a0 a1 a2 a3 a4 a5 a6 a7 hbt hnear HS
        obtain ⟨⟨ux, uy, ⟨ut, un, ue, us, uw, ub⟩⟩, rfl⟩ : ∃ u', u' = u := ⟨u, rfl⟩
        simp only at a0 a1 a2 a3 a4 a5 a6 a7 hbt hnear HS
        obtain ⟨b, rfl⟩ : ∃ b : Nat, ub = (b : Int) := ⟨ub.toNat, by omega⟩
        have hb9 : (b : Int) < 10 := by omega
        have hb0 : (0 : Int) ≤ (b : Int) := by omega
        have hbn : b < 10 := by omega
        simp only [Int.toNat_natCast] at hnear HS
        have hPx : P[b]? = some (P.getD b 0) := by simp [List.getD, List.getElem?_eq_getElem (show b < P.length by omega)]
        generalize P.getD b 0 = x at hnear HS hPx
        have hbg : g0 < wr.heap.size := (T.lt g0 rfl).2
        have hk0 : (k : Int) < ((v.size + 1 : Nat) : Int) := by omega
        obtain ⟨l1, ⟨c0, c1, c2, c3, c4, c5, c6, c7⟩, -⟩ := (IsS.new (w := wr) (s := ⟨ux, uy, ⟨ut, un, ue, us, uw, (b : Int)⟩⟩) (ty := 30)).all
        simp only at c0 c1 c2 c3 c4 c5 c6 c7
        have d0 := (T.cellAt b (by omega)).trans (show (ints P)[b]? = some (.int .i64 x) from by simp [ints, hPx])
        have df := own_free T b
        have w1q : IntKind.i64.wrap (x + 1) = x + 1 := IntWalk.i64_in _ (by omega)
        have hne : g0 ≠ wr.heap.size := by omega
        have T3 := hide ((own_put T b (by omega) (.int .i64 (x + 1))).alloc (.cells #[.int .i64 ux, .int .i64 uy, .int .i64 ut, .int .i64 un, .int .i64 ue, .int .i64 us, .int .i64 uw, .int .i64 (b : Int)] 30))
        have O3 := hide ((ownsRow_setCell_other O (a := ⟨g0, b, none⟩) (by simp [Value.ownBlock]; omega) (.int .i64 (x + 1))).alloc (.cells #[.int .i64 ux, .int .i64 uy, .int .i64 ut, .int .i64 un, .int .i64 ue, .int .i64 us, .int .i64 uw, .int .i64 (b : Int)] 30))
        have q3 := q.setCell (p := ⟨g0, b, none⟩) hq0 (.int .i64 (x + 1))
        have q4 := q3.alloc q3.size (.cells #[.int .i64 ux, .int .i64 uy, .int .i64 ut, .int .i64 un, .int .i64 ue, .int .i64 us, .int .i64 uw, .int .i64 (b : Int)] 30)
        clear T O q q3 hPx
        go_wp2
        go_roundw
        case rel => exact ⟨k + 1, by omega, by go_num, by rw [HS.out, ← ints_setC]; exact T3.out, O3.out, q4⟩
        case measure => simp [intOf] <;> omega
      · obtain rfl : k = v.size + 1 := by omega
        have HT := hide (own_mono T hq0)
        clear O T
        go_wp2
        go_returns
        exact ⟨_, rfl, HT.out, q⟩

set_option maxHeartbeats 3200000 in
theorem walk_PrintCounts (v : ByteArray) (hv : v.size ≤ maxLen) (t : St) (htx : (Lit.int .i64 t.x).wf = true) (hty : (Lit.int .i64 t.y).wf = true) (u : ByteArray) (hu : u.size ≤ maxLen) (w : World) (hg : Glob w) : Calls Tryd.prog 4 #[.string v, St.v t, .string u] w fun e w' => e = .returned (.bool true) ∧ Below w.heap.size w w' := by
  have HGL := hide hg
  clear hg
  by_cases h0 : v.size ≤ 1048576
  · have HS0 := hide h0
    by_cases h1 : u.size ≤ 1048576
    · have HS1 := hide h1
      have hlen := hide (show (pcV v.data.toList t u.data.toList).length ≤ 100000 from PrintCounts_len v t u)
      go_enter Tryd.func4, Tryd.ntmps4
      go_wp2_with fail
      refine (toState_any t _).mono ?_
      rintro e w1 ⟨rfl, hb1⟩
      have u1 := isS_to hb1 (IsS.new (w := w) (s := t) (ty := 25)) rfl
      have q1 : Below w.heap.size w w1 := below_after (by go_grown) hb1 (by simp)
      clear hb1
      go_wp2_with fail
      refine (specPC_any v t u _ HS0.out HS1.out).mono ?_
      rintro e w2 ⟨v0, rfl, O2, hb2⟩
      have u2 := isS_to hb2 u1 rfl
      have q2 := below_to hb2 q1 q1.size rfl rfl rfl rfl
      clear hb2 u1
      have HIM := hide (fun wx (hx : Glob wx) => implPC_any v t u wx HS0.out HS1.out hx)
      generalize (pcV v.data.toList t u.data.toList) = Z at hlen O2 HIM
      generalize raB v.data.toList t u.data.toList = ok at HIM ⊢
      obtain ⟨l1, ⟨c0, c1, c2, c3, c4, c5, c6, c7⟩, -⟩ := u2.all
      go_wp2_with fail
      clear c0 c1 c2 c3 c4 c5 c6 c7 l1
      refine (toState_any t _).mono ?_
      rintro e w3 ⟨rfl, hb3⟩
      have u3 := isS_to hb3 u2 rfl
      have q3 := below_to hb3 q2 q2.size rfl rfl rfl rfl
      have O3 := own_to hb3 O2 rfl
      have hg3 := hide (show Glob w3 from by
        have hl := HGL.out.lt
        obtain ⟨m, hm⟩ := HGL.out
        exact ⟨m, (q3.cell (p := ⟨0, 0, none⟩) hl).trans hm⟩)
      have hlt3 : ∀ g, v0.ownBlock = some g → g < w3.heap.size := fun g hg => (O3.lt g hg).2
      clear hb3 u2 O2 q2
      go_wp2_with fail
      refine (HIM.out _ hg3.out).mono ?_
      rintro e w4 ⟨v1, rfl, G4, hb4⟩
      have u4 := isS_to hb4 u3 rfl
      have q4 := below_to hb4 q3 q3.size rfl rfl rfl rfl
      have O4 := own_to hb4 O3 rfl
      have hw3 : w.heap.size < w3.heap.size := u3.lt
      clear hb4 u3 O3 hg3
      go_wp2_with fail
      refine (eqIntS_any v1 v0 Z.length w3.heap.size w1.heap.size Z w4 (by have := hlen.out; omega) G4 O4).mono ?_
      rintro e w5 ⟨rfl, hb5⟩
      have u5 := isS_to hb5 u4 rfl
      have q5 := below_to hb5 q4 q4.size rfl rfl rfl rfl
      have O5 := own_to hb5 O4 rfl
      have G5 := own_to hb5 G4 rfl
      clear hb5 u4 O4 G4 q4
      have e1 : (ok != ok) = false := by simp
      go_wp2_with fail
      refine (markIntS_any v1 Z.length w3.heap.size Z 1 w5 (by have := hlen.out; omega) (by omega) G5).mono ?_
      rintro e w6 ⟨rfl, G6, hb6⟩
      have u6 : IsS w6 w.heap.size t 25 := (hb6.block _ hw3).trans u5
      have q6 : Below w.heap.size w w6 := q5.trans (hb6.mono (by omega))
      have O6 := own_below hb6 O5 hlt3
      clear hb6 u5 O5 G5 q5
      generalize hN : ((Z.length : Nat) : Int) = N at *
      have hN0 : 0 ≤ N := by omega
      have HN := hide hN
      clear hN
      go_wp2_with fail
      refine (heldIntS_any v1 Z.length w3.heap.size 1 w6 (by have := hlen.out; omega) (by omega) G6).mono ?_
      rintro e w7 ⟨rfl, rfl⟩
      rw [HN.out]
      have n1 : ¬ (1 + N < 0) := by omega
      have n2 : ((1 + N) != (1 + N)) = false := by simp
      obtain ⟨l1, ⟨c0, c1, c2, c3, c4, c5, c6, c7⟩, -⟩ := u6.all
      go_wp2_with fail
      clear c0 c1 c2 c3 c4 c5 c6 c7 l1
      refine (toState_any t _).mono ?_
      rintro e w8 ⟨rfl, hb8⟩
      have q8 := below_to hb8 q6 q6.size rfl rfl rfl rfl
      have O8 := own_to hb8 O6 rfl
      have G8 := own_to hb8 G6 rfl
      have hg8 := hide (show Glob w8 from by
        have hl := HGL.out.lt
        obtain ⟨m, hm⟩ := HGL.out
        exact ⟨m, (q8.cell (p := ⟨0, 0, none⟩) hl).trans hm⟩)
      clear hb8 u6 O6 G6 q6
      go_wp2_with fail
      refine (HIM.out _ hg8.out).mono ?_
      rintro e w9 ⟨v2, rfl, H9, hb9⟩
      have q9 := below_to hb9 q8 q8.size rfl rfl rfl rfl
      have O9 := own_to hb9 O8 rfl
      have G9 := own_to hb9 G8 rfl
      clear hb9 O8 G8 hg8 q8
      go_wp2_with fail
      refine (eqIntS_any v2 v0 Z.length w8.heap.size w1.heap.size Z w9 (by have := hlen.out; omega) H9 O9).mono ?_
      rintro e w10 ⟨rfl, hb10⟩
      have q10 := below_to hb10 q9 q9.size rfl rfl rfl rfl
      have G10 := own_to hb10 G9 rfl
      clear hb10 O9 G9 H9 q9
      go_wp2_with fail
      refine (heldIntS_any v1 Z.length w3.heap.size 1 w10 (by have := hlen.out; omega) (by omega) G10).mono ?_
      rintro e w11 ⟨rfl, rfl⟩
      rw [HN.out]
      go_wp2
      go_returns
      exact ⟨rfl, q10⟩
    · go_enter Tryd.func4, Tryd.ntmps4
      go_wp2
      go_returns
      exact ⟨rfl, by go_grown⟩
  · go_enter Tryd.func4, Tryd.ntmps4
    go_wp2
    go_returns
    exact ⟨rfl, by go_grown⟩
end Go.Proofs.YtmlfkcmmjmdhmaaDoor
