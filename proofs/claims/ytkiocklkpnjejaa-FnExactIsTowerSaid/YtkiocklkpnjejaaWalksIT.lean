/- Sides as arrays of numbers; the walk of the law of IsTower. -/
import Derived.Test.YtkiocklkpnjejaaFits
import Derived.Test.YtkiocklkpnjejaaArr
import Derived.Test.YtkiocklkpnjejaaWalksCO
import Derived.StillTailTactics
namespace Go.Proofs.Ytkiocklkpnjejaa
set_option maxRecDepth 100000
set_option linter.all false
open Go.RowKit

theorem fit_cnt {n : Nat} {xs : List Int} (hl : xs.length = n) (hn : n ≤ 9) (hx : ∀ x ∈ xs, 0 ≤ x ∧ x ≤ 9) : decide (cntU xs = eachU n 1) = fitL n xs := by
  unfold fitL
  rw [decide_eq_decide]
  constructor
  · intro h
    have hc : ∀ j : Nat, j < 10 → ((xs.count (j : Int) : Nat) : Int) = if 1 ≤ j ∧ j ≤ n then 1 else 0 := by
      intro j hj
      have h1 := cntU_get xs j hj
      rw [h, eachU_get n 1 j hj] at h1
      exact (Option.some.inj h1).symm
    have hin : ∀ x ∈ xs, 1 ≤ x ∧ x ≤ (n : Int) := by
      intro x hm
      obtain ⟨h0, h9⟩ := hx x hm
      obtain ⟨j, rfl⟩ := Int.eq_ofNat_of_zero_le h0
      have h1 := hc j (by omega)
      have h2 : 0 < xs.count (j : Int) := List.count_pos_iff.2 hm
      by_cases hj : 1 ≤ j ∧ j ≤ n
      · omega
      · rw [if_neg hj] at h1
        omega
    refine ⟨hin, ?_⟩
    rw [List.nodup_iff_count]
    intro a
    by_cases ha : a ∈ xs
    · obtain ⟨h0, h9⟩ := hx a ha
      obtain ⟨j, rfl⟩ := Int.eq_ofNat_of_zero_le h0
      have h1 := hc j (by omega)
      split at h1 <;> omega
    · rw [List.count_eq_zero_of_not_mem ha]
      omega
  · rintro ⟨hin, hnd⟩
    have hc1 := List.nodup_iff_count.1 hnd
    apply List.ext_getElem?
    intro j
    by_cases hj : j < 10
    · rw [cntU_get xs j hj, eachU_get n 1 j hj]
      congr 1
      by_cases h1 : 1 ≤ j ∧ j ≤ n
      · rw [if_pos h1]
        have hm : (j : Int) ∈ xs := by
          refine Classical.byContradiction fun hno => ?_
          have := nodup_le ((j : Int) :: xs) ((List.range n).map fun (i : Nat) => ((i : Int) + 1)) (List.nodup_cons.2 ⟨hno, hnd⟩) (fun x hx => by
            rw [List.mem_map]
            have hb : 1 ≤ x ∧ x ≤ (n : Int) := by
              rcases List.mem_cons.1 hx with rfl | hx
              · omega
              · exact hin x hx
            exact ⟨(x - 1).toNat, List.mem_range.2 (by omega), by omega⟩)
          simp at this
          omega
        have h2 := hc1 (j : Int)
        have h3 : 0 < xs.count (j : Int) := List.count_pos_iff.2 hm
        omega
      · rw [if_neg h1]
        have : (j : Int) ∉ xs := fun hm => by
          have := hin _ hm
          omega
        rw [List.count_eq_zero_of_not_mem this]
        rfl
    · rw [List.getElem?_eq_none (by rw [cntU_len]; omega), List.getElem?_eq_none (by rw [eachU_len]; omega)]
/-- The counts of the sides: the first s sides with one die more. -/
def cR (L : List D) (m s : Nat) (k : Nat) : List Int := cntU (sideL (L.take (if k < s then m + 1 else m)) k)
theorem cR_len (L : List D) (m s : Nat) : ∀ k, k < 4 → (cR L m s k).length = 10 := fun k _ => cntU_len _
theorem cR_next (L : List D) (m : Nat) : flat4 (cR L m 4) = flat4 (cR L (m + 1) 0) := by
  unfold flat4 cR
  simp
theorem cR_zero (L : List D) : flat4 (cR L 0 0) = flat4 fun _ => List.replicate 10 0 := by
  unfold flat4 cR
  simp [sideL, cntU_zero]
theorem zeros_sides : (ints (flat4 fun _ => List.replicate 10 0)).toArray = #[Value.int .i64 0, .int .i64 0, .int .i64 0, .int .i64 0, .int .i64 0, .int .i64 0, .int .i64 0, .int .i64 0, .int .i64 0, .int .i64 0, .int .i64 0, .int .i64 0, .int .i64 0, .int .i64 0, .int .i64 0, .int .i64 0, .int .i64 0, .int .i64 0, .int .i64 0, .int .i64 0, .int .i64 0, .int .i64 0, .int .i64 0, .int .i64 0, .int .i64 0, .int .i64 0, .int .i64 0, .int .i64 0, .int .i64 0, .int .i64 0, .int .i64 0, .int .i64 0, .int .i64 0, .int .i64 0, .int .i64 0, .int .i64 0, .int .i64 0, .int .i64 0, .int .i64 0, .int .i64 0] := rfl
set_option maxRecDepth 100000 in
theorem ret_sides {fn : Func} {p : Tmp} {tmps : Array Value} {w : World} {b : Nat} {M : List Int} (h : fn.results = #[.cell p 82]) (hM : M.length = 40) (hp : tmps.getD p undef = .pointer (some ⟨b, 0, none⟩)) (hd : IsA w b M 82) : (results fn tmps).run Try.prog w = .ok (.agg (ints M).toArray) w :=
  results_cell_row h tmps w b _ _ _ _ hp hd und_sides rfl (by rw [ints_size, hM]; exact size_sides)
set_option maxHeartbeats 3200000 in
theorem sidesOf_any (g n : Nat) (L : List D) (w : World) (hn : n = L.length) (h4 : n ≤ 4) (hD : DAt w g 0 L) (hgood : ∀ (i : Nat) (d : D), L[i]? = some d → goodB d = true) : Calls Try.prog 73 #[.slice (some ⟨g, 0, none⟩) n n] w fun e w' => e = .returned (.agg (ints (flat4 (cR L n 0))).toArray) ∧ Below w.heap.size w w' := by
  have HD := hide hD
  have HN := hide hn
  have HG := hide hgood
  have h4i : (n : Int) ≤ 4 := by omega
  have A0 := IsA.new (w := w) (M := flat4 fun _ => List.replicate 10 0) (ty := 82)
  have A1 := IsA.new (w := w.alloc (.cells (ints (flat4 fun _ => List.replicate 10 0)).toArray 82)) (M := flat4 fun _ => List.replicate 10 0) (ty := 82)
  have B0 := A0.alloc (.cells (ints (flat4 fun _ => List.replicate 10 0)).toArray 82)
  have q : Below w.heap.size w ((w.alloc (.cells (ints (flat4 fun _ => List.replicate 10 0)).toArray 82)).alloc (.cells (ints (flat4 fun _ => List.replicate 10 0)).toArray 82)) := by go_grown
  simp only [World.size_alloc] at A1
  rw [zeros_sides] at A1 B0 q
  clear A0 hD hn hgood
  go_enter Try.func73, Try.ntmps73
  go_upto_region 2 with (fail)
  generalize (w.alloc _).alloc _ = w1 at A1 B0 q ⊢
  obtain ⟨b, hb⟩ : ∃ b, b = w.heap.size := ⟨_, rfl⟩
  have hwb : w.heap.size ≤ b := by omega
  rw [← hb] at A1 B0 ⊢
  clear hb
  have HA := hide A1
  have HB := hide B0
  have HQ := hide q
  clear A1 B0 q
  go_wp2
  go_loopw [10, 5, 6, 7] (fun i _ _ _ wr => ∃ m : Nat, m ≤ n ∧ i = .int .i64 (m : Int) ∧ IsA wr (b + 1) (flat4 (cR L m 0)) 82 ∧ IsA wr b (flat4 fun _ => List.replicate 10 0) 82 ∧ Below w.heap.size w wr) (fun i _ _ _ _ => n - (intOf i).toNat)
  case atStart => exact ⟨0, Nat.zero_le _, rfl, by rw [cR_zero]; exact HA.out, HB.out, HQ.out⟩
  case round =>
    obtain ⟨m, hm, rfl, A, Bz, q⟩ := hrel
    clear HA HB HQ
    by_cases hlt : m < n
    · have hmi : (m : Int) < (n : Int) := by omega
      have hx : L[m]? = some (L[m]'(by have := HN.out; omega)) := List.getElem?_eq_getElem (by have := HN.out; omega)
      generalize L[m]'(by have := HN.out; omega) = d at hx
      obtain ⟨c0, c1, c2, c3, c4, c5⟩ := (dAt_to q HD.out rfl).cells0 hx
      have HX := hide hx
      have HA := hide (A.alloc (.cells #[.int .i64 d.t, .int .i64 d.n, .int .i64 d.e, .int .i64 d.s, .int .i64 d.w, .int .i64 d.b] 30))
      have HB := hide (Bz.alloc (.cells #[.int .i64 d.t, .int .i64 d.n, .int .i64 d.e, .int .i64 d.s, .int .i64 d.w, .int .i64 d.b] 30))
      have HQ := hide (q.alloc q.size (.cells #[.int .i64 d.t, .int .i64 d.n, .int .i64 d.e, .int .i64 d.s, .int .i64 d.w, .int .i64 d.b] 30))
      clear hx A Bz q
      go_wp2_with fail
      clear c0 c1 c2 c3 c4 c5
      refine (sideFacesOf_any d _).mono ?_
      rintro e w3 ⟨rfl, hb3⟩
      have HA3 := hide (IsA.to hb3 HA.out rfl)
      have HB3 := hide (IsA.to hb3 HB.out rfl)
      have HQ3 := hide (below_to hb3 HQ.out HQ.out.size rfl rfl rfl rfl)
      have HIX := hide (fun k hk wx => index_side d k hk wx)
      generalize sfV d = sv at HIX ⊢
      clear hb3 HA HB HQ
      go_wp2
      go_loopw [16, 6, 7] (fun i _ _ wi => ∃ s : Nat, s ≤ 4 ∧ i = .int .i64 (s : Int) ∧ IsA wi (b + 1) (flat4 (cR L m s)) 82 ∧ IsA wi b (flat4 fun _ => List.replicate 10 0) 82 ∧ Below w.heap.size w wi) (fun i _ _ _ => 4 - (intOf i).toNat)
      case atStart => exact ⟨0, Nat.zero_le _, rfl, HA3.out, HB3.out, HQ3.out⟩
      case round =>
        obtain ⟨s, hs, rfl, A, Bz, q⟩ := hrel
        clear HA3 HB3 HQ3
        by_cases hs4 : s < 4
        · have hsi : (s : Int) < 4 := by omega
          have ix := HIX.out s hs4
          obtain ⟨b0, b9⟩ := sd_good (HG.out m d HX.out) s hs4
          have HSN := hide (show sideL (L.take (m + 1)) s = sideL (L.take m) s ++ [sdD s d] from by rw [List.take_add_one, HX.out]; simp [sideL])
          obtain ⟨x, hxx⟩ : ∃ x : Nat, sdD s d = (x : Int) := ⟨(sdD s d).toNat, by omega⟩
          rw [hxx] at ix b0 b9 HSN
          have hx10 : x < 10 := by omega
          have hxi : (x : Int) < 10 := by omega
          obtain ⟨c, hc⟩ : ∃ c : Nat, c = (sideL (L.take m) s).count (x : Int) := ⟨_, rfl⟩
          have hc4 : c ≤ 4 := by
            rw [hc]
            refine Nat.le_trans List.count_le_length ?_
            rw [sideL_len, List.length_take]
            omega
          have hci : (c : Int) ≤ 4 := by omega
          have hget : (flat4 (cR L m s))[s * 10 + x]? = some (c : Int) := by
            rw [flat4_get (cR_len L m s) s hs4 x hx10, hc]
            unfold cR
            rw [if_neg (by omega)]
            exact cntU_get _ x hx10
          have HSET := hide (flat4_set (cR_len L m s) s hs4 x hx10 ((c : Int) + 1) (cR L m (s + 1)) (fun i hi => by
            by_cases e : i = s
            · subst e
              rw [if_pos rfl]
              unfold cR
              rw [if_pos (by omega), if_neg (by omega), HSN.out, hc, cntU_snoc _ x hx10]
            · rw [if_neg e]
              unfold cR
              by_cases h2 : i < s
              · rw [if_pos (by omega), if_pos h2]
              · rw [if_neg (by omega), if_neg h2]))
          obtain ⟨cc, cf⟩ := A.cell hget
          have HA := hide (A.set (s * 10 + x) (by rw [flat4_len (cR_len L m s)]; omega) ((c : Int) + 1))
          rw [HSET.out] at HA
          have HB := hide (Bz.other (p := ⟨b + 1, s * 10 + x, none⟩) (by simp) (.int .i64 ((c : Int) + 1)))
          have HQ := hide (q.setCell (p := ⟨b + 1, s * 10 + x, none⟩) (by simp; omega) (.int .i64 ((c : Int) + 1)))
          clear A Bz q hget hc hxx b0 b9
          go_upto_region 8 with (fail)
          go_still_tail 8, (by kernel_rfl)
          change wpList _ _ _ _ _ wr.drew
          go_wp2
          go_roundw
          case rel => exact ⟨s + 1, by omega, by go_num, HA.out, HB.out, HQ.out.drew⟩
          case measure => simp [intOf] <;> omega
        · obtain rfl : s = 4 := by omega
          have HA := hide A
          rw [cR_next] at HA
          clear A
          go_wp2
          go_roundw
          case rel => exact ⟨m + 1, by omega, by go_num, HA.out, Bz, q⟩
          case measure => simp [intOf] <;> omega
    · obtain rfl : m = n := by omega
      have HA := hide A
      have HB := hide Bz
      have HLE := hide (flat4_len (cR_len L m 0))
      obtain ⟨M, hM⟩ : ∃ M, M = flat4 (cR L m 0) := ⟨_, rfl⟩
      have HME := hide hM
      rw [← hM] at HA HLE
      clear A Bz hM
      go_wp2_with (first
        | (refine wpList_load_row rfl 82 (.tmp 3) rfl (b + 1) rfl _ _ _ _ HA.out und_sides rfl (by rw [ints_size, HLE.out]; exact size_sides) ?_)
        | (refine wpList_store_row rfl 82 (.tmp 2) (.tmp 30) rfl b (ints M).toArray rfl rfl _ _ HB.out (by rw [ints_size, HLE.out]; exact size_sides) (by rw [ints_size, ints_size, HLE.out]; rfl) (ints_one M) ?_))
      refine bodyPost_ret (ret_sides Try.results73 HLE.out rfl (HB.out.row (N := M))) rfl ⟨congrArg (fun M => Ending.returned (.agg (ints M).toArray)) HME.out, ?_⟩
      exact below_setRow q hwb _
theorem build_sides : ∀ (M : List Int) (_ : M.length = 10) (wx : World), (Instr.build 82 #[(0, .agg (ints M).toArray), (1, .agg (ints M).toArray), (2, .agg (ints M).toArray), (3, .agg (ints M).toArray)]).run Try.prog wx = .ok (.agg (ints (flat4 fun _ => M)).toArray) wx
  | [a0, a1, a2, a3, a4, a5, a6, a7, a8, a9], _, wx => by kernel_rfl
theorem ten_of (M : List Int) (h : M.length = 10) : ∃ a0 a1 a2 a3 a4 a5 a6 a7 a8 a9, M = [a0, a1, a2, a3, a4, a5, a6, a7, a8, a9] := by
  match M, h with
  | [a0, a1, a2, a3, a4, a5, a6, a7, a8, a9], _ => exact ⟨_, _, _, _, _, _, _, _, _, _, rfl⟩
set_option maxHeartbeats 1600000 in
theorem fullSides_any (n : Nat) (h4 : n ≤ 4) (w : World) : Calls Try.prog 74 #[.int .i64 (n : Int)] w fun e w' => e = .returned (.agg (ints (flat4 fun _ => eachU n 1)).toArray) ∧ Below w.heap.size w w' := by
  have HLE := hide (eachU_len n 1)
  have HEO := hide (fun wx => eachOf_any n 1 h4 wx)
  obtain ⟨M, hM⟩ : ∃ M, M = eachU n 1 := ⟨_, rfl⟩
  obtain ⟨a0, a1, a2, a3, a4, a5, a6, a7, a8, a9, hM2⟩ := ten_of M (by rw [hM]; exact HLE.out)
  have hI : (ints M).toArray = #[.int .i64 a0, .int .i64 a1, .int .i64 a2, .int .i64 a3, .int .i64 a4, .int .i64 a5, .int .i64 a6, .int .i64 a7, .int .i64 a8, .int .i64 a9] := by rw [hM2]; rfl
  have HIE := hide hI
  rw [← hM] at HLE HEO ⊢
  rw [hI] at HEO
  clear hM hI hM2
  have A0 := IsA.new (w := w) (M := flat4 fun _ => List.replicate 10 0) (ty := 82)
  have q : Below w.heap.size w (w.alloc (.cells (ints (flat4 fun _ => List.replicate 10 0)).toArray 82)) := by go_grown
  rw [zeros_sides] at A0 q
  go_enter Try.func74, Try.ntmps74
  go_upto_region 1 with (fail)
  generalize w.alloc _ = w1 at A0 q ⊢
  obtain ⟨b, hb⟩ : ∃ b, b = w.heap.size := ⟨_, rfl⟩
  have hwb : w.heap.size ≤ b := by omega
  rw [← hb] at A0 ⊢
  clear hb
  have HA := hide A0
  clear A0
  go_wp2_with fail
  refine (HEO.out _).mono ?_
  rintro e w2 ⟨rfl, hb2⟩
  have HA2 := hide (IsA.to hb2 HA.out rfl)
  have q2 := below_to hb2 q q.size rfl rfl rfl rfl
  have N0 := IsA.new (w := w2) (M := List.replicate 10 0) (ty := 80)
  have HA3 := (HA2.out.alloc (.cells (ints (List.replicate 10 0)).toArray 80))
  have q3 := q2.alloc q2.size (.cells (ints (List.replicate 10 0)).toArray 80)
  rw [zeros_num] at N0 HA3 q3
  have HN0 := hide N0
  have HNM := hide (N0.row (N := M))
  have hne : b ≠ w2.heap.size := by have := HA2.out.lt; omega
  have HA4 := hide (HA3.rowOther hne (ints M).toArray)
  have HQ4 := hide (below_setRow q3 q2.size (ints M).toArray)
  rw [HIE.out] at HNM HA4 HQ4
  have HFL := hide (flat4_len (f := fun _ => M) (fun _ _ => HLE.out))
  obtain ⟨F, hF⟩ : ∃ F, F = flat4 fun _ => M := ⟨_, rfl⟩
  have HFE := hide hF
  rw [← hF] at HFL
  have HFI := hide (show (ints F).toArray = #[.int .i64 a0, .int .i64 a1, .int .i64 a2, .int .i64 a3, .int .i64 a4, .int .i64 a5, .int .i64 a6, .int .i64 a7, .int .i64 a8, .int .i64 a9, .int .i64 a0, .int .i64 a1, .int .i64 a2, .int .i64 a3, .int .i64 a4, .int .i64 a5, .int .i64 a6, .int .i64 a7, .int .i64 a8, .int .i64 a9, .int .i64 a0, .int .i64 a1, .int .i64 a2, .int .i64 a3, .int .i64 a4, .int .i64 a5, .int .i64 a6, .int .i64 a7, .int .i64 a8, .int .i64 a9, .int .i64 a0, .int .i64 a1, .int .i64 a2, .int .i64 a3, .int .i64 a4, .int .i64 a5, .int .i64 a6, .int .i64 a7, .int .i64 a8, .int .i64 a9] from by rw [HFE.out]; show ((ints (M ++ (M ++ (M ++ M)))).toArray) = _; unfold ints; rw [List.map_append, List.map_append, List.map_append]; have := congrArg Array.toList HIE.out; unfold ints at this; simp only [List.toList_toArray] at this; rw [this]; rfl)
  clear hb2 HA q N0 HA3 q3 hF hne
  go_wp2_with (first
    | (refine wpList_store_row rfl 80 (.tmp 3) (.tmp 5) rfl w2.heap.size (ints M).toArray rfl (by rw [HIE.out]; rfl) _ _ HN0.out (by rw [ints_size, HLE.out]; exact size_num) (by rw [ints_size, ints_size, HLE.out]; rfl) (ints_one M) ?_; rw [HIE.out])
    | (refine wpList_load_row rfl 80 (.tmp 3) rfl w2.heap.size rfl _ _ _ _ HNM.out und_num rfl (by rw [ints_size, HLE.out]; exact size_num) ?_; rw [HIE.out])
    | (refine wpList_store_row rfl 82 (.tmp 2) (.tmp 10) rfl b (ints F).toArray rfl (by rw [HFI.out]; rfl) _ _ HA4.out (by rw [ints_size, HFL.out]; exact size_sides) (by rw [ints_size, ints_size, HFL.out]; rfl) (ints_one F) ?_))
  refine bodyPost_ret (ret_sides Try.results74 HFL.out rfl (HA4.out.row (N := F))) rfl ⟨congrArg (fun M => Ending.returned (.agg (ints M).toArray)) HFE.out, ?_⟩
  exact below_setRow HQ4.out hwb _
/-- What IsTower answers. -/
def itV (L : List D) : Bool := towB L && fitB L.length L
theorem fits_same (L : List D) (n : Nat) (hn : n = L.length) (h9 : n ≤ 9) (hgood : ∀ (i : Nat) (d : D), L[i]? = some d → goodB d = true) : ((List.range 4).all fun i => decide (cR L n 0 i = eachU n 1)) = fitB n L := by
  have hcR : ∀ k, cR L n 0 k = cntU (sideL L k) := fun k => by
    unfold cR
    rw [if_neg (Nat.not_lt_zero _), List.take_of_length_le (by omega)]
  have hk : ∀ k, k < 4 → decide (cR L n 0 k = eachU n 1) = fitL n (sideL L k) := fun k hk => by
    rw [hcR]
    refine fit_cnt (by rw [sideL_len, hn]) h9 (fun x hx => ?_)
    obtain ⟨d, hd, rfl⟩ := List.mem_map.1 hx
    obtain ⟨i, hi⟩ := List.mem_iff_getElem?.1 hd
    exact sd_good (hgood i d hi) k hk
  unfold fitB
  rw [Bool.eq_iff_iff, List.all_eq_true, List.all_eq_true]
  constructor
  · intro h k hm
    rw [← hk k (List.mem_range.1 hm)]
    exact h k hm
  · intro h k hm
    rw [hk k (List.mem_range.1 hm)]
    exact h k hm
set_option maxHeartbeats 800000 in
theorem specIT_no (g n : Nat) (L : List D) (w : World) (hn : n = L.length) (h4 : n ≤ 1048576) (hD : DAt w g 0 L) (h : towB L = false) : Calls Try.prog 32 #[.slice (some ⟨g, 0, none⟩) n n] w fun e w' => e = .returned (.tuple #[.bool false, .bool false]) ∧ Below w.heap.size w w' := by
  have HC := hide (clDice_any g n n L w hn h4 hD)
  rw [h] at HC
  clear hD hn h
  go_enter Try.func32, Try.ntmps32
  go_wp2_with fail
  refine HC.out.mono ?_
  rintro e w1 ⟨rfl, q1⟩
  go_wp2
  go_returns
  exact ⟨rfl, q1⟩
set_option maxHeartbeats 800000 in
theorem implIT_no (g n : Nat) (L : List D) (w : World) (hn : n = L.length) (h4 : n ≤ 1048576) (hD : DAt w g 0 L) (h : towB L = false) : Calls Try.prog 33 #[.slice (some ⟨g, 0, none⟩) n n] w fun e w' => e = .returned (.tuple #[.bool false, .bool false]) ∧ Below w.heap.size w w' := by
  have HC := hide (isListForTower_any g n n L w hn h4 hD)
  rw [h] at HC
  clear hD hn h
  go_enter Try.func33, Try.ntmps33
  go_wp2_with fail
  refine HC.out.mono ?_
  rintro e w1 ⟨rfl, q1⟩
  go_wp2
  go_returns
  exact ⟨rfl, q1⟩
set_option maxHeartbeats 800000 in
theorem specIT_yes (g n : Nat) (L : List D) (w : World) (hn : n = L.length) (h4 : n ≤ 1048576) (hD : DAt w g 0 L) (h : towB L = true) : Calls Try.prog 32 #[.slice (some ⟨g, 0, none⟩) n n] w fun e w' => e = .returned (.tuple #[.bool (fitB n L), .bool true]) ∧ Below w.heap.size w w' := by
  have HC := hide (clDice_any g n n L w hn h4 hD)
  rw [h] at HC
  have hl := towB_len h
  have HD := hide hD
  have HN := hide hn
  have hl4 : n ≤ 4 := by omega
  clear hD hn h hl
  go_enter Try.func32, Try.ntmps32
  go_wp2_with fail
  refine HC.out.mono ?_
  rintro e w1 ⟨rfl, q1⟩
  go_wp2_with fail
  refine (clFits_any g n n n L _ HN.out (by omega) (by omega) (dAt_to q1 HD.out rfl)).mono ?_
  rintro e w2 ⟨rfl, hb2⟩
  have q2 := below_to hb2 q1 q1.size rfl rfl rfl rfl
  clear hb2 q1
  go_wp2
  go_returns
  exact ⟨rfl, q2⟩
set_option maxHeartbeats 1600000 in
theorem implIT_yes (g n : Nat) (L : List D) (w : World) (hn : n = L.length) (h4 : n ≤ 1048576) (hD : DAt w g 0 L) (h : towB L = true) : Calls Try.prog 33 #[.slice (some ⟨g, 0, none⟩) n n] w fun e w' => e = .returned (.tuple #[.bool (fitB n L), .bool true]) ∧ Below w.heap.size w w' := by
  have HC := hide (isListForTower_any g n n L w hn h4 hD)
  rw [h] at HC
  have hl := towB_len h
  have hl4 : n ≤ 4 := by omega
  have hgood : ∀ (i : Nat) (d : D), L[i]? = some d → goodB d = true := fun i d hi => towB_good h hi
  have HF := hide (fits_same L n hn (by omega) hgood)
  have HSO := hide (fun (W : World) (hW : DAt W g 0 L) => sidesOf_any g n L W hn hl4 hW hgood)
  have HFS := hide (fun W => fullSides_any n hl4 W)
  have heq := eql_sides (cR L n 0) (fun _ => eachU n 1) (cR_len L n 0) (fun _ _ => eachU_len n 1)
  rw [HF.out] at heq
  obtain ⟨A, hA⟩ : ∃ A, A = flat4 (cR L n 0) := ⟨_, rfl⟩
  obtain ⟨B, hB⟩ : ∃ B, B = flat4 fun _ => eachU n 1 := ⟨_, rfl⟩
  rw [← hA] at HSO heq
  rw [← hB] at HFS heq
  obtain ⟨A', hA'⟩ : ∃ A', A' = (ints A).toArray := ⟨_, rfl⟩
  obtain ⟨B', hB'⟩ : ∃ B', B' = (ints B).toArray := ⟨_, rfl⟩
  rw [← hA'] at HSO heq
  rw [← hB'] at HFS heq
  have HD := hide hD
  clear hD hn h hl hA hB hA' hB' hgood HF
  obtain ⟨r, hr⟩ : ∃ r, r = fitB n L := ⟨_, rfl⟩
  rw [← hr] at heq ⊢
  clear hr
  go_enter Try.func33, Try.ntmps33
  go_wp2_with fail
  refine HC.out.mono ?_
  rintro e w1 ⟨rfl, q1⟩
  go_wp2_with fail
  refine (HSO.out _ (dAt_to q1 HD.out rfl)).mono ?_
  rintro e w2 ⟨rfl, hb2⟩
  have q2 := below_to hb2 q1 q1.size rfl rfl rfl rfl
  clear hb2 q1
  go_wp2_with fail
  refine (HFS.out _).mono ?_
  rintro e w3 ⟨rfl, hb3⟩
  have q3 := below_to hb3 q2 q2.size rfl rfl rfl rfl
  clear hb3 q2
  go_wp2
  go_returns
  exact ⟨rfl, q3⟩
theorem specIT_any (g n : Nat) (L : List D) (w : World) (hn : n = L.length) (h4 : n ≤ 1048576) (hD : DAt w g 0 L) : Calls Try.prog 32 #[.slice (some ⟨g, 0, none⟩) n n] w fun e w' => e = .returned (.tuple #[.bool (itV L), .bool (towB L)]) ∧ Below w.heap.size w w' := by
  unfold itV
  cases h1 : towB L
  · exact specIT_no g n L w hn h4 hD h1
  · rw [Bool.true_and, ← hn]
    exact specIT_yes g n L w hn h4 hD h1
theorem implIT_any (g n : Nat) (L : List D) (w : World) (hn : n = L.length) (h4 : n ≤ 1048576) (hD : DAt w g 0 L) : Calls Try.prog 33 #[.slice (some ⟨g, 0, none⟩) n n] w fun e w' => e = .returned (.tuple #[.bool (itV L), .bool (towB L)]) ∧ Below w.heap.size w w' := by
  unfold itV
  cases h1 : towB L
  · exact implIT_no g n L w hn h4 hD h1
  · rw [Bool.true_and, ← hn]
    exact implIT_yes g n L w hn h4 hD h1
set_option maxHeartbeats 1600000 in
theorem walk_IsTower (VV0 : Value) (L0 : List D) (w : World) (hV : DsIn w VV0 L0) : Calls Try.prog 7 #[VV0] w fun e w' => e = .returned (.bool true) ∧ Below w.heap.size w w' := by
  have HV0 := hide hV
  clear hV
  by_cases hl : L0.length ≤ 1048576
  · have HL1 := hide hl
    obtain ⟨z, hz, hz0⟩ : ∃ z : Int, z = 1048576 - (L0.length : Int) ∧ 0 ≤ z := ⟨_, rfl, by omega⟩
    have HSZ := hide (show Calls Try.prog 23 #[VV0, .int .i64 1048576] w fun e w' => e = .returned (.int .i64 z) ∧ w = w' from by
      have := szDieS_any VV0 L0 1048576 w HV0.out (by omega)
      rw [if_neg (by omega), ← hz] at this
      exact this)
    have hzn : ¬ z < 0 := by omega
    clear hz hl
    obtain ⟨nn, hnn⟩ : ∃ x : Int, x = 1 + ((L0.length * 6 : Nat) : Int) := ⟨_, rfl⟩
    have hnn0 : ¬ nn < 0 := by omega
    have HNN := hide hnn
    clear hnn
    obtain ⟨z0, hz0⟩ : ∃ z, z = itV L0 := ⟨_, rfl⟩
    have HZ0 := hide hz0
    clear hz0
    have e0 : (z0 != z0) = false := by simp
    obtain ⟨z1, hz1⟩ : ∃ z, z = towB L0 := ⟨_, rfl⟩
    have HZ1 := hide hz1
    clear hz1
    have e1 : (z1 != z1) = false := by simp
    go_enter Try.func7, Try.ntmps7
    go_wp2_with fail
    refine HSZ.out.mono ?_
    rintro e w' ⟨rfl, rfl⟩
    clear hz0
    go_wp2_with fail
    refine (toDieS_any VV0 L0 _ HV0.out HL1.out).mono ?_
    rintro e w1 ⟨g1, _, rfl, O1, q1⟩
    have HV1 := hide (dsIn_to q1 HV0.out rfl)
    clear HV0
    have D1 := hide (dAt_own O1 rfl)
    have HXX := hide O1
    clear O1
    go_wp2_with fail
    refine (specIT_any g1 _ L0 _ rfl HL1.out D1.out).mono ?_
    rintro e w2 ⟨rfl, hb2⟩
    have q2 := below_to hb2 q1 q1.size rfl rfl rfl rfl
    have HV2 := hide (dsIn_to hb2 HV1.out rfl)
    have zs2 := hb2.size
    rw [← HZ0.out, ← HZ1.out]
    clear hb2 HV1 q1 
    go_wp2_with fail
    refine (toDieS_any VV0 L0 _ HV2.out HL1.out).mono ?_
    rintro e w3 ⟨g3, _, rfl, O3, hb3⟩
    have q3 := below_to hb3 q2 q2.size rfl rfl rfl rfl
    have HV3 := hide (dsIn_to hb3 HV2.out rfl)
    have zs3 := hb3.size
    have D3 := hide (dAt_own O3 rfl)
    try clear HXX
    have HXX := hide O3
    clear hb3 HV2 q2 O3
    have HX3 := hide (HXX.out)
    go_wp2_with fail
    refine (implIT_any g3 _ L0 _ rfl HL1.out D3.out).mono ?_
    rintro e w4 ⟨rfl, hb4⟩
    have q4 := below_to hb4 q3 q3.size rfl rfl rfl rfl
    have HV4 := hide (dsIn_to hb4 HV3.out rfl)
    have HX4 := hide (own_to hb4 HX3.out rfl)
    have zs4 := hb4.size
    rw [← HZ0.out, ← HZ1.out]
    clear hb4 HV3 HX3 q3 
    go_wp2_with fail
    refine (toDieS_any VV0 L0 _ HV4.out HL1.out).mono ?_
    rintro e w5 ⟨g5, _, rfl, O5, hb5⟩
    have q5 := below_to hb5 q4 q4.size rfl rfl rfl rfl
    have HV5 := hide (dsIn_to hb5 HV4.out rfl)
    have HX5 := hide (own_to hb5 HX4.out rfl)
    have zs5 := hb5.size
    try clear HXX
    have HP5 := hide O5
    clear hb5 HV4 HX4 q4 O5
    go_wp2_with fail
    refine (eqDieS_any _ _ L0.length _ _ L0 _ (by have := HL1.out; omega) HX5.out HP5.out).mono ?_
    rintro e w6 ⟨rfl, hb6⟩
    have q6 := below_to hb6 q5 q5.size rfl rfl rfl rfl
    have HP6 := hide (own_to hb6 HP5.out rfl)
    have HV6 := hide (dsIn_to hb6 HV5.out rfl)
    have HX6 := hide (own_to hb6 HX5.out rfl)
    have zs6 := hb6.size
    clear hb6 HP5 HV5 HX5 q5 
    clear HP6
    go_wp2
    go_returns
    exact ⟨rfl, q6⟩
  · have HSZ := hide (show Calls Try.prog 23 #[VV0, .int .i64 1048576] w fun e w' => e = .returned (.int .i64 (-1)) ∧ w = w' from by
      have := szDieS_any VV0 L0 1048576 w HV0.out (by omega)
      rw [if_pos (by omega)] at this
      exact this)
    clear hl
    go_enter Try.func7, Try.ntmps7
    go_wp2_with fail
    refine HSZ.out.mono ?_
    rintro e w' ⟨rfl, rfl⟩
    go_wp2
    go_returns
    exact ⟨rfl, Below.refl _ _⟩
end Go.Proofs.Ytkiocklkpnjejaa
