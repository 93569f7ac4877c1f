/- The model of sixes: spec.neSix. The model of sixes: spec.neSix, spec.IsSix; the law of IsSix. -/
import Derived.Test.YtkknjokacinlaaaGreatDoorNeC
import Derived.Test.YtkknjokacinlaaaGreatDoorNetG
namespace Go.Proofs.YtkknjokacinlaaaGreatDoor
set_option maxRecDepth 100000
set_option linter.all false
open Go.RowKit

theorem bits_or {a b : Nat} (ha : a < 64) (hb : b < 64) : Go.bits .or .i64 (a : Int) (b : Int) = ((a ||| b : Nat) : Int) := by
  have : ∀ x : Fin 64, ∀ y : Fin 64, Go.bits .or .i64 ((x.val : Nat) : Int) ((y.val : Nat) : Int) = ((x.val ||| y.val : Nat) : Int) := by decide +kernel
  exact this ⟨a, ha⟩ ⟨b, hb⟩
theorem or_shl {c x : Nat} (hc : c < 64) (hx : x < 6) : Go.bits .or .i64 (c : Int) (wrap64 (2 ^ x)) = ((c ||| 1 <<< x : Nat) : Int) := by
  have : ∀ a : Fin 64, ∀ b : Fin 6, Go.bits .or .i64 ((a.val : Nat) : Int) (wrap64 (2 ^ b.val)) = ((a.val ||| 1 <<< b.val : Nat) : Int) := by decide +kernel
  exact this ⟨c, hc⟩ ⟨x, hx⟩
theorem shl_wrap {x : Nat} (hx : x ≤ 6) : wrap64 (wrap64 (2 ^ x) - 1) = ((2 ^ x - 1 : Nat) : Int) := by
  have : ∀ b : Fin 7, wrap64 (wrap64 (2 ^ b.val) - 1) = ((2 ^ b.val - 1 : Nat) : Int) := by decide +kernel
  exact this ⟨x, by omega⟩
theorem digK_count (F : List UInt8) : (digK F F.length).length = F.countP isDig := count_range F
theorem rd_ok {l : List UInt8} (h : isRd l = true) : ∀ c ∈ flatL l, okN c = true := by
  intro c hc
  unfold flatL at hc
  obtain ⟨r, hr, hcr⟩ := List.mem_flatten.1 hc
  exact List.all_eq_true.1 ((rd_parts h).2.2.2 r hr) c hcr
theorem rd_len {l : List UInt8} (h : isRd l = true) : (flatL l).length = width l * (splitP l).length ∧ (flatL l).length ≤ 41 := by
  obtain ⟨h1, h2, h3, -⟩ := rd_parts h
  have e := flat_even h3
  have := len_split l
  have h4 : 0 < (splitP l).length := List.length_pos_iff.2 (splitP_ne l)
  unfold flatL
  exact ⟨e, by omega⟩
theorem rd_grid {l : List UInt8} (h : isRd l = true) (hc : cntD l = 6) (hw : width l ≤ 6) (hh : (splitP l).length ≤ 6) : Grid6 l (width l) (splitP l).length := by
  obtain ⟨h1, h2, h3, h4⟩ := rd_parts h
  exact ⟨h2, hw, List.length_pos_iff.2 (splitP_ne l), hh, rfl, rfl, h3, h4, hc⟩
theorem six_wide {l : List UInt8} (h : ¬ (width l ≤ 6 ∧ (splitP l).length ≤ 6)) : sixB l = false := by
  cases hs : sixB l
  · rfl
  · obtain ⟨hF, -⟩ := six_partsS hs
    exact absurd ⟨hF.w6, hF.h6⟩ h
set_option maxHeartbeats 8000000 in
theorem neSix_grid (l : List UInt8) (W H n g cap : Nat) (hG : Grid6 l W H) (hn : n = W * H) (w : World) (hA : ByN w g (flatL l)) : Calls Tryz.prog 12 #[gN W H n g cap] w fun e w' => e = .returned (.bool (sixB l)) ∧ Below w.heap.size w w' := by
  have hgw := hA.1
  have hn36 : n ≤ 36 := by rw [hn]; exact Nat.mul_le_mul hG.w6 hG.h6
  have hfl : (flatL l).length = n := by rw [hn]; exact hG.flat_len
  have hokF : ∀ c ∈ flatL l, okN c = true := by
    intro c hc
    unfold flatL at hc
    obtain ⟨r, hr, hcr⟩ := List.mem_flatten.1 hc
    exact List.all_eq_true.1 (hG.ok r hr) c hcr
  have hd6 : (digs l).length = 6 := by rw [digs_len, hG.cnt]
  have hde : digK (flatL l) n = digs l := by rw [← hfl]; rfl
  have HDG := hide (fun wx (hx : ByN wx g (flatL l)) => neDigits_any (flatL l) W H n g cap hfl (by omega) hokF wx hx)
  rw [hde, hd6] at HDG
  have HFA := hide (fun wx (hx : ByN wx g (flatL l)) => neFar_any l W H n g cap hG hn wx hx)
  have HS0 := hide (show ∀ d ∈ digs l, farI W (lgm l) d < 0 → sixB l = false from fun d hd h => by
    rw [hG.six, decide_eq_false (fun h1 => h1 d hd h)]
    rfl)
  have HS9 := hide (show (∀ i ∈ digs l, ¬ farI W (lgm l) i < 0) → sixB l = decide (bitsL (· % W) (digs l) 0 = 2 ^ W - 1 ∧ bitsL (· / W) (digs l) 0 = 2 ^ H - 1) from fun h => by
    rw [hG.six, decide_eq_true h, Bool.true_and])
  have hW6 := hG.w6
  have hH6 := hG.h6
  have hW1 := hG.w1
  have HGG := hide hG
  have HNN := hide hn
  have HA := hide hA
  have HD6 := hide hd6
  have hi6 : (W : Int) ≤ 6 := by omega
  have hj6 : (H : Int) ≤ 6 := by omega
  have HFL := hide hfl
  clear hG hn hA hfl hokF hd6 hde
  have G0 := IsGN.new (w := w) (x := (W : Int)) (y := (H : Int)) (v := .slice (some ⟨g, 0, none⟩) n cap)
  have q0 : Below w.heap.size w (w.alloc (.cells #[.int .i64 (W : Int), .int .i64 (H : Int), .slice (some ⟨g, 0, none⟩) n cap] 27)) := by go_grown
  have A0 := byN_to q0 HA.out rfl
  go_enter Tryz.func12, Tryz.ntmps12
  go_wp2_with fail
  generalize w.alloc (.cells #[.int .i64 (W : Int), .int .i64 (H : Int), .slice (some ⟨g, 0, none⟩) n cap] 27) = W0 at G0 q0 A0 ⊢
  obtain ⟨l0, ⟨a0, a1, a2⟩, -⟩ := G0.all
  go_wp2_with (first | (go_at_call 19; (with_reducible refine (HDG.out _ A0).mono ?_); rintro e w2 ⟨v, rfl, O2, hb2⟩; obtain ⟨db, dc, rfl, hdb0, hdb1⟩ := own_form O2 (by omega); have G2 := isGN_to hb2 G0 rfl; have A2 := byN_to hb2 A0 rfl; have q2 := below_after q0 hb2 q0.size; obtain ⟨l1, ⟨b0, b1, b2⟩, -⟩ := G2.all) | (go_at_call 20; (with_reducible refine (HFA.out _ A2).mono ?_); rintro e w3 ⟨rfl, R3, hb3⟩; have G3 := isGN_to hb3 G2 rfl; have q3 := below_after q2 hb3 q2.size; have O3 := own_to hb3 O2 rfl; obtain ⟨l2, ⟨c0, c1, c2⟩, -⟩ := G3.all))
  clear a0 a1 a2 b0 b1 b2 l0 l1 G0 A0 G2 A2 O2
  have HR3 := hide R3
  have HO3 := hide O3
  have HQ3 := hide q3
  clear R3 O3 q3 hb2 hb3 G3 l2 q0 q2
  go_loop [28, 5, 6, 8] (fun i cv rv _ => ∃ k : Nat, k ≤ 6 ∧ i = .int .i64 (k : Int) ∧ cv = .int .i64 ((bitsL (· % W) ((digs l).take k) 0 : Nat) : Int) ∧ rv = .int .i64 ((bitsL (· / W) ((digs l).take k) 0 : Nat) : Int) ∧ Hid (∀ i ∈ (digs l).take k, ¬ farI W (lgm l) i < 0)) (fun i _ _ _ => 6 - (intOf i).toNat)
  case atStart => exact ⟨0, by omega, rfl, by simp [bitsL], by simp [bitsL], hide (fun i hi => by simp at hi)⟩
  case round =>
    obtain ⟨k, hk, rfl, rfl, rfl, hno⟩ := hrel
    by_cases hlt : k < 6
    · have hki : (k : Int) < 6 := by omega
      have hdk : (digs l)[k]? = some ((digs l)[k]'(by rw [HD6.out]; exact hlt)) := List.getElem?_eq_getElem _
      generalize (digs l)[k]'(by rw [HD6.out]; exact hlt) = d at hdk
      have hdm := List.mem_of_getElem? hdk
      obtain ⟨g1, g2, g3⟩ := HGG.out.ix_dig hdm
      have hdn : d < n := by rw [← HFL.out]; exact (mem_digs.1 hdm).1
      have hdi : (d : Int) < (n : Int) := by omega
      have dcell := ints_cell HO3.out k (d : Int) (natI_get hdk)
      have HTK := hide (show (digs l).take (k + 1) = (digs l).take k ++ [d] from by rw [List.take_add_one, hdk]; rfl)
      have hbd1 := bitsL_lt (f := (· % W)) (n := 6) ((digs l).take k) 0 (by omega) (fun i hi => Nat.lt_of_lt_of_le (HGG.out.ix_dig (List.mem_of_mem_take hi)).1 hW6)
      have hbd2 := bitsL_lt (f := (· / W)) (n := 6) ((digs l).take k) 0 (by omega) (fun i hi => Nat.lt_of_lt_of_le (HGG.out.ix_dig (List.mem_of_mem_take hi)).2.1 hH6)
      have HS1 := hide (bitsL_snoc (· % W) ((digs l).take k) 0 d)
      have HS2 := hide (bitsL_snoc (· / W) ((digs l).take k) 0 d)
      rw [← HTK.out] at HS1 HS2
      generalize bitsL (· % W) ((digs l).take k) 0 = ca at *
      generalize bitsL (· / W) ((digs l).take k) 0 = ra at *
      have fcell : w3.cell? ⟨w2.heap.size + 1, d, none⟩ = some (.int .i64 (farI W (lgm l) d)) := HR3.out.cell hdn
      obtain ⟨v, hv⟩ : ∃ v, v = farI W (lgm l) d := ⟨_, rfl⟩
      rw [← hv] at fcell
      have HV := hide hv
      clear hv
      by_cases hv0 : v < 0
      · have HY := hide (HS0.out d hdm (by rw [← HV.out]; exact hv0))
        clear hdk g1 g2 g3 hdm
        go_wp2
        go_returns
        exact ⟨ret_bool HY.out.symm, HQ3.out⟩
      · have hv1 : 0 ≤ v := by omega
        have hrem : Int.tmod (d : Int) (W : Int) = ((d % W : Nat) : Int) := (Int.ofNat_tmod d W).symm
        have hquo : Int.tdiv (d : Int) (W : Int) = ((d / W : Nat) : Int) := (Int.ofNat_tdiv d W).symm
        have hwn : ¬ (W : Int) = 0 := by omega
        generalize d % W = x at *
        generalize d / W = y at *
        have hvd : decide (v < 0) = false := decide_eq_false hv0
        have hx6 : x < 6 := by omega
        have hy6 : y < 6 := by omega
        clear hdk g1 g2 g3 hdm hv0
        go_wp2
        go_round
        case rel =>
          refine ⟨k + 1, by omega, by go_num, congrArg _ ((or_shl hbd1 hx6).trans (by rw [HS1.out])), congrArg _ ((or_shl hbd2 hy6).trans (by rw [HS2.out])), hide (fun i hi => ?_)⟩
          rw [HTK.out] at hi
          rcases List.mem_append.1 hi with hi | hi
          · exact hno.out i hi
          · rw [List.mem_singleton] at hi
            subst hi
            rw [← HV.out]
            omega
        case measure => simp [intOf]; omega
    · obtain rfl : k = 6 := by omega
      have htk : (digs l).take 6 = digs l := List.take_of_length_le (by rw [HD6.out]; omega)
      rw [htk] at hno ⊢
      have hs := HS9.out (fun i hi => by have := hno.out i hi; omega)
      clear htk hno HS9 HS0
      have pw := shl_wrap hW6
      have ph := shl_wrap hH6
      have hwl : 2 ^ W ≤ 64 := Nat.pow_le_pow_right (n := 2) (by omega) hW6
      have hhl : 2 ^ H ≤ 64 := Nat.pow_le_pow_right (n := 2) (by omega) hH6
      generalize bitsL (· % W) (digs l) 0 = ca at *
      generalize bitsL (· / W) (digs l) 0 = ra at *
      have HS := hide hs
      clear hs
      generalize 2 ^ W - 1 = mw at *
      generalize 2 ^ H - 1 = mh at *
      by_cases h1 : ca = mw
      · have e1 : ((ca : Int) == (mw : Int)) = true := by rw [h1]; simp
        by_cases h2 : ra = mh
        · have e2 : ((ra : Int) == (mh : Int)) = true := by rw [h2]; simp
          have HY := hide (HS.out.trans (decide_eq_true ⟨h1, h2⟩))
          clear h1 h2 HS
          go_wp2
          go_returns
          exact ⟨ret_bool HY.out.symm, HQ3.out⟩
        · have e2 : ((ra : Int) == (mh : Int)) = false := beq_eq_false_iff_ne.2 (by omega)
          have HY := hide (HS.out.trans (decide_eq_false (fun h => h2 h.2)))
          clear h1 h2 HS
          go_wp2
          go_returns
          exact ⟨ret_bool HY.out.symm, HQ3.out⟩
      · have e1 : ((ca : Int) == (mw : Int)) = false := beq_eq_false_iff_ne.2 (by omega)
        have HY := hide (HS.out.trans (decide_eq_false (fun h => h1 h.1)))
        clear h1 HS
        go_wp2
        go_returns
        exact ⟨ret_bool HY.out.symm, HQ3.out⟩
end Go.Proofs.YtkknjokacinlaaaGreatDoor
namespace Go.Proofs.YtkknjokacinlaaaGreatDoor
set_option maxRecDepth 100000
set_option linter.all false
open Go.RowKit

theorem six_rd {l : List UInt8} (h : isRd l = false) : sixB l = false := by
  cases hs : sixB l
  · rfl
  · obtain ⟨hF, -⟩ := six_partsS hs
    rw [hF.rd] at h
    cases h
theorem six_cnt {l : List UInt8} (h : ¬ cntD l = 6) : sixB l = false := by unfold sixB; rw [decide_eq_false h]; rfl
set_option maxHeartbeats 3200000 in
theorem neSix_any (l : List UInt8) (g n cap : Nat) (hr : isRd l = true) (hn : n = (flatL l).length) (w : World) (hA : ByN w g (flatL l)) : Calls Tryz.prog 12 #[gN (width l) (splitP l).length n g cap] w fun e w' => e = .returned (.bool (sixB l)) ∧ Below w.heap.size w w' := by
  obtain ⟨W, hW⟩ : ∃ W, W = width l := ⟨_, rfl⟩
  obtain ⟨H, hH⟩ : ∃ H, H = (splitP l).length := ⟨_, rfl⟩
  have hlen := rd_len hr
  by_cases hc : cntD l = 6
  · by_cases hw : width l ≤ 6 ∧ (splitP l).length ≤ 6
    · exact neSix_grid l _ _ n g cap (rd_grid hr hc hw.1 hw.2) (by rw [hn]; exact hlen.1) w hA
    · have hd6 : (digK (flatL l) n).length = 6 := by rw [hn, digK_count, ← cnt_flat, hc]
      have HY := hide (six_wide hw)
      have HDG := hide (fun wx (hx : ByN wx g (flatL l)) => neDigits_any (flatL l) W H n g cap hn.symm (by rw [hn]; exact hlen.2) (rd_ok hr) wx hx)
      rw [hd6] at HDG
      rw [← hW, ← hH] at hw
      have hWb : W ≤ 41 := by have := (rd_parts hr).1; have h2 := len_split l; rw [hW]; have h3 := hlen.2; have h4 : 1 * width l ≤ (splitP l).length * width l := Nat.mul_le_mul_right _ (List.length_pos_iff.2 (splitP_ne l)); rw [Nat.one_mul, Nat.mul_comm, ← hlen.1] at h4; omega
      have hHb : H ≤ 42 := by have := (rd_parts hr).1; have h2 := len_split l; rw [hH]; omega
      rw [← hW, ← hH]
      have HA := hide hA
      clear hn hr hc hlen hd6 hW hH hA
      have G0 := IsGN.new (w := w) (x := (W : Int)) (y := (H : Int)) (v := .slice (some ⟨g, 0, none⟩) n cap)
      have q0 : Below w.heap.size w (w.alloc (.cells #[.int .i64 (W : Int), .int .i64 (H : Int), .slice (some ⟨g, 0, none⟩) n cap] 27)) := by go_grown
      have A0 := byN_to q0 HA.out rfl
      go_enter Tryz.func12, Tryz.ntmps12
      go_wp2_with fail
      generalize w.alloc (.cells #[.int .i64 (W : Int), .int .i64 (H : Int), .slice (some ⟨g, 0, none⟩) n cap] 27) = W0 at G0 q0 A0 ⊢
      obtain ⟨l0, ⟨a0, a1, a2⟩, -⟩ := G0.all
      by_cases h1 : W ≤ 6
      · have h1i : (W : Int) ≤ 6 := by omega
        have h2i : (6 : Int) < (H : Int) := by omega
        clear hw h1
        go_wp2_with (go_at_call 19; (with_reducible refine (HDG.out _ A0).mono ?_); rintro e w2 ⟨v, rfl, O2, hb2⟩; obtain ⟨db, dc, rfl, hdb0, hdb1⟩ := own_form O2 (by omega); have G2 := isGN_to hb2 G0 rfl; have q2 := below_after q0 hb2 q0.size; obtain ⟨l1, ⟨b0, b1, b2⟩, -⟩ := G2.all; clear O2)
        go_returns
        exact ⟨ret_bool HY.out.symm, q2⟩
      · have h1i : (6 : Int) < (W : Int) := by omega
        clear hw h1
        go_wp2_with (go_at_call 19; (with_reducible refine (HDG.out _ A0).mono ?_); rintro e w2 ⟨v, rfl, O2, hb2⟩; obtain ⟨db, dc, rfl, hdb0, hdb1⟩ := own_form O2 (by omega); have G2 := isGN_to hb2 G0 rfl; have q2 := below_after q0 hb2 q0.size; obtain ⟨l1, ⟨b0, b1, b2⟩, -⟩ := G2.all; clear O2)
        go_returns
        exact ⟨ret_bool HY.out.symm, q2⟩
  · have hdm : (digK (flatL l) n).length = cntD l := by rw [hn, digK_count, ← cnt_flat]
    have HY := hide (six_cnt hc)
    have HDG := hide (fun wx (hx : ByN wx g (flatL l)) => neDigits_any (flatL l) W H n g cap hn.symm (by rw [hn]; exact hlen.2) (rd_ok hr) wx hx)
    rw [hdm] at HDG
    have hcl : cntD l ≤ 41 := by rw [← hdm]; exact Nat.le_trans (digK_len _ _) (by rw [hn]; exact hlen.2)
    rw [← hW, ← hH]
    have e6 : ((cntD l : Int) != 6) = true := bne_iff_ne.2 (by omega)
    generalize cntD l = m at *
    have HA := hide hA
    clear hn hr hc hlen hdm hW hH hA
    have G0 := IsGN.new (w := w) (x := (W : Int)) (y := (H : Int)) (v := .slice (some ⟨g, 0, none⟩) n cap)
    have q0 : Below w.heap.size w (w.alloc (.cells #[.int .i64 (W : Int), .int .i64 (H : Int), .slice (some ⟨g, 0, none⟩) n cap] 27)) := by go_grown
    have A0 := byN_to q0 HA.out rfl
    go_enter Tryz.func12, Tryz.ntmps12
    go_wp2_with fail
    generalize w.alloc (.cells #[.int .i64 (W : Int), .int .i64 (H : Int), .slice (some ⟨g, 0, none⟩) n cap] 27) = W0 at G0 q0 A0 ⊢
    obtain ⟨l0, ⟨a0, a1, a2⟩, -⟩ := G0.all
    refine (HDG.out _ A0).mono ?_
    rintro e w2 ⟨v, rfl, O2, hb2⟩
    have q2 := below_after q0 hb2 q0.size
    rcases own_forms O2 with ⟨rfl, hm0⟩ | ⟨db, dc, rfl, -, -⟩
    · subst hm0
      clear O2 e6
      go_wp2
      go_returns
      exact ⟨ret_bool HY.out.symm, q2⟩
    · clear O2
      go_wp2
      go_returns
      exact ⟨ret_bool HY.out.symm, q2⟩
end Go.Proofs.YtkknjokacinlaaaGreatDoor
