/- The model of sixes: spec.neSix, spec.IsSix; the law of IsSix. -/
import Derived.Test.YtbfclnigjijkbaaNeD
import Derived.Test.YtbfclnigjijkbaaNetG
namespace Go.Proofs.Ytbfclnigjijkbaa
set_option maxRecDepth 100000
set_option linter.all false
open Go.RowKit

theorem six_rd {l : List UInt8} (h : isRd l = false) : sixB l = false := by
  cases hs : sixB l
  · rfl
  · obtain ⟨hF, -⟩ := six_partsS hs
    rw [hF.rd] at h
    cases h
theorem six_cnt {l : List UInt8} (h : ¬ cntD l = 6) : sixB l = false := by unfold sixB; rw [decide_eq_false h]; rfl
set_option maxHeartbeats 3200000 in
theorem neSix_any (l : List UInt8) (g n cap : Nat) (hr : isRd l = true) (hn : n = (flatL l).length) (w : World) (hA : ByN w g (flatL l)) : Calls Try.prog 23 #[gN (width l) (splitP l).length n g cap] w fun e w' => e = .returned (.bool (sixB l)) ∧ Below w.heap.size w w' := by
  obtain ⟨W, hW⟩ : ∃ W, W = width l := ⟨_, rfl⟩
  obtain ⟨H, hH⟩ : ∃ H, H = (splitP l).length := ⟨_, rfl⟩
  have hlen := rd_len hr
  by_cases hc : cntD l = 6
  · by_cases hw : width l ≤ 6 ∧ (splitP l).length ≤ 6
    · exact neSix_grid l _ _ n g cap (rd_grid hr hc hw.1 hw.2) (by rw [hn]; exact hlen.1) w hA
    · have hd6 : (digK (flatL l) n).length = 6 := by rw [hn, digK_count, ← cnt_flat, hc]
      have HY := hide (six_wide hw)
      have HDG := hide (fun wx (hx : ByN wx g (flatL l)) => neDigits_any (flatL l) W H n g cap hn.symm (by rw [hn]; exact hlen.2) (rd_ok hr) wx hx)
      rw [hd6] at HDG
      rw [← hW, ← hH] at hw
      have hWb : W ≤ 41 := by have := (rd_parts hr).1; have h2 := len_split l; rw [hW]; have h3 := hlen.2; have h4 : 1 * width l ≤ (splitP l).length * width l := Nat.mul_le_mul_right _ (List.length_pos_iff.2 (splitP_ne l)); rw [Nat.one_mul, Nat.mul_comm, ← hlen.1] at h4; omega
      have hHb : H ≤ 42 := by have := (rd_parts hr).1; have h2 := len_split l; rw [hH]; omega
      rw [← hW, ← hH]
      have HA := hide hA
      clear hn hr hc hlen hd6 hW hH hA
      have G0 := IsGN.new (w := w) (x := (W : Int)) (y := (H : Int)) (v := .slice (some ⟨g, 0, none⟩) n cap)
      have q0 : Below w.heap.size w (w.alloc (.cells #[.int .i64 (W : Int), .int .i64 (H : Int), .slice (some ⟨g, 0, none⟩) n cap] 37)) := by go_grown
      have A0 := byN_to q0 HA.out rfl
      go_enter Try.func23, Try.ntmps23
      go_wp2_with fail
      generalize w.alloc (.cells #[.int .i64 (W : Int), .int .i64 (H : Int), .slice (some ⟨g, 0, none⟩) n cap] 37) = W0 at G0 q0 A0 ⊢
      obtain ⟨l0, ⟨a0, a1, a2⟩, -⟩ := G0.all
      by_cases h1 : W ≤ 6
      · have h1i : (W : Int) ≤ 6 := by omega
        have h2i : (6 : Int) < (H : Int) := by omega
        clear hw h1
        go_wp2_with (go_at_call 30; (with_reducible refine (HDG.out _ A0).mono ?_); rintro e w2 ⟨v, rfl, O2, hb2⟩; obtain ⟨db, dc, rfl, hdb0, hdb1⟩ := own_form O2 (by omega); have G2 := isGN_to hb2 G0 rfl; have q2 := below_after q0 hb2 q0.size; obtain ⟨l1, ⟨b0, b1, b2⟩, -⟩ := G2.all; clear O2)
        go_returns
        exact ⟨ret_bool HY.out.symm, q2⟩
      · have h1i : (6 : Int) < (W : Int) := by omega
        clear hw h1
        go_wp2_with (go_at_call 30; (with_reducible refine (HDG.out _ A0).mono ?_); rintro e w2 ⟨v, rfl, O2, hb2⟩; obtain ⟨db, dc, rfl, hdb0, hdb1⟩ := own_form O2 (by omega); have G2 := isGN_to hb2 G0 rfl; have q2 := below_after q0 hb2 q0.size; obtain ⟨l1, ⟨b0, b1, b2⟩, -⟩ := G2.all; clear O2)
        go_returns
        exact ⟨ret_bool HY.out.symm, q2⟩
  · have hdm : (digK (flatL l) n).length = cntD l := by rw [hn, digK_count, ← cnt_flat]
    have HY := hide (six_cnt hc)
    have HDG := hide (fun wx (hx : ByN wx g (flatL l)) => neDigits_any (flatL l) W H n g cap hn.symm (by rw [hn]; exact hlen.2) (rd_ok hr) wx hx)
    rw [hdm] at HDG
    have hcl : cntD l ≤ 41 := by rw [← hdm]; exact Nat.le_trans (digK_len _ _) (by rw [hn]; exact hlen.2)
    rw [← hW, ← hH]
    have e6 : ((cntD l : Int) != 6) = true := bne_iff_ne.2 (by omega)
    generalize cntD l = m at *
    have HA := hide hA
    clear hn hr hc hlen hdm hW hH hA
    have G0 := IsGN.new (w := w) (x := (W : Int)) (y := (H : Int)) (v := .slice (some ⟨g, 0, none⟩) n cap)
    have q0 : Below w.heap.size w (w.alloc (.cells #[.int .i64 (W : Int), .int .i64 (H : Int), .slice (some ⟨g, 0, none⟩) n cap] 37)) := by go_grown
    have A0 := byN_to q0 HA.out rfl
    go_enter Try.func23, Try.ntmps23
    go_wp2_with fail
    generalize w.alloc (.cells #[.int .i64 (W : Int), .int .i64 (H : Int), .slice (some ⟨g, 0, none⟩) n cap] 37) = W0 at G0 q0 A0 ⊢
    obtain ⟨l0, ⟨a0, a1, a2⟩, -⟩ := G0.all
    refine (HDG.out _ A0).mono ?_
    rintro e w2 ⟨v, rfl, O2, hb2⟩
    have q2 := below_after q0 hb2 q0.size
    rcases own_forms O2 with ⟨rfl, hm0⟩ | ⟨db, dc, rfl, -, -⟩
    · subst hm0
      clear O2 e6
      go_wp2
      go_returns
      exact ⟨ret_bool HY.out.symm, q2⟩
    · clear O2
      go_wp2
      go_returns
      exact ⟨ret_bool HY.out.symm, q2⟩
theorem specSix_any (s : ByteArray) (w : World) : Calls Try.prog 8 #[.string s] w fun e w' => e = .returned (.bool (sixB s.data.toList)) ∧ Below w.heap.size w w' := by
  go_enter Try.func8, Try.ntmps8
  go_wp2_with fail
  refine (neRead_any s _).mono ?_
  rintro e w1 (⟨hr, v, rfl, O1, hb1⟩ | ⟨hr, rfl, hb1⟩)
  · have hpos : 0 < (splitP s.data.toList).flatten.length := by
      obtain ⟨p1, p2, p3, -⟩ := rd_parts hr
      rw [flat_even p3]
      exact Nat.mul_pos (by omega) (List.length_pos_iff.2 (splitP_ne _))
    obtain ⟨gb, cap, rfl, hg0, hg1⟩ := own_form O1 hpos
    have HB := hide (byN_own O1 rfl)
    have HSX := hide (fun wx (hx : ByN wx gb (flatL s.data.toList)) => neSix_any s.data.toList gb _ cap hr rfl wx hx)
    obtain ⟨n, hn⟩ : ∃ n, n = (splitP s.data.toList).flatten.length := ⟨_, rfl⟩
    have hn' : n = (flatL s.data.toList).length := hn
    rw [← hn'] at HSX
    rw [← hn]
    have HQ := hide hb1
    generalize hx : sixB s.data.toList = x at HSX ⊢
    have HX := hide hx
    generalize width s.data.toList = W at HSX ⊢
    generalize (splitP s.data.toList).length = H at HSX ⊢
    clear O1 hr hpos hn hn' hx hb1
    go_wp2_with (go_at_call 23; (with_reducible refine (HSX.out _ ?_).mono ?_); exact byN_to ((Below.refl _ _).alloc (Nat.le_refl _) _) HB.out rfl; rintro e w2 ⟨rfl, hb2⟩; have HQ2 := hide (below_after (HQ.out.alloc HQ.out.size _) hb2 (HQ.out.alloc HQ.out.size _).size))
    go_returns
    exact ⟨ret_bool HX.out.symm, HQ2.out⟩
  · have HY := hide (six_rd hr)
    clear hr
    go_wp2
    go_returns
    exact ⟨ret_bool HY.out.symm, hb1.alloc hb1.size _⟩
set_option maxHeartbeats 800000 in
theorem walk_IsSix (v : ByteArray) (hv : v.size ≤ maxLen) (w : World) : Calls Try.prog 3 #[.string v] w fun e w' => e = .returned (.bool true) ∧ Below w.heap.size w w' := by
  by_cases h1 : v.size ≤ 1048576
  · generalize hx : sixB v.data.toList = x
    have HS := hide (fun wx => specSix_any v wx)
    have HP := hide (fun wx => isSix_any v wx h1)
    rw [hx] at HS HP
    clear hx
    have e1 : (x != x) = false := by simp
    have h1i : (v.size : Int) ≤ 1048576 := by omega
    go_enter Try.func3, Try.ntmps3
    go_wp2_with fail
    refine (HS.out _).mono ?_
    rintro e w1 ⟨rfl, hb1⟩
    go_wp2_with fail
    refine (HP.out _).mono ?_
    rintro e w2 ⟨rfl, hb2⟩
    go_wp2
    go_returns
    exact ⟨rfl, below_after hb1 hb2 hb1.size⟩
  · have h1i : (1048576 : Int) < (v.size : Int) := by omega
    clear h1
    go_enter Try.func3, Try.ntmps3
    go_wp2
    go_returns
    exact ⟨rfl, Below.refl _ _⟩
end Go.Proofs.Ytbfclnigjijkbaa
