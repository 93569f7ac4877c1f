/- The walk of the law of AllLoops. -/
import Derived.Test.YtkiocklkpnjejaaAlLen
namespace Go.Proofs.Ytkiocklkpnjejaa
set_option maxRecDepth 100000
set_option linter.all false
open Go.RowKit

set_option maxHeartbeats 800000 in
theorem specAL_no (g n : Nat) (L : List D) (w : World) (hn : n = L.length) (h4 : n ≤ 1048576) (hD : DAt w g 0 L) (h : towB L = false) : Calls Try.prog 41 #[.slice (some ⟨g, 0, none⟩) n n] w fun e w' => e = .returned (.tuple #[.slice none 0 0, .bool false]) ∧ Below w.heap.size w w' := by
  have HC := hide (clDice_any g n n L w hn h4 hD)
  rw [h] at HC
  clear hD hn h
  go_enter Try.func41, Try.ntmps41
  go_wp2_with fail
  refine HC.out.mono ?_
  rintro e w1 ⟨rfl, q1⟩
  go_wp2
  go_returns
  exact ⟨rfl, q1⟩
set_option maxHeartbeats 800000 in
theorem specAL_yes (g n : Nat) (L : List D) (w : World) (hn : n = L.length) (h4 : n ≤ 1048576) (hD : DAt w g 0 L) (h : towB L = true) : Calls Try.prog 41 #[.slice (some ⟨g, 0, none⟩) n n] w fun e w' => ∃ v, e = .returned (.tuple #[v, .bool true]) ∧ SS w' w.heap.size w'.heap.size v (loopsK L n (3 ^ n)) ∧ Below w.heap.size w w' := by
  have HC := hide (clDice_any g n n L w hn h4 hD)
  rw [h] at HC
  have hl := towB_len h
  have HD := hide hD
  have HLO := hide (fun (W : World) (hW : DAt W g 0 L) => clLoops_any g n L W hn (by omega) (by omega) hW)
  clear hD hn h hl
  go_enter Try.func41, Try.ntmps41
  go_wp2_with fail
  refine HC.out.mono ?_
  rintro e w1 ⟨rfl, q1⟩
  go_wp2_with fail
  refine (HLO.out _ (dAt_to q1 HD.out rfl)).mono ?_
  rintro e w2 ⟨v, rfl, S2, hb2⟩
  have q2 := below_to hb2 q1 q1.size rfl rfl rfl rfl
  have HO := hide (ss_mono S2 q1.size (Nat.le_refl _))
  clear hb2 q1 S2
  go_wp2
  go_returns
  exact ⟨_, rfl, HO.out, q2⟩
theorem specAL_any (g n : Nat) (L : List D) (w : World) (hn : n = L.length) (h4 : n ≤ 1048576) (hD : DAt w g 0 L) : Calls Try.prog 41 #[.slice (some ⟨g, 0, none⟩) n n] w (AlPost L w) := by
  unfold AlPost alL
  cases h1 : towB L
  · rw [if_neg (by decide)]
    exact (specAL_no g n L w hn h4 hD h1).mono fun e w' k => ⟨_, k.1, ss_nil _ _ _, k.2⟩
  · rw [if_pos rfl, ← hn]
    exact specAL_yes g n L w hn h4 hD h1
set_option maxHeartbeats 3200000 in
theorem walk_AllLoops (VV0 : Value) (L0 : List D) (w : World) (hV : DsIn w VV0 L0) : Calls Try.prog 10 #[VV0] w fun e w' => e = .returned (.bool true) ∧ Below w.heap.size w w' := by
  have HV0 := hide hV
  clear hV
  by_cases hl : L0.length ≤ 1048576
  · have HL1 := hide hl
    obtain ⟨z, hz, hz0⟩ : ∃ z : Int, z = 1048576 - (L0.length : Int) ∧ 0 ≤ z := ⟨_, rfl, by omega⟩
    have HSZ := hide (show Calls Try.prog 23 #[VV0, .int .i64 1048576] w fun e w' => e = .returned (.int .i64 z) ∧ w = w' from by
      have := szDieS_any VV0 L0 1048576 w HV0.out (by omega)
      rw [if_neg (by omega), ← hz] at this
      exact this)
    have hzn : ¬ z < 0 := by omega
    clear hz hl
    obtain ⟨nn, hnn⟩ : ∃ x : Int, x = 1 + ((L0.length * 6 : Nat) : Int) := ⟨_, rfl⟩
    have hnn0 : ¬ nn < 0 := by omega
    have HNN := hide hnn
    clear hnn
    have hlen := hide (show (alL L0).length ≤ 100000 ∧ sumL (alL L0) ≤ 100000 from alL_len _)
    obtain ⟨Z, hZ⟩ : ∃ Z, Z = alL L0 := ⟨_, rfl⟩
    have HZ := hide hZ
    clear hZ
    rw [← HZ.out] at hlen
    obtain ⟨ok, hok⟩ : ∃ ok, ok = towB L0 := ⟨_, rfl⟩
    have HOK := hide hok
    clear hok
    have e1 : (ok != ok) = false := by simp
    obtain ⟨N, hN⟩ : ∃ N : Int, N = ((sumL Z : Nat) : Int) := ⟨_, rfl⟩
    have n1 : ¬ (1 + N < 0) := by omega
    have n2 : ((1 + N) != (1 + N)) = false := by simp
    have HN := hide hN
    clear hN
    go_enter Try.func10, Try.ntmps10
    go_wp2_with fail
    refine HSZ.out.mono ?_
    rintro e w' ⟨rfl, rfl⟩
    clear hz0
    go_wp2_with fail
    refine (toDieS_any VV0 L0 _ HV0.out HL1.out).mono ?_
    rintro e w1 ⟨g1, _, rfl, O1, q1⟩
    have HVW := hide HV0.out
    have HV1 := hide (dsIn_to q1 HV0.out rfl)
    clear HV0
    have D1 := hide (dAt_own O1 rfl)
    have HXX := hide O1
    clear O1
    go_wp2_with fail
    refine (specAL_any g1 _ L0 _ rfl HL1.out D1.out).mono ?_
    rintro e w2 ⟨r0, rfl, O2, hb2⟩
    have q2 := below_to hb2 q1 q1.size rfl rfl rfl rfl
    have HV2 := hide (dsIn_to hb2 HV1.out rfl)
    have zs2 := hb2.size
    rw [← HZ.out] at O2
    rw [← HOK.out]
    have HO2 := hide (O2)
    clear hb2 HV1 q1 O2
    have HOA := hide HO2.out
    have q2S := hide q2.size
    go_wp2_with fail
    refine (toDieS_any VV0 L0 _ HV2.out HL1.out).mono ?_
    rintro e w3 ⟨g3, _, rfl, O3, hb3⟩
    have q3 := below_to hb3 q2 q2.size rfl rfl rfl rfl
    have HO3 := hide (ss_to hb3 HO2.out rfl)
    have HV3 := hide (dsIn_to hb3 HV2.out rfl)
    have zs3 := hb3.size
    have D3 := hide (dAt_own O3 rfl)
    try clear HXX
    have HXX := hide O3
    clear hb3 HO2 HV2 q2 O3
    have HX3 := hide (HXX.out)
    have HA2 := hide (ss_apart2 HOA.out HXX.out (by first | exact Nat.le_refl _ | simp))
    have HXY := hide HXX.out
    have HSX := hide (show w.heap.size ≤ w2.heap.size from q2S.out)
    have hltO := hide (by first | exact Nat.le_refl _ | exact zs3)
    have hsq : w.heap.size ≤ _ := q3.size
    go_wp2_with fail
    refine (implAL_any g3 _ L0 _ rfl HL1.out D3.out).mono ?_
    rintro e w4 ⟨r1, rfl, O4, hb4⟩
    have q4 := below_to hb4 q3 q3.size rfl rfl rfl rfl
    have HO4 := hide (ss_to hb4 HO3.out rfl)
    have HV4 := hide (dsIn_to hb4 HV3.out rfl)
    have HX4 := hide (own_to hb4 HX3.out rfl)
    have zs4 := hb4.size
    rw [← HZ.out] at O4
    rw [← HOK.out]
    have HG4 := hide (O4)
    have HA1 := hide (ss_apart HXY.out O4 (by first | exact Nat.le_refl _ | simp))
    clear hb4 HO3 HV3 HX3 q3 O4
    go_wp2_with fail
    refine (eqIntSS_any r1 r0 _ _ Z _ (by have := hlen.out; omega) HG4.out HO4.out).mono ?_
    rintro e w5 ⟨rfl, hb5⟩
    have q5 := below_to hb5 q4 q4.size rfl rfl rfl rfl
    have HG5 := hide (ss_to hb5 HG4.out rfl)
    have HO5 := hide (ss_to hb5 HO4.out rfl)
    have HV5 := hide (dsIn_to hb5 HV4.out rfl)
    have HX5 := hide (own_to hb5 HX4.out rfl)
    have zs5 := hb5.size
    clear hb5 HG4 HO4 HV4 HX4 q4 
    go_wp2_with fail
    refine (toDieS_any VV0 L0 _ HV5.out HL1.out).mono ?_
    rintro e w6 ⟨g6, _, rfl, O6, hb6⟩
    have q6 := below_to hb6 q5 q5.size rfl rfl rfl rfl
    have HG6 := hide (ss_to hb6 HG5.out rfl)
    have HO6 := hide (ss_to hb6 HO5.out rfl)
    have HV6 := hide (dsIn_to hb6 HV5.out rfl)
    have HX6 := hide (own_to hb6 HX5.out rfl)
    have zs6 := hb6.size
    try clear HXX
    have HP6 := hide O6
    clear hb6 HG5 HO5 HV5 HX5 q5 O6
    go_wp2_with fail
    refine (eqDieS_any _ _ L0.length _ _ L0 _ (by have := HL1.out; omega) HX6.out HP6.out).mono ?_
    rintro e w7 ⟨rfl, hb7⟩
    have q7 := below_to hb7 q6 q6.size rfl rfl rfl rfl
    have HG7 := hide (ss_to hb7 HG6.out rfl)
    have HO7 := hide (ss_to hb7 HO6.out rfl)
    have HP7 := hide (own_to hb7 HP6.out rfl)
    have HV7 := hide (dsIn_to hb7 HV6.out rfl)
    have HX7 := hide (own_to hb7 HX6.out rfl)
    have zs7 := hb7.size
    clear hb7 HG6 HO6 HP6 HV6 HX6 q6 
    clear HP7
    go_wp2_with fail
    refine (markDieS_kept _ L0.length _ L0 1 _ HL1.out (by omega) HX7.out).mono ?_
    rintro e wk ⟨rfl, -, hk⟩
    rw [← HNN.out]
    have hbk := hk.below (B := w.heap.size) (fun g hg => by have := (HX7.out.lt g hg).1; have := HSX.out; omega)
    have qk := q7.trans hbk
    have HGk := hide (ss_kept hk HG7.out HA1.out)
    have HOk := hide (ss_kept hk HO7.out HA2.out)
    have HVk := hide (dsIn_to qk HVW.out rfl)
    clear hk hbk HX7 HG7 HO7 HV7 q7
    have q8 := qk
    have HG8 := HGk
    have HO8 := HOk
    have HV8 := HVk
    clear qk HGk HOk HVk
    go_wp2_with fail
    refine (eqIntSS_any r1 r0 _ _ Z _ (by have := hlen.out; omega) HG8.out HO8.out).mono ?_
    rintro e w9 ⟨rfl, hb9⟩
    have q9 := below_to hb9 q8 q8.size rfl rfl rfl rfl
    have HG9 := hide (ss_to hb9 HG8.out rfl)
    have HO9 := hide (ss_to hb9 HO8.out rfl)
    have HV9 := hide (dsIn_to hb9 HV8.out rfl)
    have zs9 := hb9.size
    clear hb9 HG8 HO8 HV8 q8 
    go_wp2_with fail
    refine (markIntSS_any r1 _ Z 1 _ (by have := hlen.out; omega) (by omega) HG9.out).mono ?_
    rintro e w10 ⟨rfl, G10, hb10⟩
    rw [← HN.out]
    have q10 := q9.trans (hb10.mono hsq)
    have HV10 := hide (dsIn_to q10 HVW.out rfl)
    have HO10 := hide (ss_below hb10 HO9.out hltO.out)
    have HG10 := hide G10
    clear hb10 G10 q9 HO9 HG9 HV9
    go_wp2_with fail
    refine (heldIntSS_any r1 Z 1 _ (by have := hlen.out; omega) (by omega) HG10.out).mono ?_
    rintro e w' ⟨rfl, rfl⟩
    rw [← HN.out]
    go_wp2_with fail
    refine (toDieS_any VV0 L0 _ HV10.out HL1.out).mono ?_
    rintro e w11 ⟨g11, _, rfl, O11, hb11⟩
    have q11 := below_to hb11 q10 q10.size rfl rfl rfl rfl
    have HG11 := hide (ss_to hb11 HG10.out rfl)
    have HO11 := hide (ss_to hb11 HO10.out rfl)
    have HV11 := hide (dsIn_to hb11 HV10.out rfl)
    have zs11 := hb11.size
    have D11 := hide (dAt_own O11 rfl)
    try clear HXX
    have HXX := hide O11
    clear hb11 HG10 HO10 HV10 q10 O11
    go_wp2_with fail
    refine (implAL_any g11 _ L0 _ rfl HL1.out D11.out).mono ?_
    rintro e w12 ⟨r2, rfl, O12, hb12⟩
    have q12 := below_to hb12 q11 q11.size rfl rfl rfl rfl
    have HG12 := hide (ss_to hb12 HG11.out rfl)
    have HO12 := hide (ss_to hb12 HO11.out rfl)
    have HV12 := hide (dsIn_to hb12 HV11.out rfl)
    have zs12 := hb12.size
    rw [← HZ.out] at O12
    rw [← HOK.out]
    have HH12 := hide (O12)
    clear hb12 HG11 HO11 HV11 q11 O12
    go_wp2_with fail
    refine (eqIntSS_any r2 r0 _ _ Z _ (by have := hlen.out; omega) HH12.out HO12.out).mono ?_
    rintro e w13 ⟨rfl, hb13⟩
    have q13 := below_to hb13 q12 q12.size rfl rfl rfl rfl
    have HG13 := hide (ss_to hb13 HG12.out rfl)
    have HH13 := hide (ss_to hb13 HH12.out rfl)
    have HO13 := hide (ss_to hb13 HO12.out rfl)
    have HV13 := hide (dsIn_to hb13 HV12.out rfl)
    have zs13 := hb13.size
    clear hb13 HG12 HH12 HO12 HV12 q12 
    go_wp2_with fail
    refine (heldIntSS_any r1 Z 1 _ (by have := hlen.out; omega) (by omega) HG13.out).mono ?_
    rintro e w' ⟨rfl, rfl⟩
    rw [← HN.out]
    go_wp2
    go_returns
    exact ⟨rfl, q13⟩
  · have HSZ := hide (show Calls Try.prog 23 #[VV0, .int .i64 1048576] w fun e w' => e = .returned (.int .i64 (-1)) ∧ w = w' from by
      have := szDieS_any VV0 L0 1048576 w HV0.out (by omega)
      rw [if_pos (by omega)] at this
      exact this)
    clear hl
    go_enter Try.func10, Try.ntmps10
    go_wp2_with fail
    refine HSZ.out.mono ?_
    rintro e w' ⟨rfl, rfl⟩
    go_wp2
    go_returns
    exact ⟨rfl, Below.refl _ _⟩
end Go.Proofs.Ytkiocklkpnjejaa
