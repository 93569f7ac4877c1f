/- The walk of the law of BlockedDice. -/
import Derived.Test.YtdndegonpdakkaaDoorBkS
namespace Go.Proofs.YtdndegonpdakkaaDoor
set_option maxRecDepth 100000
set_option linter.all false
open Go.RowKit

set_option maxHeartbeats 3200000 in
theorem walk_BlockedDice (v0 : ByteArray) (hv0 : v0.size ≤ maxLen) (VV1 : Value) (L1 : List St) (w : World) (hV : StsIn w VV1 L1) (hg : Glob w) : Calls Tryd.prog 7 #[.string v0, VV1] w fun e w' => e = .returned (.bool true) ∧ Below w.heap.size w w' := by
  have HV := hide hV
  have HGL := hide hg
  clear hV hg
  by_cases h0 : v0.size ≤ 1048576
  · have HS0 := hide h0
    by_cases hl : L1.length ≤ 1048576
    · have HL1 := hide hl
      obtain ⟨z, hz, hz0⟩ : ∃ z : Int, z = 1048576 - (L1.length : Int) ∧ 0 ≤ z := ⟨_, rfl, by omega⟩
      have HSZ := hide (show Calls Tryd.prog 10 #[VV1, .int .i64 1048576] w fun e w' => e = .returned (.int .i64 z) ∧ w = w' from by
        have := szStateS_any VV1 L1 1048576 w HV.out (by omega)
        rw [if_neg (by omega), ← hz] at this
        exact this)
      have hzn : ¬ z < 0 := by omega
      clear hz hl
      obtain ⟨nn, hnn⟩ : ∃ x : Int, x = 1 + ((L1.length * 8 : Nat) : Int) := ⟨_, rfl⟩
      have hnn0 : ¬ nn < 0 := by omega
      have HNN := hide hnn
      clear hnn
      have hlen := hide (show (bdL v0.data.toList L1).length ≤ 100000 from Nat.le_trans (bdL_len _ _) (by decide))
      obtain ⟨Z, hZ⟩ : ∃ Z, Z = bdL v0.data.toList L1 := ⟨_, rfl⟩
      have HZ := hide hZ
      clear hZ
      rw [← HZ.out] at hlen
      obtain ⟨ok, hok⟩ : ∃ ok, ok = adB v0.data.toList L1 := ⟨_, rfl⟩
      have HOK := hide hok
      clear hok
      have e1 : (ok != ok) = false := by simp
      obtain ⟨N, hN⟩ : ∃ N : Int, N = ((Z.length : Nat) : Int) := ⟨_, rfl⟩
      have n1 : ¬ (1 + N < 0) := by omega
      have n2 : ((1 + N) != (1 + N)) = false := by simp
      have HN := hide hN
      clear hN
      go_enter Tryd.func7, Tryd.ntmps7
      go_wp2_with fail
      refine HSZ.out.mono ?_
      rintro e w' ⟨rfl, rfl⟩
      clear hz0
      go_wp2_with fail
      refine (toStateS_any VV1 L1 _ HV.out HL1.out).mono ?_
      rintro e w1 ⟨g1, _, rfl, O1, q1⟩
      have D1 := hide (stAt_own O1 rfl)
      have V1 := hide (stsIn_to q1 HV.out rfl)
      clear O1
      go_wp2_with fail
      refine (specBD_any v0 g1 L1 L1.length rfl _ HS0.out D1.out).mono ?_
      rintro e w2 ⟨r0, rfl, O2, hb2⟩
      rw [← HZ.out] at O2
      rw [← HOK.out]
      have HO2 := hide O2
      have q2 := below_to hb2 q1 q1.size rfl rfl rfl rfl
      have V2 := hide (stsIn_to hb2 V1.out rfl)
      clear hb2 q1 O2
      go_wp2_with fail
      refine (toStateS_any VV1 L1 _ V2.out HL1.out).mono ?_
      rintro e w3 ⟨g3, _, rfl, O3, hb3⟩
      have q3 := below_to hb3 q2 q2.size rfl rfl rfl rfl
      have D3 := hide (stAt_own O3 rfl)
      have V3 := hide (stsIn_to hb3 V2.out rfl)
      have G3 := hide (glob_to q3 HGL.out rfl)
      have HA2 := hide (own_apart HO2.out O3 (by first | exact Nat.le_refl _ | simp))
      have HO3 := hide (own_to hb3 HO2.out rfl)
      have HX3 := hide O3
      have hlt3 := hide (fun g hg => (HO3.out.lt g hg).2)
      have hsz2 := q2.size
      clear hb3 q2 O3 HO2
      go_wp2_with fail
      refine (implBD_any v0 g3 L1 L1.length rfl _ HS0.out G3.out D3.out).mono ?_
      rintro e w4 ⟨r1, rfl, O4, hb4⟩
      rw [← HZ.out] at O4
      rw [← HOK.out]
      have q4 := below_to hb4 q3 q3.size rfl rfl rfl rfl
      have V4 := hide (stsIn_to hb4 V3.out rfl)
      have HA1 := hide (own_apart HX3.out O4 (by first | exact Nat.le_refl _ | simp))
      have hsz2 := hide hsz2
      have HG4 := hide O4
      have HO4 := hide (own_to hb4 HO3.out rfl)
      have HX4 := hide (own_to hb4 HX3.out rfl)
      have hsz3 : w.heap.size ≤ w3.heap.size := q3.size
      clear hb4 q3 HO3 HX3 O4
      go_wp2_with fail
      refine (eqIntS_any r1 r0 Z.length _ _ Z _ (by have := hlen.out; omega) HG4.out HO4.out).mono ?_
      rintro e w5 ⟨rfl, hb5⟩
      have q5 := below_to hb5 q4 q4.size rfl rfl rfl rfl
      have V5 := hide (stsIn_to hb5 V4.out rfl)
      have HG5 := hide (own_to hb5 HG4.out rfl)
      have HO5 := hide (own_to hb5 HO4.out rfl)
      have HX5 := hide (own_to hb5 HX4.out rfl)
      clear hb5 q4 HG4 HO4 HX4
      go_wp2_with fail
      refine (toStateS_any VV1 L1 _ V5.out HL1.out).mono ?_
      rintro e w6 ⟨g6, _, rfl, O6, hb6⟩
      have q6 := below_to hb6 q5 q5.size rfl rfl rfl rfl
      have V6 := hide (stsIn_to hb6 V5.out rfl)
      have HG6 := hide (own_to hb6 HG5.out rfl)
      have HO6 := hide (own_to hb6 HO5.out rfl)
      have HX6 := hide (own_to hb6 HX5.out rfl)
      have HP6 := hide O6
      clear hb6 q5 HG5 HO5 HX5 O6
      go_wp2_with fail
      refine (eqStateS_any _ _ L1.length _ _ L1 _ (by have := HL1.out; omega) HX6.out HP6.out).mono ?_
      rintro e w7 ⟨rfl, hb7⟩
      have q7 := below_to hb7 q6 q6.size rfl rfl rfl rfl
      have HG7 := hide (own_to hb7 HG6.out rfl)
      have HO7 := hide (own_to hb7 HO6.out rfl)
      have HX7 := hide (own_to hb7 HX6.out rfl)
      clear hb7 q6 HG6 HO6 HX6 HP6
      go_wp2_with fail
      refine (markStateS_kept _ L1.length _ L1 1 _ HL1.out (by omega) HX7.out).mono ?_
      rintro e w8 ⟨rfl, -, hk8⟩
      rw [← HNN.out]
      have hb8 := hk8.below (B := w.heap.size) (fun g hg => by have := (HX7.out.lt g hg).1; have := hsz2.out; omega)
      have q8 := q7.trans hb8
      have HG8 := hide (own_kept hk8 HG7.out HA1.out)
      have HO8 := hide (own_kept hk8 HO7.out (fun g hg hx => HA2.out g hx hg))
      clear hb8 q7 HG7 HO7 HX7 hk8
      go_wp2_with fail
      refine (eqIntS_any r1 r0 Z.length _ _ Z _ (by have := hlen.out; omega) HG8.out HO8.out).mono ?_
      rintro e w9 ⟨rfl, hb9⟩
      have q9 := below_to hb9 q8 q8.size rfl rfl rfl rfl
      have HG9 := hide (own_to hb9 HG8.out rfl)
      have HO9 := hide (own_to hb9 HO8.out rfl)
      clear hb9 q8 HG8 HO8
      go_wp2_with fail
      refine (markIntS_any r1 Z.length _ Z 1 _ (by have := hlen.out; omega) (by omega) HG9.out).mono ?_
      rintro e w10 ⟨rfl, G10, hb10⟩
      rw [← HN.out]
      have q10 := q9.trans (hb10.mono hsz3)
      have V10 := hide (stsIn_to q10 HV.out rfl)
      have HO10 := hide (own_below hb10 HO9.out hlt3.out)
      have HG10 := hide G10
      clear hb10 q9 HG9 HO9 G10
      go_wp2_with fail
      refine (heldIntS_any r1 Z.length _ 1 _ (by have := hlen.out; omega) (by omega) HG10.out).mono ?_
      rintro e w11 ⟨rfl, rfl⟩
      rw [← HN.out]
      go_wp2_with fail
      refine (toStateS_any VV1 L1 _ V10.out HL1.out).mono ?_
      rintro e w12 ⟨g12, _, rfl, O12, hb12⟩
      have q12 := below_to hb12 q10 q10.size rfl rfl rfl rfl
      have D12 := hide (stAt_own O12 rfl)
      have G12 := hide (glob_to q12 HGL.out rfl)
      have HG12 := hide (own_to hb12 HG10.out rfl)
      have HO12 := hide (own_to hb12 HO10.out rfl)
      clear hb12 q10 HG10 HO10 O12
      go_wp2_with fail
      refine (implBD_any v0 g12 L1 L1.length rfl _ HS0.out G12.out D12.out).mono ?_
      rintro e w13 ⟨r2, rfl, O13, hb13⟩
      rw [← HZ.out] at O13
      rw [← HOK.out]
      have q13 := below_to hb13 q12 q12.size rfl rfl rfl rfl
      have HG13 := hide (own_to hb13 HG12.out rfl)
      have HO13 := hide (own_to hb13 HO12.out rfl)
      have HH13 := hide O13
      clear hb13 q12 HG12 HO12 O13
      go_wp2_with fail
      refine (eqIntS_any r2 r0 Z.length _ _ Z _ (by have := hlen.out; omega) HH13.out HO13.out).mono ?_
      rintro e w14 ⟨rfl, hb14⟩
      have q14 := below_to hb14 q13 q13.size rfl rfl rfl rfl
      have HG14 := hide (own_to hb14 HG13.out rfl)
      clear hb14 q13 HG13 HO13 HH13
      go_wp2_with fail
      refine (heldIntS_any r1 Z.length _ 1 _ (by have := hlen.out; omega) (by omega) HG14.out).mono ?_
      rintro e w15 ⟨rfl, rfl⟩
      rw [← HN.out]
      go_wp2
      go_returns
      exact ⟨rfl, q14⟩
    · have HSZ := hide (show Calls Tryd.prog 10 #[VV1, .int .i64 1048576] w fun e w' => e = .returned (.int .i64 (-1)) ∧ w = w' from by
        have := szStateS_any VV1 L1 1048576 w HV.out (by omega)
        rw [if_pos (by omega)] at this
        exact this)
      clear hl
      go_enter Tryd.func7, Tryd.ntmps7
      go_wp2_with fail
      refine HSZ.out.mono ?_
      rintro e w' ⟨rfl, rfl⟩
      go_wp2
      go_returns
      exact ⟨rfl, Below.refl _ _⟩
  · go_enter Tryd.func7, Tryd.ntmps7
    go_wp2
    go_returns
    exact ⟨rfl, Below.refl _ _⟩
end Go.Proofs.YtdndegonpdakkaaDoor
