/- The walks of the laws of SumOfDice and TouchingPairs. -/
import Derived.Test.YtdndegonpdakkaaDoorSumD
import Derived.Test.YtdndegonpdakkaaDoorTouchW
import Derived.Test.YtdndegonpdakkaaDoorWalksSA
namespace Go.Proofs.YtdndegonpdakkaaDoor
set_option maxRecDepth 100000
set_option linter.all false
open Go.RowKit

set_option maxHeartbeats 1600000 in
theorem walk_SumOfDice (v0 : ByteArray) (hv0 : v0.size ≤ maxLen) (VV1 : Value) (L1 : List St) (w : World) (hV : StsIn w VV1 L1) (hg : Glob w) : Calls Tryd.prog 9 #[.string v0, VV1] w fun e w' => e = .returned (.bool true) ∧ Below w.heap.size w w' := by
  have HV := hide hV
  have HGL := hide hg
  clear hV hg
  by_cases h0 : v0.size ≤ 1048576
  · have HS0 := hide h0
    by_cases hl : L1.length ≤ 1048576
    · have HL1 := hide hl
      obtain ⟨z, hz, hz0⟩ : ∃ z : Int, z = 1048576 - (L1.length : Int) ∧ 0 ≤ z := ⟨_, rfl, by omega⟩
      have HSZ := hide (show Calls Tryd.prog 10 #[VV1, .int .i64 1048576] w fun e w' => e = .returned (.int .i64 z) ∧ w = w' from by
        have := szStateS_any VV1 L1 1048576 w HV.out (by omega)
        rw [if_neg (by omega), ← hz] at this
        exact this)
      clear hz hl
      have hzn : ¬ z < 0 := by omega
      obtain ⟨z0, hz0⟩ : ∃ z, z = sdV v0.data.toList L1 := ⟨_, rfl⟩
      have HZ0 := hide hz0
      clear hz0
      have e0 : (z0 != z0) = false := by simp
      obtain ⟨z1, hz1⟩ : ∃ z, z = adB v0.data.toList L1 := ⟨_, rfl⟩
      have HZ1 := hide hz1
      clear hz1
      have e1 : (z1 != z1) = false := by simp
      go_enter Tryd.func9, Tryd.ntmps9
      go_wp2_with fail
      refine HSZ.out.mono ?_
      rintro e w' ⟨rfl, rfl⟩
      clear hz0
      go_wp2_with fail
      refine (toStateS_any VV1 L1 _ HV.out HL1.out).mono ?_
      rintro e w1 ⟨g1, _, rfl, O1, q1⟩
      have D1 := hide (stAt_own O1 rfl)
      have V1 := hide (stsIn_to q1 HV.out rfl)
      clear O1
      go_wp2_with fail
      refine (specSD_any v0 g1 L1 L1.length rfl _ HS0.out D1.out).mono ?_
      rintro e w2 ⟨rfl, hb2⟩
      rw [← HZ0.out, ← HZ1.out]
      have q2 := below_to hb2 q1 q1.size rfl rfl rfl rfl
      have V2 := hide (stsIn_to hb2 V1.out rfl)
      clear hb2 q1
      go_wp2_with fail
      refine (toStateS_any VV1 L1 _ V2.out HL1.out).mono ?_
      rintro e w3 ⟨g3, _, rfl, O3, hb3⟩
      have q3 := below_to hb3 q2 q2.size rfl rfl rfl rfl
      have D3 := hide (stAt_own O3 rfl)
      have V3 := hide (stsIn_to hb3 V2.out rfl)
      have G3 := hide (glob_to q3 HGL.out rfl)
      have HO3 := hide O3
      clear hb3 q2 O3
      go_wp2_with fail
      refine (implSD_any v0 g3 L1 L1.length rfl _ HS0.out G3.out D3.out).mono ?_
      rintro e w4 ⟨rfl, hb4⟩
      rw [← HZ0.out, ← HZ1.out]
      have q4 := below_to hb4 q3 q3.size rfl rfl rfl rfl
      have V4 := hide (stsIn_to hb4 V3.out rfl)
      have HO4 := hide (own_to hb4 HO3.out rfl)
      clear hb4 q3 HO3
      go_wp2_with fail
      refine (toStateS_any VV1 L1 _ V4.out HL1.out).mono ?_
      rintro e w5 ⟨g5, _, rfl, O5, hb5⟩
      have q5 := below_to hb5 q4 q4.size rfl rfl rfl rfl
      have HO5 := hide (own_to hb5 HO4.out rfl)
      have HP5 := hide O5
      clear hb5 q4 HO4 O5
      go_wp2_with fail
      refine (eqStateS_any _ _ L1.length _ _ L1 _ (by have := HL1.out; omega) HO5.out HP5.out).mono ?_
      rintro e w6 ⟨rfl, hb6⟩
      have q6 := below_to hb6 q5 q5.size rfl rfl rfl rfl
      clear hb6 q5
      go_wp2
      go_returns
      exact ⟨rfl, q6⟩
    · have HSZ := hide (show Calls Tryd.prog 10 #[VV1, .int .i64 1048576] w fun e w' => e = .returned (.int .i64 (-1)) ∧ w = w' from by
        have := szStateS_any VV1 L1 1048576 w HV.out (by omega)
        rw [if_pos (by omega)] at this
        exact this)
      clear hl
      go_enter Tryd.func9, Tryd.ntmps9
      go_wp2_with fail
      refine HSZ.out.mono ?_
      rintro e w' ⟨rfl, rfl⟩
      go_wp2
      go_returns
      exact ⟨rfl, Below.refl _ _⟩
  · go_enter Tryd.func9, Tryd.ntmps9
    go_wp2
    go_returns
    exact ⟨rfl, Below.refl _ _⟩
set_option maxHeartbeats 1600000 in
theorem walk_TouchingPairs (v0 : ByteArray) (hv0 : v0.size ≤ maxLen) (VV1 : Value) (L1 : List St) (w : World) (hV : StsIn w VV1 L1) (hg : Glob w) : Calls Tryd.prog 8 #[.string v0, VV1] w fun e w' => e = .returned (.bool true) ∧ Below w.heap.size w w' := by
  have HV := hide hV
  have HGL := hide hg
  clear hV hg
  by_cases h0 : v0.size ≤ 1048576
  · have HS0 := hide h0
    by_cases hl : L1.length ≤ 1048576
    · have HL1 := hide hl
      obtain ⟨z, hz, hz0⟩ : ∃ z : Int, z = 1048576 - (L1.length : Int) ∧ 0 ≤ z := ⟨_, rfl, by omega⟩
      have HSZ := hide (show Calls Tryd.prog 10 #[VV1, .int .i64 1048576] w fun e w' => e = .returned (.int .i64 z) ∧ w = w' from by
        have := szStateS_any VV1 L1 1048576 w HV.out (by omega)
        rw [if_neg (by omega), ← hz] at this
        exact this)
      clear hz hl
      have hzn : ¬ z < 0 := by omega
      obtain ⟨z0, hz0⟩ : ∃ z, z = tpV v0.data.toList L1 := ⟨_, rfl⟩
      have HZ0 := hide hz0
      clear hz0
      have e0 : (z0 != z0) = false := by simp
      obtain ⟨z1, hz1⟩ : ∃ z, z = adB v0.data.toList L1 := ⟨_, rfl⟩
      have HZ1 := hide hz1
      clear hz1
      have e1 : (z1 != z1) = false := by simp
      go_enter Tryd.func8, Tryd.ntmps8
      go_wp2_with fail
      refine HSZ.out.mono ?_
      rintro e w' ⟨rfl, rfl⟩
      clear hz0
      go_wp2_with fail
      refine (toStateS_any VV1 L1 _ HV.out HL1.out).mono ?_
      rintro e w1 ⟨g1, _, rfl, O1, q1⟩
      have D1 := hide (stAt_own O1 rfl)
      have V1 := hide (stsIn_to q1 HV.out rfl)
      clear O1
      go_wp2_with fail
      refine (specTP_any v0 g1 L1 L1.length rfl _ HS0.out D1.out).mono ?_
      rintro e w2 ⟨rfl, hb2⟩
      rw [← HZ0.out, ← HZ1.out]
      have q2 := below_to hb2 q1 q1.size rfl rfl rfl rfl
      have V2 := hide (stsIn_to hb2 V1.out rfl)
      clear hb2 q1
      go_wp2_with fail
      refine (toStateS_any VV1 L1 _ V2.out HL1.out).mono ?_
      rintro e w3 ⟨g3, _, rfl, O3, hb3⟩
      have q3 := below_to hb3 q2 q2.size rfl rfl rfl rfl
      have D3 := hide (stAt_own O3 rfl)
      have V3 := hide (stsIn_to hb3 V2.out rfl)
      have G3 := hide (glob_to q3 HGL.out rfl)
      have HO3 := hide O3
      clear hb3 q2 O3
      go_wp2_with fail
      refine (implTP_any v0 g3 L1 L1.length rfl _ HS0.out G3.out D3.out).mono ?_
      rintro e w4 ⟨rfl, hb4⟩
      rw [← HZ0.out, ← HZ1.out]
      have q4 := below_to hb4 q3 q3.size rfl rfl rfl rfl
      have V4 := hide (stsIn_to hb4 V3.out rfl)
      have HO4 := hide (own_to hb4 HO3.out rfl)
      clear hb4 q3 HO3
      go_wp2_with fail
      refine (toStateS_any VV1 L1 _ V4.out HL1.out).mono ?_
      rintro e w5 ⟨g5, _, rfl, O5, hb5⟩
      have q5 := below_to hb5 q4 q4.size rfl rfl rfl rfl
      have HO5 := hide (own_to hb5 HO4.out rfl)
      have HP5 := hide O5
      clear hb5 q4 HO4 O5
      go_wp2_with fail
      refine (eqStateS_any _ _ L1.length _ _ L1 _ (by have := HL1.out; omega) HO5.out HP5.out).mono ?_
      rintro e w6 ⟨rfl, hb6⟩
      have q6 := below_to hb6 q5 q5.size rfl rfl rfl rfl
      clear hb6 q5
      go_wp2
      go_returns
      exact ⟨rfl, q6⟩
    · have HSZ := hide (show Calls Tryd.prog 10 #[VV1, .int .i64 1048576] w fun e w' => e = .returned (.int .i64 (-1)) ∧ w = w' from by
        have := szStateS_any VV1 L1 1048576 w HV.out (by omega)
        rw [if_pos (by omega)] at this
        exact this)
      clear hl
      go_enter Tryd.func8, Tryd.ntmps8
      go_wp2_with fail
      refine HSZ.out.mono ?_
      rintro e w' ⟨rfl, rfl⟩
      go_wp2
      go_returns
      exact ⟨rfl, Below.refl _ _⟩
  · go_enter Tryd.func8, Tryd.ntmps8
    go_wp2
    go_returns
    exact ⟨rfl, Below.refl _ _⟩
end Go.Proofs.YtdndegonpdakkaaDoor
