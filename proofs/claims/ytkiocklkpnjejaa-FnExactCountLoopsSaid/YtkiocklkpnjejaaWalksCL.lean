/- The walk of the law of CountLoops. -/
import Derived.Test.YtkiocklkpnjejaaAlLen
namespace Go.Proofs.Ytkiocklkpnjejaa
set_option maxRecDepth 100000
set_option linter.all false
open Go.RowKit

def clN (L : List D) : Int := ((alL L).length : Int)
set_option maxHeartbeats 800000 in
theorem implCL_any (g n : Nat) (L : List D) (w : World) (hn : n = L.length) (h4 : n ≤ 1048576) (hD : DAt w g 0 L) : Calls Try.prog 40 #[.slice (some ⟨g, 0, none⟩) n n] w fun e w' => e = .returned (.tuple #[.int .i64 (clN L), .bool (towB L)]) ∧ Below w.heap.size w w' := by
  have HC := hide (implAL_any g n L w hn h4 hD)
  have hlen := (alL_len L).1
  unfold clN
  unfold AlPost at HC
  obtain ⟨X, hX⟩ : ∃ X, X = alL L := ⟨_, rfl⟩
  obtain ⟨tb, htb⟩ : ∃ tb, tb = towB L := ⟨_, rfl⟩
  rw [← hX] at HC hlen ⊢
  rw [← htb] at HC ⊢
  clear hD hn hX htb
  have hli : (X.length : Int) ≤ 100000 := by omega
  go_enter Try.func40, Try.ntmps40
  go_wp2_with fail
  refine HC.out.mono ?_
  rintro e w1 ⟨v, rfl, S, q1⟩
  rcases ss_form S with ⟨rfl, h0⟩ | ⟨gx, cap, rfl, -⟩
  · clear S
    go_wp2
    go_returns
    exact ⟨by rw [h0]; rfl, q1⟩
  · clear S
    go_wp2
    go_returns
    exact ⟨rfl, q1⟩
set_option maxHeartbeats 800000 in
theorem specCL_no (g n : Nat) (L : List D) (w : World) (hn : n = L.length) (h4 : n ≤ 1048576) (hD : DAt w g 0 L) (h : towB L = false) : Calls Try.prog 39 #[.slice (some ⟨g, 0, none⟩) n n] w fun e w' => e = .returned (.tuple #[.int .i64 0, .bool false]) ∧ Below w.heap.size w w' := by
  have HC := hide (clDice_any g n n L w hn h4 hD)
  rw [h] at HC
  clear hD hn h
  go_enter Try.func39, Try.ntmps39
  go_wp2_with fail
  refine HC.out.mono ?_
  rintro e w1 ⟨rfl, q1⟩
  go_wp2
  go_returns
  exact ⟨rfl, q1⟩
set_option maxHeartbeats 800000 in
theorem specCL_yes (g n : Nat) (L : List D) (w : World) (hn : n = L.length) (h4 : n ≤ 1048576) (hD : DAt w g 0 L) (h : towB L = true) : Calls Try.prog 39 #[.slice (some ⟨g, 0, none⟩) n n] w fun e w' => e = .returned (.tuple #[.int .i64 ((loopsK L n (3 ^ n)).length : Int), .bool true]) ∧ Below w.heap.size w w' := by
  have HC := hide (clDice_any g n n L w hn h4 hD)
  rw [h] at HC
  have hl := towB_len h
  have HD := hide hD
  have HLO := hide (fun (W : World) (hW : DAt W g 0 L) => clLoops_any g n L W hn (by omega) (by omega) hW)
  have hlen : (loopsK L n (3 ^ n)).length ≤ 100000 := by
    have := (alL_len L).1
    unfold alL at this
    rw [h, if_pos rfl, ← hn] at this
    exact this
  obtain ⟨X, hX⟩ : ∃ X, X = loopsK L n (3 ^ n) := ⟨_, rfl⟩
  rw [← hX] at HLO hlen ⊢
  clear hD hn h hl hX
  have hli : (X.length : Int) ≤ 100000 := by omega
  go_enter Try.func39, Try.ntmps39
  go_wp2_with fail
  refine HC.out.mono ?_
  rintro e w1 ⟨rfl, q1⟩
  go_wp2_with fail
  refine (HLO.out _ (dAt_to q1 HD.out rfl)).mono ?_
  rintro e w2 ⟨v, rfl, S2, hb2⟩
  have q2 := below_to hb2 q1 q1.size rfl rfl rfl rfl
  rcases ss_form S2 with ⟨rfl, h0⟩ | ⟨gx, cap, rfl, -⟩
  · clear S2 hb2 q1
    go_wp2
    go_returns
    exact ⟨by rw [h0]; rfl, q2⟩
  · clear S2 hb2 q1
    go_wp2
    go_returns
    exact ⟨rfl, q2⟩
theorem specCL_any (g n : Nat) (L : List D) (w : World) (hn : n = L.length) (h4 : n ≤ 1048576) (hD : DAt w g 0 L) : Calls Try.prog 39 #[.slice (some ⟨g, 0, none⟩) n n] w fun e w' => e = .returned (.tuple #[.int .i64 (clN L), .bool (towB L)]) ∧ Below w.heap.size w w' := by
  unfold clN alL
  cases h1 : towB L
  · rw [if_neg (by decide)]
    exact specCL_no g n L w hn h4 hD h1
  · rw [if_pos rfl, ← hn]
    exact specCL_yes g n L w hn h4 hD h1
set_option maxHeartbeats 1600000 in
theorem walk_CountLoops (VV0 : Value) (L0 : List D) (w : World) (hV : DsIn w VV0 L0) : Calls Try.prog 9 #[VV0] w fun e w' => e = .returned (.bool true) ∧ Below w.heap.size w w' := by
  have HV0 := hide hV
  clear hV
  by_cases hl : L0.length ≤ 1048576
  · have HL1 := hide hl
    obtain ⟨z, hz, hz0⟩ : ∃ z : Int, z = 1048576 - (L0.length : Int) ∧ 0 ≤ z := ⟨_, rfl, by omega⟩
    have HSZ := hide (show Calls Try.prog 23 #[VV0, .int .i64 1048576] w fun e w' => e = .returned (.int .i64 z) ∧ w = w' from by
      have := szDieS_any VV0 L0 1048576 w HV0.out (by omega)
      rw [if_neg (by omega), ← hz] at this
      exact this)
    have hzn : ¬ z < 0 := by omega
    clear hz hl
    obtain ⟨nn, hnn⟩ : ∃ x : Int, x = 1 + ((L0.length * 6 : Nat) : Int) := ⟨_, rfl⟩
    have hnn0 : ¬ nn < 0 := by omega
    have HNN := hide hnn
    clear hnn
    obtain ⟨z0, hz0⟩ : ∃ z, z = clN L0 := ⟨_, rfl⟩
    have HZ0 := hide hz0
    clear hz0
    have e0 : (z0 != z0) = false := by simp
    obtain ⟨z1, hz1⟩ : ∃ z, z = towB L0 := ⟨_, rfl⟩
    have HZ1 := hide hz1
    clear hz1
    have e1 : (z1 != z1) = false := by simp
    go_enter Try.func9, Try.ntmps9
    go_wp2_with fail
    refine HSZ.out.mono ?_
    rintro e w' ⟨rfl, rfl⟩
    clear hz0
    go_wp2_with fail
    refine (toDieS_any VV0 L0 _ HV0.out HL1.out).mono ?_
    rintro e w1 ⟨g1, _, rfl, O1, q1⟩
    have HV1 := hide (dsIn_to q1 HV0.out rfl)
    clear HV0
    have D1 := hide (dAt_own O1 rfl)
    have HXX := hide O1
    clear O1
    go_wp2_with fail
    refine (specCL_any g1 _ L0 _ rfl HL1.out D1.out).mono ?_
    rintro e w2 ⟨rfl, hb2⟩
    have q2 := below_to hb2 q1 q1.size rfl rfl rfl rfl
    have HV2 := hide (dsIn_to hb2 HV1.out rfl)
    have zs2 := hb2.size
    rw [← HZ0.out, ← HZ1.out]
    clear hb2 HV1 q1 
    go_wp2_with fail
    refine (toDieS_any VV0 L0 _ HV2.out HL1.out).mono ?_
    rintro e w3 ⟨g3, _, rfl, O3, hb3⟩
    have q3 := below_to hb3 q2 q2.size rfl rfl rfl rfl
    have HV3 := hide (dsIn_to hb3 HV2.out rfl)
    have zs3 := hb3.size
    have D3 := hide (dAt_own O3 rfl)
    try clear HXX
    have HXX := hide O3
    clear hb3 HV2 q2 O3
    have HX3 := hide (HXX.out)
    go_wp2_with fail
    refine (implCL_any g3 _ L0 _ rfl HL1.out D3.out).mono ?_
    rintro e w4 ⟨rfl, hb4⟩
    have q4 := below_to hb4 q3 q3.size rfl rfl rfl rfl
    have HV4 := hide (dsIn_to hb4 HV3.out rfl)
    have HX4 := hide (own_to hb4 HX3.out rfl)
    have zs4 := hb4.size
    rw [← HZ0.out, ← HZ1.out]
    clear hb4 HV3 HX3 q3 
    go_wp2_with fail
    refine (toDieS_any VV0 L0 _ HV4.out HL1.out).mono ?_
    rintro e w5 ⟨g5, _, rfl, O5, hb5⟩
    have q5 := below_to hb5 q4 q4.size rfl rfl rfl rfl
    have HV5 := hide (dsIn_to hb5 HV4.out rfl)
    have HX5 := hide (own_to hb5 HX4.out rfl)
    have zs5 := hb5.size
    try clear HXX
    have HP5 := hide O5
    clear hb5 HV4 HX4 q4 O5
    go_wp2_with fail
    refine (eqDieS_any _ _ L0.length _ _ L0 _ (by have := HL1.out; omega) HX5.out HP5.out).mono ?_
    rintro e w6 ⟨rfl, hb6⟩
    have q6 := below_to hb6 q5 q5.size rfl rfl rfl rfl
    have HP6 := hide (own_to hb6 HP5.out rfl)
    have HV6 := hide (dsIn_to hb6 HV5.out rfl)
    have HX6 := hide (own_to hb6 HX5.out rfl)
    have zs6 := hb6.size
    clear hb6 HP5 HV5 HX5 q5 
    clear HP6
    go_wp2
    go_returns
    exact ⟨rfl, q6⟩
  · have HSZ := hide (show Calls Try.prog 23 #[VV0, .int .i64 1048576] w fun e w' => e = .returned (.int .i64 (-1)) ∧ w = w' from by
      have := szDieS_any VV0 L0 1048576 w HV0.out (by omega)
      rw [if_pos (by omega)] at this
      exact this)
    clear hl
    go_enter Try.func9, Try.ntmps9
    go_wp2_with fail
    refine HSZ.out.mono ?_
    rintro e w' ⟨rfl, rfl⟩
    go_wp2
    go_returns
    exact ⟨rfl, Below.refl _ _⟩
end Go.Proofs.Ytkiocklkpnjejaa
