/- The walks of the laws of FaceCycles, CountKept, ColorsOf. -/
import Derived.Test.YtkiocklkpnjejaaCycS
import Derived.Test.YtkiocklkpnjejaaRun
import Derived.Test.YtkiocklkpnjejaaWalksA
import Derived.Test.YtkiocklkpnjejaaDieS
namespace Go.Proofs.Ytkiocklkpnjejaa
set_option maxRecDepth 100000
set_option linter.all false
open Go.RowKit

/-- What FaceCycles answers. -/
def fcL (l : List UInt8) : List Int := if isWord l = true then cycL (runC unitD l) else []
theorem cycL_le (l : List UInt8) : (cycL (runC unitD l)).length ≤ 6 := (cyc_facts _ (run_ways l)).2.2.2.1
theorem fcL_len (l : List UInt8) : (fcL l).length ≤ 100000 := by
  unfold fcL
  split
  · have := cycL_le l
    omega
  · simp
def FcPost (l : List UInt8) (w : World) (e : Ending) (w' : World) : Prop := ∃ v, e = .returned (.tuple #[v, .bool (isWord l)]) ∧ w'.ownsRow w.heap.size 3 1 v (fcL l).length (ints (fcL l)) ∧ Below w.heap.size w w'
theorem specFC_any (s : ByteArray) (w : World) (hs : s.size ≤ maxLen) : Calls Try.prog 21 #[.string s] w (FcPost s.data.toList w) := by
  unfold FcPost
  have HF := hide (show fcL s.data.toList = if isWord s.data.toList = true then cycL (runC unitD s.data.toList) else [] from rfl)
  have HK := hide (fun h => (runC_K (l := s.data.toList) h unitD))
  have HW := hide (run_ways s.data.toList)
  generalize hg : isWord s.data.toList = g at HF HK ⊢
  have HG := hide hg
  clear hg
  cases g
  · rw [if_neg (by decide)] at HF
    generalize fcL s.data.toList = F at HF ⊢
    obtain rfl := HF.out
    go_enter Try.func21, Try.ntmps21
    go_wp2_with fail
    refine (diWord_any s _ hs).mono ?_
    rintro e w1 ⟨rfl, rfl⟩
    rw [HG.out]
    go_wp2
    go_returns
    exact ⟨_, rfl, World.ownsRow_nil _ _ _ _, Below.refl _ _⟩
  · rw [if_pos rfl] at HF
    have HK2 := hide (HK.out rfl)
    clear HK
    generalize fcL s.data.toList = F at HF ⊢
    obtain rfl := HF.out
    go_enter Try.func21, Try.ntmps21
    go_wp2_with fail
    refine (diWord_any s _ hs).mono ?_
    rintro e w1 ⟨rfl, rfl⟩
    rw [HG.out]
    go_wp2_with fail
    refine (diUnit_any _).mono ?_
    rintro e w1 ⟨rfl, q1⟩
    go_wp2_with fail
    refine (diRun_any unitD s _ hs).mono ?_
    rintro e w2 ⟨rfl, hb2⟩
    have q2 := below_to hb2 q1 q1.size rfl rfl rfl rfl
    clear hb2 q1
    rw [← HK2.out]
    go_wp2_with fail
    refine (clCycles_any _ HW.out _).mono ?_
    rintro e w3 ⟨v, rfl, O3, hb3⟩
    have q3 := below_to hb3 q2 q2.size rfl rfl rfl rfl
    have HO := hide (own_mono O3 q2.size)
    clear hb3 q2 O3
    go_wp2
    go_returns
    exact ⟨_, rfl, HO.out, q3⟩
theorem implFC_any (s : ByteArray) (w : World) (hs : s.size ≤ maxLen) : Calls Try.prog 22 #[.string s] w (FcPost s.data.toList w) := by
  unfold FcPost
  have HF := hide (show fcL s.data.toList = if isWord s.data.toList = true then cycL (runC unitD s.data.toList) else [] from rfl)
  have HW := hide (run_ways s.data.toList)
  have HM := hide (runC_mark s.data.toList)
  generalize hg : isWord s.data.toList = g at HF ⊢
  have HG := hide hg
  clear hg
  cases g
  · rw [if_neg (by decide)] at HF
    generalize fcL s.data.toList = F at HF ⊢
    obtain rfl := HF.out
    go_enter Try.func22, Try.ntmps22
    go_wp2_with fail
    refine (isRolls_any s _ hs).mono ?_
    rintro e w1 ⟨rfl, rfl⟩
    rw [HG.out]
    go_wp2
    go_returns
    exact ⟨_, rfl, World.ownsRow_nil _ _ _ _, Below.refl _ _⟩
  · rw [if_pos rfl] at HF
    generalize fcL s.data.toList = F at HF ⊢
    obtain rfl := HF.out
    go_enter Try.func22, Try.ntmps22
    go_wp2_with fail
    refine (isRolls_any s _ hs).mono ?_
    rintro e w1 ⟨rfl, rfl⟩
    rw [HG.out]
    go_wp2_with fail
    refine (markedDie_any _).mono ?_
    rintro e w1 ⟨rfl, q1⟩
    go_wp2_with fail
    refine (rolledAlong_any markD s _ hs).mono ?_
    rintro e w2 ⟨rfl, hb2⟩
    have q2 := below_to hb2 q1 q1.size rfl rfl rfl rfl
    clear hb2 q1
    rw [HM.out]
    go_wp2_with fail
    refine (cyclesOf_any _ HW.out _).mono ?_
    rintro e w3 ⟨v, rfl, O3, hb3⟩
    have q3 := below_to hb3 q2 q2.size rfl rfl rfl rfl
    have HO := hide (own_mono O3 q2.size)
    clear hb3 q2 O3
    go_wp2
    go_returns
    exact ⟨_, rfl, HO.out, q3⟩
set_option maxHeartbeats 3200000 in
theorem walk_FaceCycles (v0 : ByteArray) (hv0 : v0.size ≤ maxLen) (w : World) : Calls Try.prog 5 #[.string v0] w fun e w' => e = .returned (.bool true) ∧ Below w.heap.size w w' := by
  by_cases h0 : v0.size ≤ 1048576
  · have HS0 := hide h0
    have hlen := hide (show (fcL v0.data.toList).length ≤ 100000 from fcL_len _)
    obtain ⟨Z, hZ⟩ : ∃ Z, Z = fcL v0.data.toList := ⟨_, rfl⟩
    have HZ := hide hZ
    clear hZ
    rw [← HZ.out] at hlen
    obtain ⟨ok, hok⟩ : ∃ ok, ok = isWord v0.data.toList := ⟨_, rfl⟩
    have HOK := hide hok
    clear hok
    have e1 : (ok != ok) = false := by simp
    obtain ⟨N, hN⟩ : ∃ N : Int, N = ((Z.length : Nat) : Int) := ⟨_, rfl⟩
    have n1 : ¬ (1 + N < 0) := by omega
    have n2 : ((1 + N) != (1 + N)) = false := by simp
    have HN := hide hN
    clear hN
    go_enter Try.func5, Try.ntmps5
    go_wp2_with fail
    refine (specFC_any v0 _ hv0).mono ?_
    rintro e w1 ⟨r0, rfl, O1, hb1⟩
    have q1 : Below w.heap.size w w1 := below_after (by go_grown) hb1 (by simp)
    rw [← HZ.out] at O1
    rw [← HOK.out]
    have HO1 := hide (O1)
    clear hb1  O1
    have hltO := hide (fun g hg => (HO1.out.lt g hg).2)
    have hsq : w.heap.size ≤ _ := q1.size
    go_wp2_with fail
    refine (implFC_any v0 _ hv0).mono ?_
    rintro e w2 ⟨r1, rfl, O2, hb2⟩
    have q2 := below_to hb2 q1 q1.size rfl rfl rfl rfl
    have HO2 := hide (own_to hb2 HO1.out rfl)
    rw [← HZ.out] at O2
    rw [← HOK.out]
    have HG2 := hide (O2)
    clear hb2 HO1 q1 O2
    go_wp2_with fail
    refine (eqIntS_any r1 r0 Z.length _ _ Z _ (by have := hlen.out; omega) HG2.out HO2.out).mono ?_
    rintro e w3 ⟨rfl, hb3⟩
    have q3 := below_to hb3 q2 q2.size rfl rfl rfl rfl
    have HG3 := hide (own_to hb3 HG2.out rfl)
    have HO3 := hide (own_to hb3 HO2.out rfl)
    clear hb3 HG2 HO2 q2 
    go_wp2_with fail
    refine (markIntS_any r1 Z.length _ Z 1 _ (by have := hlen.out; omega) (by omega) HG3.out).mono ?_
    rintro e w4 ⟨rfl, G4, hb4⟩
    rw [← HN.out]
    have q4 := q3.trans (hb4.mono hsq)
    have HO4 := hide (own_below hb4 HO3.out hltO.out)
    have HG4 := hide G4
    clear hb4 G4 q3 HO3 HG3
    go_wp2_with fail
    refine (heldIntS_any r1 Z.length _ 1 _ (by have := hlen.out; omega) (by omega) HG4.out).mono ?_
    rintro e w' ⟨rfl, rfl⟩
    rw [← HN.out]
    go_wp2_with fail
    refine (implFC_any v0 _ hv0).mono ?_
    rintro e w5 ⟨r2, rfl, O5, hb5⟩
    have q5 := below_to hb5 q4 q4.size rfl rfl rfl rfl
    have HG5 := hide (own_to hb5 HG4.out rfl)
    have HO5 := hide (own_to hb5 HO4.out rfl)
    rw [← HZ.out] at O5
    rw [← HOK.out]
    have HH5 := hide (O5)
    clear hb5 HG4 HO4 q4 O5
    go_wp2_with fail
    refine (eqIntS_any r2 r0 Z.length _ _ Z _ (by have := hlen.out; omega) HH5.out HO5.out).mono ?_
    rintro e w6 ⟨rfl, hb6⟩
    have q6 := below_to hb6 q5 q5.size rfl rfl rfl rfl
    have HG6 := hide (own_to hb6 HG5.out rfl)
    have HH6 := hide (own_to hb6 HH5.out rfl)
    have HO6 := hide (own_to hb6 HO5.out rfl)
    clear hb6 HG5 HH5 HO5 q5 
    go_wp2_with fail
    refine (heldIntS_any r1 Z.length _ 1 _ (by have := hlen.out; omega) (by omega) HG6.out).mono ?_
    rintro e w' ⟨rfl, rfl⟩
    rw [← HN.out]
    go_wp2
    go_returns
    exact ⟨rfl, q6⟩
  · go_enter Try.func5, Try.ntmps5
    go_wp2
    go_returns
    exact ⟨rfl, Below.refl _ _⟩
end Go.Proofs.Ytkiocklkpnjejaa
