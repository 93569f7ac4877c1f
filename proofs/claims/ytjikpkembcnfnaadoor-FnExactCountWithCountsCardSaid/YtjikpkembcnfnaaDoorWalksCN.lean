/- The walk of the law of CountColorings. -/
import Derived.Test.YtjikpkembcnfnaaDoorBurn
import Derived.Test.YtjikpkembcnfnaaDoorWaysL
namespace Go.Proofs.YtjikpkembcnfnaaDoor
set_option maxRecDepth 100000
set_option linter.all false
open Go.RowKit

/-- The twenty-four turns, in the order of dice. -/
def turnsL : List D := waysL unitD
theorem turns_facts : wlL ⟨1, 2, 3, 4, 5, 6⟩ = turnsL.map (mapD up) ∧ turnsL.length = 24 ∧ (∀ p ∈ turnsL, p ∈ wayz) ∧ ∀ p ∈ turnsL.map mirrorD, p ∈ wayz := by decide +kernel
theorem turns_good : goodB ⟨1, 2, 3, 4, 5, 6⟩ = true ∧ (bfs unitD).length = 24 := by decide +kernel
set_option maxHeartbeats 800000 in
theorem allTurns_any (w : World) : Calls Tryd.prog 43 #[] w fun e w' => ∃ g cap, e = .returned (.slice (some ⟨g, 0, none⟩) 24 cap) ∧ w'.ownsRow w.heap.size 30 6 (.slice (some ⟨g, 0, none⟩) 24 cap) 24 (cellsW (turnsL.map (mapD up))) ∧ Below w.heap.size w w' := by
  have HW := hide (implWL_any ⟨1, 2, 3, 4, 5, 6⟩)
  rw [turns_facts.1, List.length_map, turns_facts.2.1, turns_good.1] at HW
  generalize turnsL.map (mapD up) = Q at HW ⊢
  go_enter Tryd.func43, Tryd.ntmps43
  go_wp2_with fail
  refine (markedDie_any _).mono ?_
  rintro e w1 ⟨rfl, q1⟩
  go_wp2_with fail
  refine (HW.out _).mono ?_
  rintro e w2 ⟨v, rfl, O2, hb2⟩
  have q2 := below_to hb2 q1 q1.size rfl rfl rfl rfl
  obtain ⟨g, cap, rfl, -, -⟩ := own_form O2 (by omega)
  have HO := hide (own_mono O2 q1.size)
  clear hb2 q1 O2
  go_wp2
  go_returns
  exact ⟨g, cap, rfl, HO.out, q2⟩
/-- What CountColorings answers. -/
def cnV (k : Int) : Int := if decide (1 ≤ k ∧ k ≤ 9) = true then sumK k.toNat turnsL / 24 else 0
set_option maxHeartbeats 800000 in
theorem implCN_no (k : Int) (w : World) (h : decide (1 ≤ k ∧ k ≤ 9) = false) : Calls Tryd.prog 15 #[.int .i64 k] w fun e w' => e = .returned (.tuple #[.int .i64 0, .bool false]) ∧ Below w.heap.size w w' := by
  have HG := hide h
  clear h
  go_enter Tryd.func15, Tryd.ntmps15
  go_wp2_with fail
  refine (isColors_any _ _).mono ?_
  rintro e w1 ⟨rfl, rfl⟩
  rw [HG.out]
  go_wp2
  go_returns
  exact ⟨rfl, Below.refl _ _⟩
set_option maxHeartbeats 1600000 in
theorem implCN_yes (k : Nat) (w : World) (h : decide (1 ≤ (k : Int) ∧ (k : Int) ≤ 9) = true) : Calls Tryd.prog 15 #[.int .i64 (k : Int)] w fun e w' => e = .returned (.tuple #[.int .i64 (sumK k turnsL / 24), .bool true]) ∧ Below w.heap.size w w' := by
  have hk9 : k ≤ 9 := by simp at h; omega
  have HG := hide h
  have HU := hide (fun (g cap b : Nat) (wx : World) (h1 : DAt wx g 0 (turnsL.map (mapD up))) (h2 : IsK wx b (k : Int)) => countUpTo_any k hk9 turnsL turns_facts.2.2.1 g cap 24 b turns_facts.2.1.symm (by omega) (by omega) wx h1 h2)
  obtain ⟨Q, hQ⟩ : ∃ Q, Q = sumK k turnsL / ((24 : Nat) : Int) := ⟨_, rfl⟩
  rw [← hQ] at HU
  have HQ := hide (show Q = sumK k turnsL / 24 from hQ)
  rw [← HQ.out]
  have hl : (turnsL.map (mapD up)).length = 24 := by rw [List.length_map, turns_facts.2.1]
  have HT := hide (allTurns_any w)
  generalize turnsL.map (mapD up) = L at HU HT hl
  have HLN := hide hl
  clear h hQ hl
  go_enter Tryd.func15, Tryd.ntmps15
  go_wp2_with fail
  refine (isColors_any _ _).mono ?_
  rintro e w1 ⟨rfl, rfl⟩
  rw [HG.out]
  go_wp2_with fail
  refine HT.out.mono ?_
  rintro e w2 ⟨g, cap, rfl, O2, q2⟩
  have HD := hide (dAt_own O2 HLN.out.symm)
  clear O2 HT
  go_wp2_with fail
  refine (colorsOnCycles_any _ _).mono ?_
  rintro e w3 ⟨b, rfl, hb, hb3⟩
  have q3 := below_to hb3 q2 q2.size rfl rfl rfl rfl
  have HD3 := hide (dAt_to hb3 HD.out rfl)
  clear hb3 q2 HD
  go_wp2_with fail
  refine (HU.out g cap b _ HD3.out hb).mono ?_
  rintro e w4 ⟨rfl, hb4⟩
  have q4 := below_to hb4 q3 q3.size rfl rfl rfl rfl
  clear hb4 q3 hb
  go_wp2
  go_returns
  exact ⟨rfl, q4⟩
set_option maxHeartbeats 800000 in
theorem specCN_no (k : Int) (w : World) (h : decide (1 ≤ k ∧ k ≤ 9) = false) : Calls Tryd.prog 14 #[.int .i64 k] w fun e w' => e = .returned (.tuple #[.int .i64 0, .bool false]) ∧ Below w.heap.size w w' := by
  have HG := hide h
  clear h
  go_enter Tryd.func14, Tryd.ntmps14
  go_wp2_with fail
  refine (clColors_any _ _).mono ?_
  rintro e w1 ⟨rfl, rfl⟩
  rw [HG.out]
  go_wp2
  go_returns
  exact ⟨rfl, Below.refl _ _⟩
set_option maxHeartbeats 1600000 in
theorem specCN_yes (k : Nat) (w : World) (h : decide (1 ≤ (k : Int) ∧ (k : Int) ≤ 9) = true) : Calls Tryd.prog 14 #[.int .i64 (k : Int)] w fun e w' => e = .returned (.tuple #[.int .i64 (sumK k turnsL / 24), .bool true]) ∧ Below w.heap.size w w' := by
  have hk : k ≤ 9 := by simp at h; omega
  have HG := hide h
  have HP := hide turns_facts.2.2.1
  have hbd := sumK_bd hk turnsL turns_facts.2.2.1
  have hN := turns_facts.2.1
  have HWS := hide (fun wx => diWays_any unitD wx)
  rw [turns_good.2] at HWS
  have HT : waysL unitD = turnsL := rfl
  rw [HT] at HWS
  generalize turnsL = P at HP HWS hbd hN ⊢
  rw [hN] at hbd
  have HN := hide hN
  clear h hN HT
  obtain ⟨S, hS⟩ : ∃ S, S = sumK k P := ⟨_, rfl⟩
  rw [← hS] at hbd ⊢
  have HSS := hide hS
  clear hS
  go_enter Tryd.func14, Tryd.ntmps14
  go_wp2_with fail
  refine (clColors_any _ _).mono ?_
  rintro e w1 ⟨rfl, rfl⟩
  rw [HG.out]
  go_wp2_with fail
  refine (diUnit_any _).mono ?_
  rintro e w1 ⟨rfl, q1⟩
  go_wp2_with fail
  refine (HWS.out _).mono ?_
  rintro e w2 ⟨v, rfl, O2, hb2⟩
  have q2 := below_to hb2 q1 q1.size rfl rfl rfl rfl
  obtain ⟨g, cap, rfl, -, -⟩ := own_form O2 (by omega)
  have HD := hide (dAt_own O2 HN.out.symm)
  clear hb2 q1 O2
  go_wp2
  go_loopw [13, 4] (fun i s wr => ∃ j : Nat, j ≤ 24 ∧ i = .int .i64 (j : Int) ∧ s = .int .i64 (sumK k (P.take j)) ∧ Below w2.heap.size w2 wr) (fun i _ _ => 24 - (intOf i).toNat)
  case atStart => exact ⟨0, Nat.zero_le _, rfl, rfl, Below.refl _ _⟩
  case round =>
    obtain ⟨j, hj, rfl, rfl, q⟩ := hrel
    by_cases hlt : j < 24
    · have hji : (j : Int) < 24 := by omega
      have hx : P[j]? = some (P[j]'(by have := HN.out; omega)) := List.getElem?_eq_getElem (by have := HN.out; omega)
      generalize P[j]'(by have := HN.out; omega) = u at hx
      have hp := HP.out u (List.mem_of_getElem? hx)
      have HC := hide (clCycles_any u hp)
      have h6 := cyc6 hp
      have hpb := pw_facts hk h6
      have hs := sumK_snoc (k := k) hx
      have hs1 := sumK_bd hk (P.take j) (fun q hq => HP.out q (List.mem_of_mem_take hq))
      have hl : ((P.take j).length : Int) ≤ 24 := by rw [List.length_take]; omega
      have hDx := (dAt_to q HD.out rfl).cells0 hx
      have HK := hide (fun (wx : World) => clPower_any k (cycL u).length wx hk h6)
      generalize hL : cycL u = L at HC hs hpb HK h6
      have HL := hide hL
      generalize hln : L.length = ln at HC hs hpb HK h6
      have HLN := hide hln
      generalize hpw : pw k ln = pv at hs hpb HK
      have HPW := hide hpw
      generalize hsj : sumK k (P.take j) = sj at hs hs1 ⊢
      have hsb : 0 ≤ sj ∧ sj ≤ 531441 * 24 := by omega
      have HS := hide hs
      clear hx hp hL hln hpw hsj hs hs1 hl
      obtain ⟨c0, c1, c2, c3, c4, c5⟩ := hDx
      go_wp2_with fail
      refine (HC.out _).mono ?_
      rintro e w3 ⟨v, rfl, O1, hb1⟩
      have q3 := below_to hb1 (q.alloc q.size (.cells #[.int .i64 u.t, .int .i64 u.n, .int .i64 u.e, .int .i64 u.s, .int .i64 u.w, .int .i64 u.b] 30)) (by have := q.size; simp; omega) rfl rfl rfl rfl
      obtain ⟨pa, pc, rfl⟩ : ∃ pa pc, v = .slice pa ln pc := by
        rcases own_forms O1 with ⟨rfl, h0⟩ | ⟨g, cap, rfl, _, _⟩
        · exact ⟨none, 0, by rw [h0]⟩
        · exact ⟨_, cap, rfl⟩
      clear hb1 O1 q c0 c1 c2 c3 c4 c5
      go_wp2_with fail
      refine (HK.out _).mono ?_
      rintro e w4 ⟨rfl, rfl⟩
      go_wp2
      go_roundw
      case rel => exact ⟨j + 1, by omega, by go_num, by rw [HS.out], q3⟩
      case measure => simp [intOf] <;> omega
    · obtain rfl : j = 24 := by omega
      have he : sumK k (P.take 24) = S := by rw [HSS.out, List.take_of_length_le (by have := HN.out; omega)]
      rw [he]
      clear he
      go_wp2
      go_returns
      exact ⟨rfl, q2.trans (q.mono q2.size)⟩
theorem specCN_any (k : Int) (w : World) : Calls Tryd.prog 14 #[.int .i64 k] w fun e w' => e = .returned (.tuple #[.int .i64 (cnV k), .bool (decide (1 ≤ k ∧ k ≤ 9))]) ∧ Below w.heap.size w w' := by
  unfold cnV
  cases h : decide (1 ≤ k ∧ k ≤ 9)
  · exact specCN_no k w h
  · obtain ⟨n, rfl⟩ : ∃ n : Nat, k = (n : Int) := ⟨k.toNat, by simp at h; omega⟩
    exact specCN_yes n w h
theorem implCN_any (k : Int) (w : World) : Calls Tryd.prog 15 #[.int .i64 k] w fun e w' => e = .returned (.tuple #[.int .i64 (cnV k), .bool (decide (1 ≤ k ∧ k ≤ 9))]) ∧ Below w.heap.size w w' := by
  unfold cnV
  cases h : decide (1 ≤ k ∧ k ≤ 9)
  · exact implCN_no k w h
  · obtain ⟨n, rfl⟩ : ∃ n : Nat, k = (n : Int) := ⟨k.toNat, by simp at h; omega⟩
    exact implCN_yes n w h
set_option maxHeartbeats 800000 in
theorem walk_CountColorings (a0 : Int) (ha0 : (Lit.int .i64 a0).wf = true) (w : World) (_ : Glob w) : Calls Tryd.prog 4 #[.int .i64 a0] w fun e w' => e = .returned (.bool true) ∧ Below w.heap.size w w' := by
  obtain ⟨z0, hz0⟩ : ∃ z, z = cnV a0 := ⟨_, rfl⟩
  have HZ0 := hide hz0
  clear hz0
  have e0 : (z0 != z0) = false := by simp
  obtain ⟨z1, hz1⟩ : ∃ z, z = decide (1 ≤ a0 ∧ a0 ≤ 9) := ⟨_, rfl⟩
  have HZ1 := hide hz1
  clear hz1
  have e1 : (z1 != z1) = false := by simp
  go_enter Tryd.func4, Tryd.ntmps4
  go_wp2_with fail
  refine (specCN_any a0 _).mono ?_
  rintro e w1 ⟨rfl, q1⟩
  rw [← HZ0.out, ← HZ1.out]
  go_wp2_with fail
  refine (implCN_any a0 _).mono ?_
  rintro e w2 ⟨rfl, hb2⟩
  have q2 := below_to hb2 q1 q1.size rfl rfl rfl rfl
  rw [← HZ0.out, ← HZ1.out]
  clear hb2 q1
  go_wp2
  go_returns
  exact ⟨rfl, q2⟩
end Go.Proofs.YtjikpkembcnfnaaDoor
