/- The walks of the laws of IsDie, MirrorDie, IsRolls, TurnDie. -/
import Derived.Test.YtllhbakoedligaaGood
import Derived.Test.YtllhbakoedligaaFaces
import Derived.Test.YtllhbakoedligaaWord
namespace Go.Proofs.Ytllhbakoedligaa
open Go.RowKit

theorem specIsDie_any (d : D) (w : World) : Calls Try.prog 19 #[D.v d] w fun e w' => e = .returned (.bool (goodB d)) ∧ Below w.heap.size w w' := by
  go_enter Try.func19, Try.ntmps19
  go_wp2_with fail
  refine (diGood_any d _).mono ?_
  rintro e w1 ⟨rfl, hb1⟩
  go_wp2
  go_returns
  exact ⟨rfl, below_after (by go_grown) hb1 (by simp)⟩

set_option maxHeartbeats 400000 in
theorem walk_IsDie (d : D) (w : World) : Calls Try.prog 3 #[D.v d] w fun e w' => e = .returned (.bool true) ∧ Below w.heap.size w w' := by
  generalize hg : goodB d = g
  have HG := hide hg
  clear hg
  go_enter Try.func3, Try.ntmps3
  go_wp2_with fail
  refine (toDie_any d _).mono ?_
  rintro e w1 ⟨rfl, hb1⟩
  have g1 := (IsD.new (d := d)).below rfl hb1
  have q1 : Below w.heap.size w w1 := below_after (by go_grown) hb1 (by simp)
  clear hb1
  go_wp2_with fail
  refine (specIsDie_any d _).mono ?_
  rintro e w2 ⟨rfl, hb2⟩
  have g2 := g1.below rfl hb2
  have q2 : Below w.heap.size w w2 := below_after q1 hb2 q1.size
  clear hb2 q1 g1
  obtain ⟨l1, ⟨c0, c1, c2, c3, c4, c5⟩, -⟩ := g2.all
  rw [HG.out]
  go_wp2_with fail
  clear c0 c1 c2 c3 c4 c5
  refine (toDie_any d _).mono ?_
  rintro e w3 ⟨rfl, hb3⟩
  have q3 : Below w.heap.size w w3 := below_after q2 hb3 q2.size
  clear hb3 q2 g2
  go_wp2_with fail
  refine (isDie_any d _).mono ?_
  rintro e w4 ⟨rfl, hb4⟩
  rw [HG.out]
  have hf : (g != g) = false := by simp
  go_wp2
  go_returns
  exact ⟨rfl, below_after q3 hb4 q3.size⟩

set_option maxHeartbeats 400000 in
theorem diWord_any (s : ByteArray) (w : World) (hs : s.size ≤ maxLen) :
    Calls Try.prog 61 #[.string s] w fun e w' => e = .returned (.bool (isWord s.data.toList)) ∧ w = w' := by
  unfold maxLen at hs
  by_cases h60 : s.size ≤ 60
  · go_enter Try.func61, Try.ntmps61
    go_wp2
    go_loop [3] (fun i => ∃ k : Nat, k ≤ s.size ∧ i = .int .i64 k ∧ dirs (s.data.toList.take k) = true) (fun i => s.size - (intOf i).toNat)
    case atStart => exact ⟨0, Nat.zero_le _, rfl, rfl⟩
    case round =>
      obtain ⟨k, hk, rfl, hd⟩ := hrel
      have HD := hide hd
      clear hd
      by_cases hlt : k < s.size
      · have D1 := hide (dirS_one s k hlt)
        go_wp2_with (go_at_call 55; refine (diDir_any _ _).mono ?_; rintro e w' ⟨rfl, rfl⟩; rw [D1.out])
        · have hc : dirIx s[k].toNat < 0 := by assumption
          go_ret
          exact ⟨ret_bool (dirs_no s k hlt hc).symm, rfl⟩
        · have hc : 0 ≤ dirIx s[k].toNat := by assumption
          go_round
          case rel => exact ⟨k + 1, by omega, by go_num, dirs_snoc s k hlt HD.out hc⟩
          case measure => simp [intOf]; omega
      · go_wp2
        go_ret
        have e : k = s.size := by omega
        subst e
        exact ⟨ret_bool (dirs_yes s h60 HD.out).symm, rfl⟩
  · go_enter Try.func61, Try.ntmps61
    go_wp2
    go_ret
    have e : isWord s.data.toList = false := by
      unfold isWord
      rw [decide_eq_false (by simpa using h60)]
      rfl
    exact ⟨ret_bool e.symm, rfl⟩

theorem specIsRolls_any (s : ByteArray) (w : World) (hs : s.size ≤ maxLen) :
    Calls Try.prog 27 #[.string s] w fun e w' => e = .returned (.bool (isWord s.data.toList)) ∧ w = w' := by
  go_enter Try.func27, Try.ntmps27
  go_wp2_with fail
  refine (diWord_any s _ hs).mono ?_
  rintro e w1 ⟨rfl, rfl⟩
  go_wp2
  go_returns
  exact ⟨rfl, rfl⟩

set_option maxHeartbeats 400000 in
theorem walk_IsRolls (s : ByteArray) (hs : s.size ≤ maxLen) (w : World) : Calls Try.prog 6 #[.string s] w fun e w' => e = .returned (.bool true) ∧ Below w.heap.size w w' := by
  generalize hg : isWord s.data.toList = g
  have HG := hide hg
  clear hg
  by_cases h : s.size ≤ 1048576
  · go_enter Try.func6, Try.ntmps6
    go_wp2_with fail
    refine (specIsRolls_any s _ hs).mono ?_
    rintro e w1 ⟨rfl, rfl⟩
    rw [HG.out]
    go_wp2_with fail
    refine (isRolls_any s _ hs).mono ?_
    rintro e w1 ⟨rfl, rfl⟩
    rw [HG.out]
    have hf : (g != g) = false := by simp
    go_wp2
    go_returns
    exact ⟨rfl, Below.refl _ _⟩
  · go_enter Try.func6, Try.ntmps6
    go_wp2
    go_returns
    exact ⟨rfl, Below.refl _ _⟩
end Go.Proofs.Ytllhbakoedligaa
