/- The walk of the law of RollDie. -/
import Derived.Test.YtphcaikggfmpaaaGood
import Derived.Test.YtphcaikggfmpaaaRun
import Derived.Test.YtphcaikggfmpaaaWalksA
namespace Go.Proofs.Ytphcaikggfmpaaa
set_option maxRecDepth 100000
set_option linter.all false
open Go.RowKit

theorem list_one {l : List UInt8} (h : l.length = 1) : ∃ c, l = [c] := by
  match l, h with
  | [c], _ => exact ⟨c, rfl⟩
theorem dirS_sing (c : UInt8) : dirS [c] = dirIx c.toNat := by
  have h1 : ∀ (c a : UInt8), ([c] = [a]) = ((c.toNat : Int) = (a.toNat : Int)) := by
    intro c a
    simp [← UInt8.toNat_inj]
    omega
  unfold dirS dirIx
  simp only [h1]
  rfl
theorem dirS_len {l : List UInt8} (h : l.length ≠ 1) : dirS l = -1 := by
  have h1 : ∀ c : UInt8, l ≠ [c] := by
    intro c e
    subst e
    simp at h
  unfold dirS
  simp [h1]
theorem isWord_one {l : List UInt8} (h : l.length = 1) : isWord l = decide (0 ≤ dirS l) := by
  obtain ⟨c, rfl⟩ := list_one h
  rw [dirS_sing]
  simp [isWord]

set_option maxHeartbeats 400000 in
theorem isDirection_any (s : ByteArray) (w : World) (hs : s.size ≤ maxLen) :
    Calls Try.prog 33 #[.string s] w fun e w' => e = .returned (.bool (decide (0 ≤ dirS s.data.toList))) ∧ w = w' := by
  by_cases h1 : s.size = 1
  · have e1 : ((s.size : Int) == 1) = true := by simp [h1]
    have e2 := hide (isWord_one (l := s.data.toList) (by simpa using h1))
    have hs' := hs
    clear h1 hs
    go_enter Try.func33, Try.ntmps33
    go_wp2_with fail
    refine (isRolls_any s _ hs').mono ?_
    rintro e w1 ⟨rfl, rfl⟩
    rw [e2.out]
    go_wp2
    go_returns
    exact ⟨rfl, rfl⟩
  · have e1 : ((s.size : Int) == 1) = false := by simp; omega
    have e2 : decide (0 ≤ dirS s.data.toList) = false := by
      rw [dirS_len (by simpa using h1)]
      rfl
    rw [e2]
    clear h1 e2
    go_enter Try.func33, Try.ntmps33
    go_wp2
    go_returns
    exact ⟨rfl, rfl⟩

set_option maxHeartbeats 400000 in
theorem specRollDie_no1 (d : D) (s : ByteArray) (w : World) (h : goodB d = false) : Calls Try.prog 11 #[D.v d, .string s] w fun e w' => e = .returned (.tuple #[D.v zeroD, .bool false]) ∧ Below w.heap.size w w' := by
  have H := hide h
  clear h
  go_enter Try.func11, Try.ntmps11
  go_wp2_with fail
  refine (diGood_any d _).mono ?_
  rintro e w1 ⟨rfl, hb1⟩
  rw [H.out]
  have g1 := ((IsD.new (d := d)).alloc _).below rfl hb1
  have g2 := (IsD.new2 (d := zeroD)).below rfl hb1
  have q1 : Below w.heap.size w w1 := below_after (by go_grown) hb1 (by simp; omega)
  clear hb1
  obtain ⟨l2, ⟨d0, d1, d2, d3, d4, d5⟩, e0, e1, e2, e3, e4, e5⟩ := g2.all
  go_wp2
  refine bodyPost_ret (ret_die2 Try.results11 rfl rfl (g2.set6 ⟨0, 0, 0, 0, 0, 0⟩)) rfl ⟨rfl, ?_⟩
  exact below_set6 q1 (by simp) ⟨0, 0, 0, 0, 0, 0⟩

set_option maxHeartbeats 400000 in
theorem specRollDie_no2 (d : D) (s : ByteArray) (w : World) (hs : s.size ≤ maxLen) (h : goodB d = true) (hw : dirS s.data.toList < 0) : Calls Try.prog 11 #[D.v d, .string s] w fun e w' => e = .returned (.tuple #[D.v zeroD, .bool false]) ∧ Below w.heap.size w w' := by
  have H := hide h
  clear h
  go_enter Try.func11, Try.ntmps11
  go_wp2_with fail
  refine (diGood_any d _).mono ?_
  rintro e w1 ⟨rfl, hb1⟩
  rw [H.out]
  have g1 := ((IsD.new (d := d)).alloc _).below rfl hb1
  have g2 := (IsD.new2 (d := zeroD)).below rfl hb1
  have q1 : Below w.heap.size w w1 := below_after (by go_grown) hb1 (by simp; omega)
  clear hb1
  go_wp2_with fail
  refine (diDir_any s _).mono ?_
  rintro e w2 ⟨rfl, rfl⟩
  obtain ⟨l2, ⟨d0, d1, d2, d3, d4, d5⟩, e0, e1, e2, e3, e4, e5⟩ := g2.all
  go_wp2
  refine bodyPost_ret (ret_die2 Try.results11 rfl rfl (g2.set6 ⟨0, 0, 0, 0, 0, 0⟩)) rfl ⟨rfl, ?_⟩
  exact below_set6 q1 (by simp) ⟨0, 0, 0, 0, 0, 0⟩

set_option maxHeartbeats 400000 in
theorem specRollDie_yes (d : D) (s : ByteArray) (w : World) (hs : s.size ≤ maxLen) (h : goodB d = true) (hw : 0 ≤ dirS s.data.toList) : Calls Try.prog 11 #[D.v d, .string s] w fun e w' => e = .returned (.tuple #[D.v (rollK (dirS s.data.toList) d), .bool true]) ∧ Below w.heap.size w w' := by
  have H := hide h
  clear h
  go_enter Try.func11, Try.ntmps11
  go_wp2_with fail
  refine (diGood_any d _).mono ?_
  rintro e w1 ⟨rfl, hb1⟩
  rw [H.out]
  have g1 := ((IsD.new (d := d)).alloc _).below rfl hb1
  have g2 := (IsD.new2 (d := zeroD)).below rfl hb1
  have q1 : Below w.heap.size w w1 := below_after (by go_grown) hb1 (by simp; omega)
  clear hb1
  go_wp2_with fail
  refine (diDir_any s _).mono ?_
  rintro e w2 ⟨rfl, rfl⟩
  obtain ⟨l1, ⟨c0, c1, c2, c3, c4, c5⟩, f0, f1, f2, f3, f4, f5⟩ := g1.all
  go_wp2_with fail
  go_still_tail 3, (by kernel_rfl)
  still_call ((diDir_any _ _).mono fun _ _ h => ⟨h.1, h.2.symm⟩)
  refine wpStill_nil ?_
  change wpList _ _ _ _ _ w1.drew
  go_wp2_with fail
  clear c0 c1 c2 c3 c4 c5 f0 f1 f2 f3 f4 f5 l1
  refine (diRoll_any _ d _).mono ?_
  rintro e w2 ⟨rfl, hb2⟩
  generalize hx : rollK (dirS s.data.toList) d = x
  have HX := hide hx
  clear hx
  have g3 := g2.below (w0 := w1.drew) rfl hb2
  have q2 : Below w.heap.size w w2 := below_after q1.drew hb2 q1.size
  clear g1 g2 q1 hb2
  obtain ⟨l2, ⟨d0, d1, d2, d3, d4, d5⟩, e0, e1, e2, e3, e4, e5⟩ := g3.all
  go_wp2
  refine bodyPost_ret (ret_die2 Try.results11 rfl rfl (g3.set6 x)) rfl ⟨by rw [HX.out], ?_⟩
  exact below_set6 q2 (by simp) x

set_option maxHeartbeats 400000 in
theorem implRollDie_no1 (d : D) (s : ByteArray) (w : World) (h : goodB d = false) : Calls Try.prog 13 #[D.v d, .string s] w fun e w' => e = .returned (.tuple #[D.v zeroD, .bool false]) ∧ Below w.heap.size w w' := by
  have H := hide h
  clear h
  go_enter Try.func13, Try.ntmps13
  go_wp2_with fail
  refine (isDie_any d _).mono ?_
  rintro e w1 ⟨rfl, hb1⟩
  rw [H.out]
  have g1 := ((IsD.new (d := d)).alloc _).below rfl hb1
  have g2 := (IsD.new2 (d := zeroD)).below rfl hb1
  have q1 : Below w.heap.size w w1 := below_after (by go_grown) hb1 (by simp; omega)
  clear hb1
  obtain ⟨l2, ⟨d0, d1, d2, d3, d4, d5⟩, e0, e1, e2, e3, e4, e5⟩ := g2.all
  go_wp2
  refine bodyPost_ret (ret_die2 Try.results13 rfl rfl (g2.set6 ⟨0, 0, 0, 0, 0, 0⟩)) rfl ⟨rfl, ?_⟩
  exact below_set6 q1 (by simp) ⟨0, 0, 0, 0, 0, 0⟩

set_option maxHeartbeats 400000 in
theorem implRollDie_no2 (d : D) (s : ByteArray) (w : World) (hs : s.size ≤ maxLen) (h : goodB d = true) (hw : dirS s.data.toList < 0) : Calls Try.prog 13 #[D.v d, .string s] w fun e w' => e = .returned (.tuple #[D.v zeroD, .bool false]) ∧ Below w.heap.size w w' := by
  have H := hide h
  clear h
  have HW := hide (show decide (0 ≤ dirS s.data.toList) = false from by simp; omega)
  clear hw
  go_enter Try.func13, Try.ntmps13
  go_wp2_with fail
  refine (isDie_any d _).mono ?_
  rintro e w1 ⟨rfl, hb1⟩
  rw [H.out]
  have g1 := ((IsD.new (d := d)).alloc _).below rfl hb1
  have g2 := (IsD.new2 (d := zeroD)).below rfl hb1
  have q1 : Below w.heap.size w w1 := below_after (by go_grown) hb1 (by simp; omega)
  clear hb1
  go_wp2_with fail
  refine (isDirection_any s _ hs).mono ?_
  rintro e w2 ⟨rfl, rfl⟩
  rw [HW.out]
  obtain ⟨l2, ⟨d0, d1, d2, d3, d4, d5⟩, e0, e1, e2, e3, e4, e5⟩ := g2.all
  go_wp2
  refine bodyPost_ret (ret_die2 Try.results13 rfl rfl (g2.set6 ⟨0, 0, 0, 0, 0, 0⟩)) rfl ⟨rfl, ?_⟩
  exact below_set6 q1 (by simp) ⟨0, 0, 0, 0, 0, 0⟩

set_option maxHeartbeats 400000 in
theorem implRollDie_yes (d : D) (s : ByteArray) (w : World) (hs : s.size ≤ maxLen) (h : goodB d = true) (hw : 0 ≤ dirS s.data.toList) : Calls Try.prog 13 #[D.v d, .string s] w fun e w' => e = .returned (.tuple #[D.v (rollK (dirS s.data.toList) d), .bool true]) ∧ Below w.heap.size w w' := by
  have h1 : s.size = 1 := by
    rcases Nat.decEq s.size 1 with h1 | h1
    · rw [dirS_len (by simpa using h1)] at hw
      omega
    · exact h1
  have hp : 0 < s.size := by omega
  have HR := hide (show rollC (s[0]'hp).toNat d = rollK (dirS s.data.toList) d from by
    have e : s.data.toList = [s[0]'hp] := by
      obtain ⟨c, hc⟩ := list_one (l := s.data.toList) (by simpa using h1)
      rw [hc]
      congr 1
      have : s.data.toList[0]'(by rw [hc]; simp) = c := by simp [hc]
      rw [← this]
      rfl
    rw [e, dirS_sing] at hw ⊢
    exact rollC_K hw d)
  have HW := hide (show decide (0 ≤ dirS s.data.toList) = true from by simpa using hw)
  clear h1 hw
  have hpi : (0 : Int) < (s.size : Int) := by omega
  have H := hide h
  clear h
  go_enter Try.func13, Try.ntmps13
  go_wp2_with fail
  refine (isDie_any d _).mono ?_
  rintro e w1 ⟨rfl, hb1⟩
  rw [H.out]
  have g1 := ((IsD.new (d := d)).alloc _).below rfl hb1
  have g2 := (IsD.new2 (d := zeroD)).below rfl hb1
  have q1 : Below w.heap.size w w1 := below_after (by go_grown) hb1 (by simp; omega)
  clear hb1
  go_wp2_with fail
  refine (isDirection_any s _ hs).mono ?_
  rintro e w2 ⟨rfl, rfl⟩
  rw [HW.out]
  obtain ⟨l1, ⟨c0, c1, c2, c3, c4, c5⟩, f0, f1, f2, f3, f4, f5⟩ := g1.all
  go_wp2_with fail
  go_still_tail 3, (by kernel_rfl)
  change wpList _ _ _ _ _ w1.drew
  go_wp2_with fail
  clear c0 c1 c2 c3 c4 c5 f0 f1 f2 f3 f4 f5 l1
  refine (rolled_any _ d _).mono ?_
  rintro e w2 ⟨rfl, hb2⟩
  rw [HR.out]
  generalize hx : rollK (dirS s.data.toList) d = x
  have HX := hide hx
  clear hx
  have g3 := g2.below (w0 := w1.drew) rfl hb2
  have q2 : Below w.heap.size w w2 := below_after q1.drew hb2 q1.size
  clear g1 g2 q1 hb2
  obtain ⟨l2, ⟨d0, d1, d2, d3, d4, d5⟩, e0, e1, e2, e3, e4, e5⟩ := g3.all
  go_wp2
  refine bodyPost_ret (ret_die2 Try.results13 rfl rfl (g3.set6 x)) rfl ⟨by rw [HX.out], ?_⟩
  exact below_set6 q2 (by simp) x

/-- What both say. -/
def rdS (d : D) (l : List UInt8) : D := if goodB d = true ∧ 0 ≤ dirS l then rollK (dirS l) d else zeroD
def rdF (d : D) (l : List UInt8) : Bool := goodB d && decide (0 ≤ dirS l)
theorem specRollDie_any (d : D) (s : ByteArray) (w : World) (hs : s.size ≤ maxLen) : Calls Try.prog 11 #[D.v d, .string s] w fun e w' => e = .returned (.tuple #[D.v (rdS d s.data.toList), .bool (rdF d s.data.toList)]) ∧ Below w.heap.size w w' := by
  cases h : goodB d
  · simpa [rdS, rdF, h] using specRollDie_no1 d s w h
  · by_cases h2 : 0 ≤ dirS s.data.toList
    · simpa [rdS, rdF, h, h2] using specRollDie_yes d s w hs h h2
    · simpa [rdS, rdF, h, h2] using specRollDie_no2 d s w hs h (by omega)
theorem implRollDie_any (d : D) (s : ByteArray) (w : World) (hs : s.size ≤ maxLen) : Calls Try.prog 13 #[D.v d, .string s] w fun e w' => e = .returned (.tuple #[D.v (rdS d s.data.toList), .bool (rdF d s.data.toList)]) ∧ Below w.heap.size w w' := by
  cases h : goodB d
  · simpa [rdS, rdF, h] using implRollDie_no1 d s w h
  · by_cases h2 : 0 ≤ dirS s.data.toList
    · simpa [rdS, rdF, h, h2] using implRollDie_yes d s w hs h h2
    · simpa [rdS, rdF, h, h2] using implRollDie_no2 d s w hs h (by omega)

set_option maxHeartbeats 800000 in
theorem walk_RollDie (d : D) (s : ByteArray) (hs : s.size ≤ maxLen) (w : World) : Calls Try.prog 3 #[D.v d, .string s] w fun e w' => e = .returned (.bool true) ∧ Below w.heap.size w w' := by
  by_cases h20 : s.size ≤ 1048576
  · go_enter Try.func3, Try.ntmps3
    go_wp2_with fail
    refine (toDie_any d _).mono ?_
    rintro e w1 ⟨rfl, hb1⟩
    have g1 := (IsD.new (d := d)).below rfl hb1
    have q1 : Below w.heap.size w w1 := below_after (by go_grown) hb1 (by simp)
    clear hb1
    go_wp2_with fail
    refine (specRollDie_any d s _ hs).mono ?_
    rintro e w2 ⟨rfl, hb2⟩
    generalize hx : rdS d s.data.toList = x
    have HX := hide hx
    clear hx
    generalize hg : rdF d s.data.toList = g
    have HG := hide hg
    clear hg
    have g2 := g1.below rfl hb2
    have q2 : Below w.heap.size w w2 := below_after q1 hb2 q1.size
    clear hb2 q1 g1
    obtain ⟨l1, ⟨c0, c1, c2, c3, c4, c5⟩, -⟩ := g2.all
    go_wp2_with fail
    clear c0 c1 c2 c3 c4 c5
    refine (toDie_any d _).mono ?_
    rintro e w3 ⟨rfl, hb3⟩
    have g3 := (IsD.new (d := x)).below rfl hb3
    have q3 : Below w.heap.size w w3 := below_after (q2.alloc q2.size _) hb3 (by simp; have := q2.size; omega)
    clear hb3 q2 g2 l1
    go_wp2_with fail
    refine (implRollDie_any d s _ hs).mono ?_
    rintro e w4 ⟨rfl, hb4⟩
    rw [HG.out, HX.out]
    have g4 := g3.below rfl hb4
    have q4 : Below w.heap.size w w4 := below_after q3 hb4 q3.size
    clear hb4 q3 g3
    obtain ⟨l1, ⟨c0, c1, c2, c3, c4, c5⟩, -⟩ := g4.all
    go_wp2_with fail
    clear c0 c1 c2 c3 c4 c5
    refine (eqDie_any x x _).mono ?_
    rintro e w5 ⟨rfl, hb5⟩
    have hf : (g != g) = false := by simp
    simp only [decide_true]
    go_wp2
    go_returns
    exact ⟨rfl, below_after (q4.alloc q4.size _) hb5 (by simp; have := q4.size; omega)⟩
  · go_enter Try.func3, Try.ntmps3
    go_wp2
    go_returns
    exact ⟨rfl, by go_grown⟩

end Go.Proofs.Ytphcaikggfmpaaa
