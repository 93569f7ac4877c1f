/- The walk of the law of RollWord. -/
import Derived.Test.YtphcaikggfmpaaaGood
import Derived.Test.YtphcaikggfmpaaaRun
import Derived.Test.YtphcaikggfmpaaaWalksA
namespace Go.Proofs.Ytphcaikggfmpaaa
set_option maxRecDepth 100000
set_option linter.all false
open Go.RowKit

set_option maxHeartbeats 400000 in
theorem specRollWord_no1 (d : D) (s : ByteArray) (w : World) (h : goodB d = false) : Calls Try.prog 17 #[D.v d, .string s] w fun e w' => e = .returned (.tuple #[D.v zeroD, .bool false]) ∧ Below w.heap.size w w' := by
  have H := hide h
  clear h
  go_enter Try.func17, Try.ntmps17
  go_wp2_with fail
  refine (diGood_any d _).mono ?_
  rintro e w1 ⟨rfl, hb1⟩
  rw [H.out]
  have g1 := ((IsD.new (d := d)).alloc _).below rfl hb1
  have g2 := (IsD.new2 (d := zeroD)).below rfl hb1
  have q1 : Below w.heap.size w w1 := below_after (by go_grown) hb1 (by simp; omega)
  clear hb1
  obtain ⟨l2, ⟨d0, d1, d2, d3, d4, d5⟩, e0, e1, e2, e3, e4, e5⟩ := g2.all
  go_wp2
  refine bodyPost_ret (ret_die2 Try.results17 rfl rfl (g2.set6 ⟨0, 0, 0, 0, 0, 0⟩)) rfl ⟨rfl, ?_⟩
  exact below_set6 q1 (by simp) ⟨0, 0, 0, 0, 0, 0⟩

set_option maxHeartbeats 400000 in
theorem specRollWord_no2 (d : D) (s : ByteArray) (w : World) (hs : s.size ≤ maxLen) (h : goodB d = true) (hw : isWord s.data.toList = false) : Calls Try.prog 17 #[D.v d, .string s] w fun e w' => e = .returned (.tuple #[D.v zeroD, .bool false]) ∧ Below w.heap.size w w' := by
  have H := hide h
  have HW := hide hw
  clear h hw
  go_enter Try.func17, Try.ntmps17
  go_wp2_with fail
  refine (diGood_any d _).mono ?_
  rintro e w1 ⟨rfl, hb1⟩
  rw [H.out]
  have g1 := ((IsD.new (d := d)).alloc _).below rfl hb1
  have g2 := (IsD.new2 (d := zeroD)).below rfl hb1
  have q1 : Below w.heap.size w w1 := below_after (by go_grown) hb1 (by simp; omega)
  clear hb1
  go_wp2_with fail
  refine (diWord_any s _ hs).mono ?_
  rintro e w2 ⟨rfl, rfl⟩
  rw [HW.out]
  obtain ⟨l2, ⟨d0, d1, d2, d3, d4, d5⟩, e0, e1, e2, e3, e4, e5⟩ := g2.all
  go_wp2
  refine bodyPost_ret (ret_die2 Try.results17 rfl rfl (g2.set6 ⟨0, 0, 0, 0, 0, 0⟩)) rfl ⟨rfl, ?_⟩
  exact below_set6 q1 (by simp) ⟨0, 0, 0, 0, 0, 0⟩

set_option maxHeartbeats 400000 in
theorem specRollWord_yes (d : D) (s : ByteArray) (w : World) (hs : s.size ≤ maxLen) (h : goodB d = true) (hw : isWord s.data.toList = true) : Calls Try.prog 17 #[D.v d, .string s] w fun e w' => e = .returned (.tuple #[D.v (runK d s.data.toList), .bool true]) ∧ Below w.heap.size w w' := by
  have H := hide h
  have HW := hide hw
  clear h hw
  go_enter Try.func17, Try.ntmps17
  go_wp2_with fail
  refine (diGood_any d _).mono ?_
  rintro e w1 ⟨rfl, hb1⟩
  rw [H.out]
  have g1 := ((IsD.new (d := d)).alloc _).below rfl hb1
  have g2 := (IsD.new2 (d := zeroD)).below rfl hb1
  have q1 : Below w.heap.size w w1 := below_after (by go_grown) hb1 (by simp; omega)
  clear hb1
  go_wp2_with fail
  refine (diWord_any s _ hs).mono ?_
  rintro e w2 ⟨rfl, rfl⟩
  rw [HW.out]
  obtain ⟨l1, ⟨c0, c1, c2, c3, c4, c5⟩, f0, f1, f2, f3, f4, f5⟩ := g1.all
  go_wp2_with fail
  clear c0 c1 c2 c3 c4 c5 f0 f1 f2 f3 f4 f5 l1
  refine (diRun_any d s _ hs).mono ?_
  rintro e w2 ⟨rfl, hb2⟩
  generalize hx : runK d s.data.toList = x
  have HX := hide hx
  clear hx
  have g3 := g2.below rfl hb2
  have q2 : Below w.heap.size w w2 := below_after q1 hb2 q1.size
  clear g1 g2 q1 hb2
  obtain ⟨l2, ⟨d0, d1, d2, d3, d4, d5⟩, e0, e1, e2, e3, e4, e5⟩ := g3.all
  go_wp2
  refine bodyPost_ret (ret_die2 Try.results17 rfl rfl (g3.set6 x)) rfl ⟨by rw [HX.out], ?_⟩
  exact below_set6 q2 (by simp) x

set_option maxHeartbeats 400000 in
theorem implRollWord_no1 (d : D) (s : ByteArray) (w : World) (h : goodB d = false) : Calls Try.prog 18 #[D.v d, .string s] w fun e w' => e = .returned (.tuple #[D.v zeroD, .bool false]) ∧ Below w.heap.size w w' := by
  have H := hide h
  clear h
  go_enter Try.func18, Try.ntmps18
  go_wp2_with fail
  refine (isDie_any d _).mono ?_
  rintro e w1 ⟨rfl, hb1⟩
  rw [H.out]
  have g1 := ((IsD.new (d := d)).alloc _).below rfl hb1
  have g2 := (IsD.new2 (d := zeroD)).below rfl hb1
  have q1 : Below w.heap.size w w1 := below_after (by go_grown) hb1 (by simp; omega)
  clear hb1
  obtain ⟨l2, ⟨d0, d1, d2, d3, d4, d5⟩, e0, e1, e2, e3, e4, e5⟩ := g2.all
  go_wp2
  refine bodyPost_ret (ret_die2 Try.results18 rfl rfl (g2.set6 ⟨0, 0, 0, 0, 0, 0⟩)) rfl ⟨rfl, ?_⟩
  exact below_set6 q1 (by simp) ⟨0, 0, 0, 0, 0, 0⟩

set_option maxHeartbeats 400000 in
theorem implRollWord_no2 (d : D) (s : ByteArray) (w : World) (hs : s.size ≤ maxLen) (h : goodB d = true) (hw : isWord s.data.toList = false) : Calls Try.prog 18 #[D.v d, .string s] w fun e w' => e = .returned (.tuple #[D.v zeroD, .bool false]) ∧ Below w.heap.size w w' := by
  have H := hide h
  have HW := hide hw
  clear h hw
  go_enter Try.func18, Try.ntmps18
  go_wp2_with fail
  refine (isDie_any d _).mono ?_
  rintro e w1 ⟨rfl, hb1⟩
  rw [H.out]
  have g1 := ((IsD.new (d := d)).alloc _).below rfl hb1
  have g2 := (IsD.new2 (d := zeroD)).below rfl hb1
  have q1 : Below w.heap.size w w1 := below_after (by go_grown) hb1 (by simp; omega)
  clear hb1
  go_wp2_with fail
  refine (isRolls_any s _ hs).mono ?_
  rintro e w2 ⟨rfl, rfl⟩
  rw [HW.out]
  obtain ⟨l2, ⟨d0, d1, d2, d3, d4, d5⟩, e0, e1, e2, e3, e4, e5⟩ := g2.all
  go_wp2
  refine bodyPost_ret (ret_die2 Try.results18 rfl rfl (g2.set6 ⟨0, 0, 0, 0, 0, 0⟩)) rfl ⟨rfl, ?_⟩
  exact below_set6 q1 (by simp) ⟨0, 0, 0, 0, 0, 0⟩

set_option maxHeartbeats 400000 in
theorem implRollWord_yes (d : D) (s : ByteArray) (w : World) (hs : s.size ≤ maxLen) (h : goodB d = true) (hw : isWord s.data.toList = true) : Calls Try.prog 18 #[D.v d, .string s] w fun e w' => e = .returned (.tuple #[D.v (runC d s.data.toList), .bool true]) ∧ Below w.heap.size w w' := by
  have H := hide h
  have HW := hide hw
  clear h hw
  go_enter Try.func18, Try.ntmps18
  go_wp2_with fail
  refine (isDie_any d _).mono ?_
  rintro e w1 ⟨rfl, hb1⟩
  rw [H.out]
  have g1 := ((IsD.new (d := d)).alloc _).below rfl hb1
  have g2 := (IsD.new2 (d := zeroD)).below rfl hb1
  have q1 : Below w.heap.size w w1 := below_after (by go_grown) hb1 (by simp; omega)
  clear hb1
  go_wp2_with fail
  refine (isRolls_any s _ hs).mono ?_
  rintro e w2 ⟨rfl, rfl⟩
  rw [HW.out]
  obtain ⟨l1, ⟨c0, c1, c2, c3, c4, c5⟩, f0, f1, f2, f3, f4, f5⟩ := g1.all
  go_wp2_with fail
  clear c0 c1 c2 c3 c4 c5 f0 f1 f2 f3 f4 f5 l1
  refine (rolledAlong_any d s _ hs).mono ?_
  rintro e w2 ⟨rfl, hb2⟩
  generalize hx : runC d s.data.toList = x
  have HX := hide hx
  clear hx
  have g3 := g2.below rfl hb2
  have q2 : Below w.heap.size w w2 := below_after q1 hb2 q1.size
  clear g1 g2 q1 hb2
  obtain ⟨l2, ⟨d0, d1, d2, d3, d4, d5⟩, e0, e1, e2, e3, e4, e5⟩ := g3.all
  go_wp2
  refine bodyPost_ret (ret_die2 Try.results18 rfl rfl (g3.set6 x)) rfl ⟨by rw [HX.out], ?_⟩
  exact below_set6 q2 (by simp) x

/-- What both say. -/
def rwS (d : D) (l : List UInt8) : D := if goodB d = true ∧ isWord l = true then runC d l else zeroD
def rwF (d : D) (l : List UInt8) : Bool := goodB d && isWord l
theorem specRollWord_any (d : D) (s : ByteArray) (w : World) (hs : s.size ≤ maxLen) : Calls Try.prog 17 #[D.v d, .string s] w fun e w' => e = .returned (.tuple #[D.v (rwS d s.data.toList), .bool (rwF d s.data.toList)]) ∧ Below w.heap.size w w' := by
  cases h : goodB d
  · simpa [rwS, rwF, h] using specRollWord_no1 d s w h
  · cases h2 : isWord s.data.toList
    · simpa [rwS, rwF, h, h2] using specRollWord_no2 d s w hs h h2
    · have e := runC_K h2 d
      simpa [rwS, rwF, h, h2, e] using specRollWord_yes d s w hs h h2
theorem implRollWord_any (d : D) (s : ByteArray) (w : World) (hs : s.size ≤ maxLen) : Calls Try.prog 18 #[D.v d, .string s] w fun e w' => e = .returned (.tuple #[D.v (rwS d s.data.toList), .bool (rwF d s.data.toList)]) ∧ Below w.heap.size w w' := by
  cases h : goodB d
  · simpa [rwS, rwF, h] using implRollWord_no1 d s w h
  · cases h2 : isWord s.data.toList
    · simpa [rwS, rwF, h, h2] using implRollWord_no2 d s w hs h h2
    · skip
      simpa [rwS, rwF, h, h2] using implRollWord_yes d s w hs h h2

set_option maxHeartbeats 800000 in
theorem walk_RollWord (d : D) (s : ByteArray) (hs : s.size ≤ maxLen) (w : World) : Calls Try.prog 5 #[D.v d, .string s] w fun e w' => e = .returned (.bool true) ∧ Below w.heap.size w w' := by
  by_cases h20 : s.size ≤ 1048576
  · go_enter Try.func5, Try.ntmps5
    go_wp2_with fail
    refine (toDie_any d _).mono ?_
    rintro e w1 ⟨rfl, hb1⟩
    have g1 := (IsD.new (d := d)).below rfl hb1
    have q1 : Below w.heap.size w w1 := below_after (by go_grown) hb1 (by simp)
    clear hb1
    go_wp2_with fail
    refine (specRollWord_any d s _ hs).mono ?_
    rintro e w2 ⟨rfl, hb2⟩
    generalize hx : rwS d s.data.toList = x
    have HX := hide hx
    clear hx
    generalize hg : rwF d s.data.toList = g
    have HG := hide hg
    clear hg
    have g2 := g1.below rfl hb2
    have q2 : Below w.heap.size w w2 := below_after q1 hb2 q1.size
    clear hb2 q1 g1
    obtain ⟨l1, ⟨c0, c1, c2, c3, c4, c5⟩, -⟩ := g2.all
    go_wp2_with fail
    clear c0 c1 c2 c3 c4 c5
    refine (toDie_any d _).mono ?_
    rintro e w3 ⟨rfl, hb3⟩
    have g3 := (IsD.new (d := x)).below rfl hb3
    have q3 : Below w.heap.size w w3 := below_after (q2.alloc q2.size _) hb3 (by simp; have := q2.size; omega)
    clear hb3 q2 g2 l1
    go_wp2_with fail
    refine (implRollWord_any d s _ hs).mono ?_
    rintro e w4 ⟨rfl, hb4⟩
    rw [HG.out, HX.out]
    have g4 := g3.below rfl hb4
    have q4 : Below w.heap.size w w4 := below_after q3 hb4 q3.size
    clear hb4 q3 g3
    obtain ⟨l1, ⟨c0, c1, c2, c3, c4, c5⟩, -⟩ := g4.all
    go_wp2_with fail
    clear c0 c1 c2 c3 c4 c5
    refine (eqDie_any x x _).mono ?_
    rintro e w5 ⟨rfl, hb5⟩
    have hf : (g != g) = false := by simp
    simp only [decide_true]
    go_wp2
    go_returns
    exact ⟨rfl, below_after (q4.alloc q4.size _) hb5 (by simp; have := q4.size; omega)⟩
  · go_enter Try.func5, Try.ntmps5
    go_wp2
    go_returns
    exact ⟨rfl, by go_grown⟩

end Go.Proofs.Ytphcaikggfmpaaa
