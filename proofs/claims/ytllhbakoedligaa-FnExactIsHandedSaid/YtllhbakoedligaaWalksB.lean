/- The walk of the law of MirrorDie. -/
import Derived.Test.YtllhbakoedligaaGood
import Derived.Test.YtllhbakoedligaaFaces
namespace Go.Proofs.Ytllhbakoedligaa
open Go.RowKit

set_option maxHeartbeats 400000 in
theorem implMirror_yes (d : D) (w : World) (h : goodB d = true) : Calls Try.prog 46 #[D.v d] w fun e w' => e = .returned (.tuple #[D.v (mirrorD d), .bool true]) ∧ Below w.heap.size w w' := by
  have H := hide h
  clear h
  go_enter Try.func46, Try.ntmps46
  go_wp2_with fail
  refine (isDie_any d _).mono ?_
  rintro e w1 ⟨rfl, hb1⟩
  rw [H.out]
  have g1 := ((IsD.new (d := d)).alloc _).below rfl hb1
  have g2 := (IsD.new2 (d := zeroD)).below rfl hb1
  have q1 : Below w.heap.size w w1 := below_after (by go_grown) hb1 (by simp; omega)
  clear hb1
  obtain ⟨l1, ⟨c0, c1, c2, c3, c4, c5⟩, f0, f1, f2, f3, f4, f5⟩ := g1.all
  obtain ⟨l2, ⟨d0, d1, d2, d3, d4, d5⟩, e0, e1, e2, e3, e4, e5⟩ := g2.all
  go_wp2
  have g3 := ((g2.other (p := ⟨w.heap.size, 2, none⟩) (by simp) (.int .i64 d.w)).other (p := ⟨w.heap.size, 4, none⟩) (by simp) (.int .i64 d.e)).set6 ⟨d.t, d.n, d.w, d.s, d.e, d.b⟩
  refine bodyPost_ret (ret_die2 Try.results46 rfl rfl g3) rfl ⟨rfl, ?_⟩
  exact below_set6 ((q1.setCell (by simp) _).setCell (by simp) _) (by simp) ⟨d.t, d.n, d.w, d.s, d.e, d.b⟩

set_option maxHeartbeats 400000 in
theorem implMirror_no (d : D) (w : World) (h : goodB d = false) : Calls Try.prog 46 #[D.v d] w fun e w' => e = .returned (.tuple #[D.v zeroD, .bool false]) ∧ Below w.heap.size w w' := by
  have H := hide h
  clear h
  go_enter Try.func46, Try.ntmps46
  go_wp2_with fail
  refine (isDie_any d _).mono ?_
  rintro e w1 ⟨rfl, hb1⟩
  rw [H.out]
  have g2 := (IsD.new2 (d := zeroD)).below rfl hb1
  have q1 : Below w.heap.size w w1 := below_after (by go_grown) hb1 (by simp; omega)
  clear hb1
  obtain ⟨l2, ⟨d0, d1, d2, d3, d4, d5⟩, e0, e1, e2, e3, e4, e5⟩ := g2.all
  go_wp2
  refine bodyPost_ret (ret_die2 Try.results46 rfl rfl (g2.set6 ⟨0, 0, 0, 0, 0, 0⟩)) rfl ⟨rfl, ?_⟩
  exact below_set6 q1 (by simp) ⟨0, 0, 0, 0, 0, 0⟩

set_option maxHeartbeats 400000 in
theorem specMirror_yes (d : D) (w : World) (h : goodB d = true) : Calls Try.prog 45 #[D.v d] w fun e w' => e = .returned (.tuple #[D.v (mirrorD d), .bool true]) ∧ Below w.heap.size w w' := by
  have H := hide h
  clear h
  go_enter Try.func45, Try.ntmps45
  go_wp2_with fail
  refine (diGood_any d _).mono ?_
  rintro e w1 ⟨rfl, hb1⟩
  rw [H.out]
  have g1 := ((IsD.new (d := d)).alloc _).below rfl hb1
  have g2 := (IsD.new2 (d := zeroD)).below rfl hb1
  have q1 : Below w.heap.size w w1 := below_after (by go_grown) hb1 (by simp; omega)
  clear hb1
  obtain ⟨l1, ⟨c0, c1, c2, c3, c4, c5⟩, -⟩ := g1.all
  go_wp2_with fail
  clear c0 c1 c2 c3 c4 c5 l1
  refine (diMirror_any d _).mono ?_
  rintro e w2 ⟨rfl, hb2⟩
  have g3 := g2.below rfl hb2
  have q2 : Below w.heap.size w w2 := below_after q1 hb2 q1.size
  clear g1 g2 q1 hb2
  obtain ⟨l2, ⟨d0, d1, d2, d3, d4, d5⟩, e0, e1, e2, e3, e4, e5⟩ := g3.all
  go_wp2
  refine bodyPost_ret (ret_die2 Try.results45 rfl rfl (g3.set6 (mirrorD d))) rfl ⟨rfl, ?_⟩
  exact below_set6 q2 (by simp) _

set_option maxHeartbeats 400000 in
theorem specMirror_no (d : D) (w : World) (h : goodB d = false) : Calls Try.prog 45 #[D.v d] w fun e w' => e = .returned (.tuple #[D.v zeroD, .bool false]) ∧ Below w.heap.size w w' := by
  have H := hide h
  clear h
  go_enter Try.func45, Try.ntmps45
  go_wp2_with fail
  refine (diGood_any d _).mono ?_
  rintro e w1 ⟨rfl, hb1⟩
  rw [H.out]
  have g2 := (IsD.new2 (d := zeroD)).below rfl hb1
  have q1 : Below w.heap.size w w1 := below_after (by go_grown) hb1 (by simp; omega)
  clear hb1
  obtain ⟨l2, ⟨d0, d1, d2, d3, d4, d5⟩, e0, e1, e2, e3, e4, e5⟩ := g2.all
  go_wp2
  refine bodyPost_ret (ret_die2 Try.results45 rfl rfl (g2.set6 ⟨0, 0, 0, 0, 0, 0⟩)) rfl ⟨rfl, ?_⟩
  exact below_set6 q1 (by simp) ⟨0, 0, 0, 0, 0, 0⟩

/-- What both say. -/
def mirS (d : D) : D := if goodB d = true then mirrorD d else zeroD
theorem implMirror_any (d : D) (w : World) : Calls Try.prog 46 #[D.v d] w fun e w' => e = .returned (.tuple #[D.v (mirS d), .bool (goodB d)]) ∧ Below w.heap.size w w' := by
  cases h : goodB d
  · simpa [mirS, h] using implMirror_no d w h
  · simpa [mirS, h] using implMirror_yes d w h
theorem specMirror_any (d : D) (w : World) : Calls Try.prog 45 #[D.v d] w fun e w' => e = .returned (.tuple #[D.v (mirS d), .bool (goodB d)]) ∧ Below w.heap.size w w' := by
  cases h : goodB d
  · simpa [mirS, h] using specMirror_no d w h
  · simpa [mirS, h] using specMirror_yes d w h

set_option maxHeartbeats 400000 in
theorem walk_MirrorDie (d : D) (w : World) : Calls Try.prog 15 #[D.v d] w fun e w' => e = .returned (.bool true) ∧ Below w.heap.size w w' := by
  go_enter Try.func15, Try.ntmps15
  go_wp2_with fail
  refine (toDie_any d _).mono ?_
  rintro e w1 ⟨rfl, hb1⟩
  have g1 := (IsD.new (d := d)).below rfl hb1
  have q1 : Below w.heap.size w w1 := below_after (by go_grown) hb1 (by simp)
  clear hb1
  go_wp2_with fail
  refine (specMirror_any d _).mono ?_
  rintro e w2 ⟨rfl, hb2⟩
  generalize hx : mirS d = x
  have HX := hide hx
  clear hx
  generalize hg : goodB d = g
  have HG := hide hg
  clear hg
  have g2 := g1.below rfl hb2
  have q2 : Below w.heap.size w w2 := below_after q1 hb2 q1.size
  clear hb2 q1 g1
  obtain ⟨l1, ⟨c0, c1, c2, c3, c4, c5⟩, -⟩ := g2.all
  go_wp2_with fail
  clear c0 c1 c2 c3 c4 c5
  refine (toDie_any d _).mono ?_
  rintro e w3 ⟨rfl, hb3⟩
  have g3 := (IsD.new (d := x)).below rfl hb3
  have q3 : Below w.heap.size w w3 := below_after (q2.alloc q2.size _) hb3 (by simp; have := q2.size; omega)
  clear hb3 q2 g2 l1
  go_wp2_with fail
  refine (implMirror_any d _).mono ?_
  rintro e w4 ⟨rfl, hb4⟩
  rw [HG.out, HX.out]
  have g4 := g3.below rfl hb4
  have q4 : Below w.heap.size w w4 := below_after q3 hb4 q3.size
  clear hb4 q3 g3
  obtain ⟨l1, ⟨c0, c1, c2, c3, c4, c5⟩, -⟩ := g4.all
  go_wp2_with fail
  clear c0 c1 c2 c3 c4 c5
  refine (eqDie_any x x _).mono ?_
  rintro e w5 ⟨rfl, hb5⟩
  have hf : (g != g) = false := by simp
  simp only [decide_true]
  go_wp2
  go_returns
  exact ⟨rfl, below_after (q4.alloc q4.size _) hb5 (by simp; have := q4.size; omega)⟩
end Go.Proofs.Ytllhbakoedligaa
