/- The walk of the law of MirrorDie. -/
import Derived.Test.YtjikpkembcnfnaaDoorGood
import Derived.Test.YtjikpkembcnfnaaDoorFaces
namespace Go.Proofs.YtjikpkembcnfnaaDoor
set_option maxRecDepth 100000
set_option linter.all false
open Go.RowKit

set_option maxHeartbeats 400000 in
theorem implMirror_yes (d : D) (w : World) (h : goodB d = true) : Calls Tryd.prog 46 #[D.v d] w fun e w' => e = .returned (.tuple #[D.v (mirrorD d), .bool true]) ∧ Below w.heap.size w w' := by
  have H := hide h
  clear h
  go_enter Tryd.func46, Tryd.ntmps46
  go_wp2_with fail
  refine (isDie_any d _).mono ?_
  rintro e w1 ⟨rfl, hb1⟩
  rw [H.out]
  have g1 := ((IsD.new (d := d)).alloc _).below rfl hb1
  have g2 := (IsD.new2 (d := zeroD)).below rfl hb1
  have q1 : Below w.heap.size w w1 := below_after (by go_grown) hb1 (by simp; omega)
  clear hb1
  obtain ⟨l1, ⟨c0, c1, c2, c3, c4, c5⟩, f0, f1, f2, f3, f4, f5⟩ := g1.all
  obtain ⟨l2, ⟨d0, d1, d2, d3, d4, d5⟩, e0, e1, e2, e3, e4, e5⟩ := g2.all
  go_wp2
  have g3 := ((g2.other (p := ⟨w.heap.size, 2, none⟩) (by simp) (.int .i64 d.w)).other (p := ⟨w.heap.size, 4, none⟩) (by simp) (.int .i64 d.e)).set6 ⟨d.t, d.n, d.w, d.s, d.e, d.b⟩
  refine bodyPost_ret (ret_die2 Tryd.results46 rfl rfl g3) rfl ⟨rfl, ?_⟩
  exact below_set6 ((q1.setCell (by simp) _).setCell (by simp) _) (by simp) ⟨d.t, d.n, d.w, d.s, d.e, d.b⟩

set_option maxHeartbeats 400000 in
theorem implMirror_no (d : D) (w : World) (h : goodB d = false) : Calls Tryd.prog 46 #[D.v d] w fun e w' => e = .returned (.tuple #[D.v zeroD, .bool false]) ∧ Below w.heap.size w w' := by
  have H := hide h
  clear h
  go_enter Tryd.func46, Tryd.ntmps46
  go_wp2_with fail
  refine (isDie_any d _).mono ?_
  rintro e w1 ⟨rfl, hb1⟩
  rw [H.out]
  have g2 := (IsD.new2 (d := zeroD)).below rfl hb1
  have q1 : Below w.heap.size w w1 := below_after (by go_grown) hb1 (by simp; omega)
  clear hb1
  obtain ⟨l2, ⟨d0, d1, d2, d3, d4, d5⟩, e0, e1, e2, e3, e4, e5⟩ := g2.all
  go_wp2
  refine bodyPost_ret (ret_die2 Tryd.results46 rfl rfl (g2.set6 ⟨0, 0, 0, 0, 0, 0⟩)) rfl ⟨rfl, ?_⟩
  exact below_set6 q1 (by simp) ⟨0, 0, 0, 0, 0, 0⟩

/-- What both say. -/
def mirS (d : D) : D := if goodB d = true then mirrorD d else zeroD
theorem implMirror_any (d : D) (w : World) : Calls Tryd.prog 46 #[D.v d] w fun e w' => e = .returned (.tuple #[D.v (mirS d), .bool (goodB d)]) ∧ Below w.heap.size w w' := by
  cases h : goodB d
  · simpa [mirS, h] using implMirror_no d w h
  · simpa [mirS, h] using implMirror_yes d w h
end Go.Proofs.YtjikpkembcnfnaaDoor
