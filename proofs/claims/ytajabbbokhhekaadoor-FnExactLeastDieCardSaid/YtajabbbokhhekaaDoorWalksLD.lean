/- The walk of the law of LeastDie. -/
import Derived.Test.YtajabbbokhhekaaDoorWaysL
namespace Go.Proofs.YtajabbbokhhekaaDoor
set_option maxRecDepth 100000
set_option linter.all false
open Go.RowKit

set_option maxHeartbeats 800000 in
theorem walk_LeastDie (d : D) (w : World) (_ : Glob w) : Calls Tryd.prog 8 #[D.v d] w fun e w' => e = .returned (.bool true) ∧ Below w.heap.size w w' := by
  go_enter Tryd.func8, Tryd.ntmps8
  go_wp2_with fail
  refine (toDie_any d _).mono ?_
  rintro e w1 ⟨rfl, hb1⟩
  have g1 := (IsD.new (d := d)).below rfl hb1
  have q1 : Below w.heap.size w w1 := below_after (by go_grown) hb1 (by simp)
  clear hb1
  go_wp2_with fail
  refine (specLD_any d _).mono ?_
  rintro e w2 ⟨rfl, hb2⟩
  generalize hx : ldV d = x
  have HX := hide hx
  clear hx
  generalize hg : goodB d = g
  have HG := hide hg
  clear hg
  have g2 := g1.below rfl hb2
  have q2 : Below w.heap.size w w2 := below_after q1 hb2 q1.size
  clear hb2 q1 g1
  obtain ⟨l1, ⟨c0, c1, c2, c3, c4, c5⟩, -⟩ := g2.all
  go_wp2_with fail
  clear c0 c1 c2 c3 c4 c5
  refine (toDie_any d _).mono ?_
  rintro e w3 ⟨rfl, hb3⟩
  have g3 := (IsD.new (d := x)).below rfl hb3
  have q3 : Below w.heap.size w w3 := below_after (q2.alloc q2.size _) hb3 (by simp; have := q2.size; omega)
  clear hb3 q2 g2 l1
  go_wp2_with fail
  refine (implLD_any d _).mono ?_
  rintro e w4 ⟨rfl, hb4⟩
  rw [HG.out, HX.out]
  have g4 := g3.below rfl hb4
  have q4 : Below w.heap.size w w4 := below_after q3 hb4 q3.size
  clear hb4 q3 g3
  obtain ⟨l1, ⟨c0, c1, c2, c3, c4, c5⟩, -⟩ := g4.all
  go_wp2_with fail
  clear c0 c1 c2 c3 c4 c5
  refine (eqDie_any x x _).mono ?_
  rintro e w5 ⟨rfl, hb5⟩
  have hf : (g != g) = false := by simp
  simp only [decide_true]
  go_wp2
  go_returns
  exact ⟨rfl, below_after (q4.alloc q4.size _) hb5 (by simp; have := q4.size; omega)⟩
end Go.Proofs.YtajabbbokhhekaaDoor
