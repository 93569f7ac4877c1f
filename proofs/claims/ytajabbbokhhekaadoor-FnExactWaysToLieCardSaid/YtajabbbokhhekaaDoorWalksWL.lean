/- The walk of the law of WaysToLie. -/
import Derived.Test.YtajabbbokhhekaaDoorWaysL
namespace Go.Proofs.YtajabbbokhhekaaDoor
set_option maxRecDepth 100000
set_option linter.all false
open Go.RowKit

set_option maxHeartbeats 3200000 in
theorem walk_WaysToLie (d0 : D) (w : World) (_ : Glob w) : Calls Tryd.prog 4 #[D.v d0] w fun e w' => e = .returned (.bool true) ∧ Below w.heap.size w w' := by
  have hlen := hide (show (wlL d0).length ≤ 100000 from wlL_len _)
  obtain ⟨Z, hZ⟩ : ∃ Z, Z = wlL d0 := ⟨_, rfl⟩
  have HZ := hide hZ
  clear hZ
  rw [← HZ.out] at hlen
  obtain ⟨ok, hok⟩ : ∃ ok, ok = goodB d0 := ⟨_, rfl⟩
  have HOK := hide hok
  clear hok
  have e1 : (ok != ok) = false := by simp
  obtain ⟨N, hN⟩ : ∃ N : Int, N = ((Z.length * 6 : Nat) : Int) := ⟨_, rfl⟩
  have n1 : ¬ (1 + N < 0) := by omega
  have n2 : ((1 + N) != (1 + N)) = false := by simp
  have HN := hide hN
  clear hN
  go_enter Tryd.func4, Tryd.ntmps4
  go_wp2_with fail
  refine (toDie_any d0 _).mono ?_
  rintro e w1 ⟨rfl, hb1⟩
  have q1 : Below w.heap.size w w1 := below_after (by go_grown) hb1 (by simp)
  have GD1 := hide ((IsD.new (d := d0)).below rfl hb1)
  obtain ⟨lq, ⟨c0, c1, c2, c3, c4, c5⟩, -⟩ := GD1.out.all
  clear hb1  
  go_wp2_with fail
  clear c0 c1 c2 c3 c4 c5
  refine (specWL_any d0 _).mono ?_
  rintro e w2 ⟨r0, rfl, O2, hb2⟩
  have q2 := below_to hb2 q1 q1.size rfl rfl rfl rfl
  have GD2 := hide (GD1.out.below rfl hb2)
  obtain ⟨lq, ⟨c0, c1, c2, c3, c4, c5⟩, -⟩ := GD2.out.all
  have zs2 := hb2.size
  rw [← HZ.out] at O2
  rw [← HOK.out]
  have HO2 := hide (O2)
  clear hb2 GD1 q1 O2
  go_wp2_with fail
  clear c0 c1 c2 c3 c4 c5
  refine (toDie_any d0 _).mono ?_
  rintro e w3 ⟨rfl, hb3⟩
  have q3 := below_to hb3 q2 q2.size rfl rfl rfl rfl
  have HO3 := hide (own_to hb3 HO2.out rfl)
  have GD3 := hide (GD2.out.below rfl hb3)
  obtain ⟨lq, ⟨c0, c1, c2, c3, c4, c5⟩, -⟩ := GD3.out.all
  have zs3 := hb3.size
  clear hb3 HO2 GD2 q2 
  have hltO := hide (fun g hg => (HO3.out.lt g hg).2)
  have hltD := hide GD3.out.lt
  have hsq : w.heap.size ≤ _ := q3.size
  go_wp2_with fail
  clear c0 c1 c2 c3 c4 c5
  refine (implWL_any d0 _).mono ?_
  rintro e w4 ⟨r1, rfl, O4, hb4⟩
  have q4 := below_to hb4 q3 q3.size rfl rfl rfl rfl
  have HO4 := hide (own_to hb4 HO3.out rfl)
  have GD4 := hide (GD3.out.below rfl hb4)
  obtain ⟨lq, ⟨c0, c1, c2, c3, c4, c5⟩, -⟩ := GD4.out.all
  have zs4 := hb4.size
  rw [← HZ.out] at O4
  rw [← HOK.out]
  have HG4 := hide (O4)
  clear hb4 HO3 GD3 q3 O4
  go_wp2_with fail
  clear c0 c1 c2 c3 c4 c5
  refine (eqDieS_any r1 r0 Z.length _ _ Z _ (by have := hlen.out; omega) HG4.out HO4.out).mono ?_
  rintro e w5 ⟨rfl, hb5⟩
  have q5 := below_to hb5 q4 q4.size rfl rfl rfl rfl
  have HG5 := hide (own_to hb5 HG4.out rfl)
  have HO5 := hide (own_to hb5 HO4.out rfl)
  have GD5 := hide (GD4.out.below rfl hb5)
  obtain ⟨lq, ⟨c0, c1, c2, c3, c4, c5⟩, -⟩ := GD5.out.all
  have zs5 := hb5.size
  clear hb5 HG4 HO4 GD4 q4 
  go_wp2_with fail
  clear c0 c1 c2 c3 c4 c5
  refine (markDieS_any r1 Z.length _ Z 1 _ (by have := hlen.out; omega) (by omega) HG5.out).mono ?_
  rintro e w6 ⟨rfl, G6, hb6⟩
  rw [← HN.out]
  have GD6 := hide (isD_below hb6 GD5.out hltD.out)
  obtain ⟨lq, ⟨c0, c1, c2, c3, c4, c5⟩, -⟩ := GD6.out.all
  have q6 := q5.trans (hb6.mono hsq)
  have HO6 := hide (own_below hb6 HO5.out hltO.out)
  have HG6 := hide G6
  clear hb6 G6 q5 HO5 HG5 GD5
  go_wp2_with fail
  clear c0 c1 c2 c3 c4 c5
  refine (heldDieS_any r1 Z.length _ 1 _ (by have := hlen.out; omega) (by omega) HG6.out).mono ?_
  rintro e w' ⟨rfl, rfl⟩
  obtain ⟨lq, ⟨c0, c1, c2, c3, c4, c5⟩, -⟩ := GD6.out.all
  rw [← HN.out]
  go_wp2_with fail
  clear c0 c1 c2 c3 c4 c5
  refine (toDie_any d0 _).mono ?_
  rintro e w7 ⟨rfl, hb7⟩
  have q7 := below_to hb7 q6 q6.size rfl rfl rfl rfl
  have HG7 := hide (own_to hb7 HG6.out rfl)
  have HO7 := hide (own_to hb7 HO6.out rfl)
  have GD7 := hide (GD6.out.below rfl hb7)
  obtain ⟨lq, ⟨c0, c1, c2, c3, c4, c5⟩, -⟩ := GD7.out.all
  have zs7 := hb7.size
  clear hb7 HG6 HO6 GD6 q6 
  go_wp2_with fail
  clear c0 c1 c2 c3 c4 c5
  refine (implWL_any d0 _).mono ?_
  rintro e w8 ⟨r2, rfl, O8, hb8⟩
  have q8 := below_to hb8 q7 q7.size rfl rfl rfl rfl
  have HG8 := hide (own_to hb8 HG7.out rfl)
  have HO8 := hide (own_to hb8 HO7.out rfl)
  have GD8 := hide (GD7.out.below rfl hb8)
  obtain ⟨lq, ⟨c0, c1, c2, c3, c4, c5⟩, -⟩ := GD8.out.all
  have zs8 := hb8.size
  rw [← HZ.out] at O8
  rw [← HOK.out]
  have HH8 := hide (O8)
  clear hb8 HG7 HO7 GD7 q7 O8
  go_wp2_with fail
  clear c0 c1 c2 c3 c4 c5
  refine (eqDieS_any r2 r0 Z.length _ _ Z _ (by have := hlen.out; omega) HH8.out HO8.out).mono ?_
  rintro e w9 ⟨rfl, hb9⟩
  have q9 := below_to hb9 q8 q8.size rfl rfl rfl rfl
  have HG9 := hide (own_to hb9 HG8.out rfl)
  have HH9 := hide (own_to hb9 HH8.out rfl)
  have HO9 := hide (own_to hb9 HO8.out rfl)
  have GD9 := hide (GD8.out.below rfl hb9)
  obtain ⟨lq, ⟨c0, c1, c2, c3, c4, c5⟩, -⟩ := GD9.out.all
  have zs9 := hb9.size
  clear hb9 HG8 HH8 HO8 GD8 q8 
  go_wp2_with fail
  clear c0 c1 c2 c3 c4 c5
  refine (heldDieS_any r1 Z.length _ 1 _ (by have := hlen.out; omega) (by omega) HG9.out).mono ?_
  rintro e w' ⟨rfl, rfl⟩
  obtain ⟨lq, ⟨c0, c1, c2, c3, c4, c5⟩, -⟩ := GD9.out.all
  rw [← HN.out]
  go_wp2
  go_returns
  exact ⟨rfl, q9⟩
end Go.Proofs.YtajabbbokhhekaaDoor
