/- The walk of the law of PuzzleText. -/
import Derived.Test.YtgehcjmhgfhkdaaDoorPzText
namespace Go.Proofs.YtgehcjmhgfhkdaaDoor
set_option maxRecDepth 100000
set_option linter.all false
open Go.RowKit

set_option maxHeartbeats 3200000 in
theorem walk_PuzzleText (x0 : Pz) (hx0 : x0.b.size ≤ maxLen) (w : World) (hg : Glob w) : Calls Tryd.prog 8 #[Pz.v x0] w fun e w' => e = .returned (.bool true) ∧ Below w.heap.size w w' := by
  have q0 : Below w.heap.size w (w.alloc (.cells #[.string x0.b, .int .i64 x0.s.x, .int .i64 x0.s.y, .int .i64 x0.s.d.t, .int .i64 x0.s.d.n, .int .i64 x0.s.d.e, .int .i64 x0.s.d.s, .int .i64 x0.s.d.w, .int .i64 x0.s.d.b, .int .i64 x0.x, .int .i64 x0.y, .int .i64 x0.t] 27)) := by go_grown
  have HGL := hide (show Glob (w.alloc (.cells #[.string x0.b, .int .i64 x0.s.x, .int .i64 x0.s.y, .int .i64 x0.s.d.t, .int .i64 x0.s.d.n, .int .i64 x0.s.d.e, .int .i64 x0.s.d.s, .int .i64 x0.s.d.w, .int .i64 x0.s.d.b, .int .i64 x0.x, .int .i64 x0.y, .int .i64 x0.t] 27)) from glob_to (w0 := w) q0 hg rfl)
  have X0 : IsPz (w.alloc (.cells #[.string x0.b, .int .i64 x0.s.x, .int .i64 x0.s.y, .int .i64 x0.s.d.t, .int .i64 x0.s.d.n, .int .i64 x0.s.d.e, .int .i64 x0.s.d.s, .int .i64 x0.s.d.w, .int .i64 x0.s.d.b, .int .i64 x0.x, .int .i64 x0.y, .int .i64 x0.t] 27)) w.heap.size x0 27 := IsPz.new
  generalize hW : (w.alloc (.cells #[.string x0.b, .int .i64 x0.s.x, .int .i64 x0.s.y, .int .i64 x0.s.d.t, .int .i64 x0.s.d.n, .int .i64 x0.s.d.e, .int .i64 x0.s.d.s, .int .i64 x0.s.d.w, .int .i64 x0.s.d.b, .int .i64 x0.x, .int .i64 x0.y, .int .i64 x0.t] 27)) = W0 at q0 HGL X0
  have HW := hide hW
  clear hW hg
  by_cases h0 : x0.b.size ≤ 1048576
  · have HS0 := hide h0
    obtain ⟨z0, hz0⟩ : ∃ z, z = ptS x0 := ⟨_, rfl⟩
    have HZ0 := hide hz0
    clear hz0
    have e0 : (z0.toList != z0.toList) = false := by simp
    obtain ⟨z1, hz1⟩ : ∃ z, z = pzB x0 := ⟨_, rfl⟩
    have HZ1 := hide hz1
    clear hz1
    have e1 : (z1 != z1) = false := by simp
    have HSZ := hide (fun wx => szPuzzle_yes x0 wx h0)
    have hsz2 : ¬ (1048576 - (x0.b.size : Int)) < 0 := by omega
    generalize 1048576 - (x0.b.size : Int) = left at HSZ hsz2
    clear h0
    obtain ⟨l_0, ⟨c_0_0, c_0_1, c_0_2, c_0_3, c_0_4, c_0_5, c_0_6, c_0_7, c_0_8, c_0_9, c_0_10, c_0_11⟩, -⟩ := X0.all
    go_enter Tryd.func8, Tryd.ntmps8
    go_wp2_with fail
    rw [HW.out]
    refine (HSZ.out _).mono ?_
    rintro e w1 ⟨rfl, hb1⟩
    have Y_X0_1 := isPz_to hb1 X0 rfl
    have qb_1 := below_to hb1 q0 q0.size rfl rfl rfl rfl
    have Gb_1 := hide (glob_to hb1 HGL.out rfl)
    clear hb1
    clear l_0 c_0_0 c_0_1 c_0_2 c_0_3 c_0_4 c_0_5 c_0_6 c_0_7 c_0_8 c_0_9 c_0_10 c_0_11
    obtain ⟨l_2, ⟨c_2_0, c_2_1, c_2_2, c_2_3, c_2_4, c_2_5, c_2_6, c_2_7, c_2_8, c_2_9, c_2_10, c_2_11⟩, -⟩ := Y_X0_1.all
    go_wp2_with fail
    refine (toPuzzle_any x0 _).mono ?_
    rintro e w3 ⟨rfl, hb3⟩
    have Y_X0_3 := isPz_to hb3 Y_X0_1 rfl
    have qb_3 := below_to hb3 qb_1 qb_1.size rfl rfl rfl rfl
    have Gb_3 := hide (glob_to hb3 Gb_1.out rfl)
    clear hb3
    clear l_2 c_2_0 c_2_1 c_2_2 c_2_3 c_2_4 c_2_5 c_2_6 c_2_7 c_2_8 c_2_9 c_2_10 c_2_11
    obtain ⟨l_4, ⟨c_4_0, c_4_1, c_4_2, c_4_3, c_4_4, c_4_5, c_4_6, c_4_7, c_4_8, c_4_9, c_4_10, c_4_11⟩, -⟩ := Y_X0_3.all
    go_wp2_with fail
    refine (specPT_any x0 _ HS0.out).mono ?_
    rintro e w5 ⟨rfl, hb5⟩
    have Y_X0_5 := isPz_to hb5 Y_X0_3 rfl
    have qb_5 := below_to hb5 qb_3 qb_3.size rfl rfl rfl rfl
    have Gb_5 := hide (glob_to hb5 Gb_3.out rfl)
    clear hb5
    clear l_4 c_4_0 c_4_1 c_4_2 c_4_3 c_4_4 c_4_5 c_4_6 c_4_7 c_4_8 c_4_9 c_4_10 c_4_11
    obtain ⟨l_6, ⟨c_6_0, c_6_1, c_6_2, c_6_3, c_6_4, c_6_5, c_6_6, c_6_7, c_6_8, c_6_9, c_6_10, c_6_11⟩, -⟩ := Y_X0_5.all
    rw [← HZ0.out, ← HZ1.out]
    go_wp2_with fail
    refine (toPuzzle_any x0 _).mono ?_
    rintro e w7 ⟨rfl, hb7⟩
    have Y_X0_7 := isPz_to hb7 Y_X0_5 rfl
    have qb_7 := below_to hb7 qb_5 qb_5.size rfl rfl rfl rfl
    have Gb_7 := hide (glob_to hb7 Gb_5.out rfl)
    clear hb7
    clear l_6 c_6_0 c_6_1 c_6_2 c_6_3 c_6_4 c_6_5 c_6_6 c_6_7 c_6_8 c_6_9 c_6_10 c_6_11
    obtain ⟨l_8, ⟨c_8_0, c_8_1, c_8_2, c_8_3, c_8_4, c_8_5, c_8_6, c_8_7, c_8_8, c_8_9, c_8_10, c_8_11⟩, -⟩ := Y_X0_7.all
    go_wp2_with fail
    refine (implPT_any x0 _ HS0.out Gb_7.out).mono ?_
    rintro e w9 ⟨rfl, hb9⟩
    have Y_X0_9 := isPz_to hb9 Y_X0_7 rfl
    have qb_9 := below_to hb9 qb_7 qb_7.size rfl rfl rfl rfl
    have Gb_9 := hide (glob_to hb9 Gb_7.out rfl)
    clear hb9
    clear l_8 c_8_0 c_8_1 c_8_2 c_8_3 c_8_4 c_8_5 c_8_6 c_8_7 c_8_8 c_8_9 c_8_10 c_8_11
    obtain ⟨l_10, ⟨c_10_0, c_10_1, c_10_2, c_10_3, c_10_4, c_10_5, c_10_6, c_10_7, c_10_8, c_10_9, c_10_10, c_10_11⟩, -⟩ := Y_X0_9.all
    rw [← HZ0.out, ← HZ1.out]
    go_wp2
    go_returns
    exact ⟨rfl, qb_9⟩
  · have HSZ := hide (fun wx => szPuzzle_no x0 wx hx0 h0)
    clear h0
    obtain ⟨l_0, ⟨c_0_0, c_0_1, c_0_2, c_0_3, c_0_4, c_0_5, c_0_6, c_0_7, c_0_8, c_0_9, c_0_10, c_0_11⟩, -⟩ := X0.all
    go_enter Tryd.func8, Tryd.ntmps8
    go_wp2_with fail
    rw [HW.out]
    refine (HSZ.out _).mono ?_
    rintro e w1 ⟨rfl, hb1⟩
    have q1 := below_to hb1 q0 q0.size rfl rfl rfl rfl
    clear hb1
    go_wp2
    go_returns
    exact ⟨rfl, q1⟩
end Go.Proofs.YtgehcjmhgfhkdaaDoor
