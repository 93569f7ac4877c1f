/- The walk of the law of TurnPuzzle. -/
import Derived.Test.YtgehcjmhgfhkdaaDoorPzTurnS
namespace Go.Proofs.YtgehcjmhgfhkdaaDoor
set_option maxRecDepth 100000
set_option linter.all false
open Go.RowKit

set_option maxHeartbeats 3200000 in
theorem walk_TurnPuzzle (x0 : Pz) (hx0 : x0.b.size ≤ maxLen) (w : World) (hg : Glob w) : Calls Tryd.prog 7 #[Pz.v x0] w fun e w' => e = .returned (.bool true) ∧ Below w.heap.size w w' := by
  have q0 : Below w.heap.size w (w.alloc (.cells #[.string x0.b, .int .i64 x0.s.x, .int .i64 x0.s.y, .int .i64 x0.s.d.t, .int .i64 x0.s.d.n, .int .i64 x0.s.d.e, .int .i64 x0.s.d.s, .int .i64 x0.s.d.w, .int .i64 x0.s.d.b, .int .i64 x0.x, .int .i64 x0.y, .int .i64 x0.t] 27)) := by go_grown
  have HGL := hide (show Glob (w.alloc (.cells #[.string x0.b, .int .i64 x0.s.x, .int .i64 x0.s.y, .int .i64 x0.s.d.t, .int .i64 x0.s.d.n, .int .i64 x0.s.d.e, .int .i64 x0.s.d.s, .int .i64 x0.s.d.w, .int .i64 x0.s.d.b, .int .i64 x0.x, .int .i64 x0.y, .int .i64 x0.t] 27)) from glob_to (w0 := w) q0 hg rfl)
  have X0 : IsPz (w.alloc (.cells #[.string x0.b, .int .i64 x0.s.x, .int .i64 x0.s.y, .int .i64 x0.s.d.t, .int .i64 x0.s.d.n, .int .i64 x0.s.d.e, .int .i64 x0.s.d.s, .int .i64 x0.s.d.w, .int .i64 x0.s.d.b, .int .i64 x0.x, .int .i64 x0.y, .int .i64 x0.t] 27)) w.heap.size x0 27 := IsPz.new
  generalize hW : (w.alloc (.cells #[.string x0.b, .int .i64 x0.s.x, .int .i64 x0.s.y, .int .i64 x0.s.d.t, .int .i64 x0.s.d.n, .int .i64 x0.s.d.e, .int .i64 x0.s.d.s, .int .i64 x0.s.d.w, .int .i64 x0.s.d.b, .int .i64 x0.x, .int .i64 x0.y, .int .i64 x0.t] 27)) = W0 at q0 HGL X0
  have HW := hide hW
  clear hW hg
  by_cases h0 : x0.b.size ≤ 1048576
  · have HS0 := hide h0
    obtain ⟨z0, hz0⟩ : ∃ z, z = tpP x0 := ⟨_, rfl⟩
    have HZ0 := hide hz0
    clear hz0
    obtain ⟨z1, hz1⟩ : ∃ z, z = pzB x0 := ⟨_, rfl⟩
    have HZ1 := hide hz1
    clear hz1
    have e1 : (z1 != z1) = false := by simp
    have HSZ := hide (fun wx => szPuzzle_yes x0 wx h0)
    have hsz2 : ¬ (1048576 - (x0.b.size : Int)) < 0 := by omega
    generalize 1048576 - (x0.b.size : Int) = left at HSZ hsz2
    clear h0
    obtain ⟨l_0, ⟨c_0_0, c_0_1, c_0_2, c_0_3, c_0_4, c_0_5, c_0_6, c_0_7, c_0_8, c_0_9, c_0_10, c_0_11⟩, -⟩ := X0.all
    go_enter Tryd.func7, Tryd.ntmps7
    go_wp2_with fail
    rw [HW.out]
    refine (HSZ.out _).mono ?_
    rintro e w1 ⟨rfl, hb1⟩
    have Y_X0_1 := isPz_to hb1 X0 rfl
    have qb_1 := below_to hb1 q0 q0.size rfl rfl rfl rfl
    have Gb_1 := hide (glob_to hb1 HGL.out rfl)
    clear hb1
    clear l_0 c_0_0 c_0_1 c_0_2 c_0_3 c_0_4 c_0_5 c_0_6 c_0_7 c_0_8 c_0_9 c_0_10 c_0_11
    obtain ⟨l_2, ⟨c_2_0, c_2_1, c_2_2, c_2_3, c_2_4, c_2_5, c_2_6, c_2_7, c_2_8, c_2_9, c_2_10, c_2_11⟩, -⟩ := Y_X0_1.all
    go_wp2_with fail
    refine (toPuzzle_any x0 _).mono ?_
    rintro e w3 ⟨rfl, hb3⟩
    have Y_X0_3 := isPz_to hb3 Y_X0_1 rfl
    have qb_3 := below_to hb3 qb_1 qb_1.size rfl rfl rfl rfl
    have Gb_3 := hide (glob_to hb3 Gb_1.out rfl)
    clear hb3
    clear l_2 c_2_0 c_2_1 c_2_2 c_2_3 c_2_4 c_2_5 c_2_6 c_2_7 c_2_8 c_2_9 c_2_10 c_2_11
    obtain ⟨l_4, ⟨c_4_0, c_4_1, c_4_2, c_4_3, c_4_4, c_4_5, c_4_6, c_4_7, c_4_8, c_4_9, c_4_10, c_4_11⟩, -⟩ := Y_X0_3.all
    go_wp2_with fail
    refine (specTP_any x0 _ HS0.out).mono ?_
    rintro e w5 ⟨rfl, hb5⟩
    have Y_X0_5 := isPz_to hb5 Y_X0_3 rfl
    have qb_5 := below_to hb5 qb_3 qb_3.size rfl rfl rfl rfl
    have Gb_5 := hide (glob_to hb5 Gb_3.out rfl)
    clear hb5
    clear l_4 c_4_0 c_4_1 c_4_2 c_4_3 c_4_4 c_4_5 c_4_6 c_4_7 c_4_8 c_4_9 c_4_10 c_4_11
    obtain ⟨l_6, ⟨c_6_0, c_6_1, c_6_2, c_6_3, c_6_4, c_6_5, c_6_6, c_6_7, c_6_8, c_6_9, c_6_10, c_6_11⟩, -⟩ := Y_X0_5.all
    rw [← HZ0.out, ← HZ1.out]
    go_wp2_with fail
    clear l_6 c_6_0 c_6_1 c_6_2 c_6_3 c_6_4 c_6_5 c_6_6 c_6_7 c_6_8 c_6_9 c_6_10 c_6_11
    have A_X0_7 := Y_X0_5.alloc (.cells #[.string z0.b, .int .i64 z0.s.x, .int .i64 z0.s.y, .int .i64 z0.s.d.t, .int .i64 z0.s.d.n, .int .i64 z0.s.d.e, .int .i64 z0.s.d.s, .int .i64 z0.s.d.w, .int .i64 z0.s.d.b, .int .i64 z0.x, .int .i64 z0.y, .int .i64 z0.t] 34)
    have V_7 : IsPz (w5.alloc (.cells #[.string z0.b, .int .i64 z0.s.x, .int .i64 z0.s.y, .int .i64 z0.s.d.t, .int .i64 z0.s.d.n, .int .i64 z0.s.d.e, .int .i64 z0.s.d.s, .int .i64 z0.s.d.w, .int .i64 z0.s.d.b, .int .i64 z0.x, .int .i64 z0.y, .int .i64 z0.t] 34)) w5.heap.size z0 34 := IsPz.new
    have qa_7 := qb_5.alloc qb_5.size (.cells #[.string z0.b, .int .i64 z0.s.x, .int .i64 z0.s.y, .int .i64 z0.s.d.t, .int .i64 z0.s.d.n, .int .i64 z0.s.d.e, .int .i64 z0.s.d.s, .int .i64 z0.s.d.w, .int .i64 z0.s.d.b, .int .i64 z0.x, .int .i64 z0.y, .int .i64 z0.t] 34)
    have Ga_7 := hide (show Glob (w5.alloc (.cells #[.string z0.b, .int .i64 z0.s.x, .int .i64 z0.s.y, .int .i64 z0.s.d.t, .int .i64 z0.s.d.n, .int .i64 z0.s.d.e, .int .i64 z0.s.d.s, .int .i64 z0.s.d.w, .int .i64 z0.s.d.b, .int .i64 z0.x, .int .i64 z0.y, .int .i64 z0.t] 34)) from glob_to (w0 := w5) ((Below.refl _ _).alloc (Nat.le_refl _) _) Gb_5.out rfl)
    generalize w5.alloc (.cells #[.string z0.b, .int .i64 z0.s.x, .int .i64 z0.s.y, .int .i64 z0.s.d.t, .int .i64 z0.s.d.n, .int .i64 z0.s.d.e, .int .i64 z0.s.d.s, .int .i64 z0.s.d.w, .int .i64 z0.s.d.b, .int .i64 z0.x, .int .i64 z0.y, .int .i64 z0.t] 34) = Wa_7 at A_X0_7 V_7 qa_7 Ga_7 ⊢
    generalize w5.heap.size = ba_7 at V_7 ⊢
    refine (toPuzzle_any x0 _).mono ?_
    rintro e w8 ⟨rfl, hb8⟩
    have Y_X0_8 := isPz_to hb8 A_X0_7 rfl
    have Y_V7_8 := isPz_to hb8 V_7 rfl
    have qb_8 := below_to hb8 qa_7 qa_7.size rfl rfl rfl rfl
    have Gb_8 := hide (glob_to hb8 Ga_7.out rfl)
    clear hb8
    obtain ⟨l_9, ⟨c_9_0, c_9_1, c_9_2, c_9_3, c_9_4, c_9_5, c_9_6, c_9_7, c_9_8, c_9_9, c_9_10, c_9_11⟩, -⟩ := Y_X0_8.all
    obtain ⟨l_10, ⟨c_10_0, c_10_1, c_10_2, c_10_3, c_10_4, c_10_5, c_10_6, c_10_7, c_10_8, c_10_9, c_10_10, c_10_11⟩, -⟩ := Y_V7_8.all
    go_wp2_with fail
    refine (implTP_any x0 _ HS0.out Gb_8.out).mono ?_
    rintro e w11 ⟨rfl, hb11⟩
    have Y_X0_11 := isPz_to hb11 Y_X0_8 rfl
    have Y_V7_11 := isPz_to hb11 Y_V7_8 rfl
    have qb_11 := below_to hb11 qb_8 qb_8.size rfl rfl rfl rfl
    have Gb_11 := hide (glob_to hb11 Gb_8.out rfl)
    clear hb11
    clear l_9 c_9_0 c_9_1 c_9_2 c_9_3 c_9_4 c_9_5 c_9_6 c_9_7 c_9_8 c_9_9 c_9_10 c_9_11
    clear l_10 c_10_0 c_10_1 c_10_2 c_10_3 c_10_4 c_10_5 c_10_6 c_10_7 c_10_8 c_10_9 c_10_10 c_10_11
    obtain ⟨l_12, ⟨c_12_0, c_12_1, c_12_2, c_12_3, c_12_4, c_12_5, c_12_6, c_12_7, c_12_8, c_12_9, c_12_10, c_12_11⟩, -⟩ := Y_X0_11.all
    obtain ⟨l_13, ⟨c_13_0, c_13_1, c_13_2, c_13_3, c_13_4, c_13_5, c_13_6, c_13_7, c_13_8, c_13_9, c_13_10, c_13_11⟩, -⟩ := Y_V7_11.all
    rw [← HZ0.out, ← HZ1.out]
    go_wp2_with fail
    clear l_12 c_12_0 c_12_1 c_12_2 c_12_3 c_12_4 c_12_5 c_12_6 c_12_7 c_12_8 c_12_9 c_12_10 c_12_11
    clear l_13 c_13_0 c_13_1 c_13_2 c_13_3 c_13_4 c_13_5 c_13_6 c_13_7 c_13_8 c_13_9 c_13_10 c_13_11
    have A_X0_14 := Y_X0_11.alloc (.cells #[.string z0.b, .int .i64 z0.s.x, .int .i64 z0.s.y, .int .i64 z0.s.d.t, .int .i64 z0.s.d.n, .int .i64 z0.s.d.e, .int .i64 z0.s.d.s, .int .i64 z0.s.d.w, .int .i64 z0.s.d.b, .int .i64 z0.x, .int .i64 z0.y, .int .i64 z0.t] 34)
    have A_V7_14 := Y_V7_11.alloc (.cells #[.string z0.b, .int .i64 z0.s.x, .int .i64 z0.s.y, .int .i64 z0.s.d.t, .int .i64 z0.s.d.n, .int .i64 z0.s.d.e, .int .i64 z0.s.d.s, .int .i64 z0.s.d.w, .int .i64 z0.s.d.b, .int .i64 z0.x, .int .i64 z0.y, .int .i64 z0.t] 34)
    have V_14 : IsPz (w11.alloc (.cells #[.string z0.b, .int .i64 z0.s.x, .int .i64 z0.s.y, .int .i64 z0.s.d.t, .int .i64 z0.s.d.n, .int .i64 z0.s.d.e, .int .i64 z0.s.d.s, .int .i64 z0.s.d.w, .int .i64 z0.s.d.b, .int .i64 z0.x, .int .i64 z0.y, .int .i64 z0.t] 34)) w11.heap.size z0 34 := IsPz.new
    have qa_14 := qb_11.alloc qb_11.size (.cells #[.string z0.b, .int .i64 z0.s.x, .int .i64 z0.s.y, .int .i64 z0.s.d.t, .int .i64 z0.s.d.n, .int .i64 z0.s.d.e, .int .i64 z0.s.d.s, .int .i64 z0.s.d.w, .int .i64 z0.s.d.b, .int .i64 z0.x, .int .i64 z0.y, .int .i64 z0.t] 34)
    have Ga_14 := hide (show Glob (w11.alloc (.cells #[.string z0.b, .int .i64 z0.s.x, .int .i64 z0.s.y, .int .i64 z0.s.d.t, .int .i64 z0.s.d.n, .int .i64 z0.s.d.e, .int .i64 z0.s.d.s, .int .i64 z0.s.d.w, .int .i64 z0.s.d.b, .int .i64 z0.x, .int .i64 z0.y, .int .i64 z0.t] 34)) from glob_to (w0 := w11) ((Below.refl _ _).alloc (Nat.le_refl _) _) Gb_11.out rfl)
    generalize w11.alloc (.cells #[.string z0.b, .int .i64 z0.s.x, .int .i64 z0.s.y, .int .i64 z0.s.d.t, .int .i64 z0.s.d.n, .int .i64 z0.s.d.e, .int .i64 z0.s.d.s, .int .i64 z0.s.d.w, .int .i64 z0.s.d.b, .int .i64 z0.x, .int .i64 z0.y, .int .i64 z0.t] 34) = Wa_14 at A_X0_14 A_V7_14 V_14 qa_14 Ga_14 ⊢
    generalize w11.heap.size = ba_14 at V_14 ⊢
    refine (eqPuzzle_self z0 _).mono ?_
    rintro e w15 ⟨rfl, hb15⟩
    have Y_X0_15 := isPz_to hb15 A_X0_14 rfl
    have Y_V7_15 := isPz_to hb15 A_V7_14 rfl
    have Y_V14_15 := isPz_to hb15 V_14 rfl
    have qb_15 := below_to hb15 qa_14 qa_14.size rfl rfl rfl rfl
    have Gb_15 := hide (glob_to hb15 Ga_14.out rfl)
    clear hb15
    obtain ⟨l_16, ⟨c_16_0, c_16_1, c_16_2, c_16_3, c_16_4, c_16_5, c_16_6, c_16_7, c_16_8, c_16_9, c_16_10, c_16_11⟩, -⟩ := Y_X0_15.all
    obtain ⟨l_17, ⟨c_17_0, c_17_1, c_17_2, c_17_3, c_17_4, c_17_5, c_17_6, c_17_7, c_17_8, c_17_9, c_17_10, c_17_11⟩, -⟩ := Y_V7_15.all
    obtain ⟨l_18, ⟨c_18_0, c_18_1, c_18_2, c_18_3, c_18_4, c_18_5, c_18_6, c_18_7, c_18_8, c_18_9, c_18_10, c_18_11⟩, -⟩ := Y_V14_15.all
    go_wp2
    go_returns
    exact ⟨rfl, qb_15⟩
  · have HSZ := hide (fun wx => szPuzzle_no x0 wx hx0 h0)
    clear h0
    obtain ⟨l_0, ⟨c_0_0, c_0_1, c_0_2, c_0_3, c_0_4, c_0_5, c_0_6, c_0_7, c_0_8, c_0_9, c_0_10, c_0_11⟩, -⟩ := X0.all
    go_enter Tryd.func7, Tryd.ntmps7
    go_wp2_with fail
    rw [HW.out]
    refine (HSZ.out _).mono ?_
    rintro e w1 ⟨rfl, hb1⟩
    have q1 := below_to hb1 q0 q0.size rfl rfl rfl rfl
    clear hb1
    go_wp2
    go_returns
    exact ⟨rfl, q1⟩
end Go.Proofs.YtgehcjmhgfhkdaaDoor
