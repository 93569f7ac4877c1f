/- The walk of the law of ReplayOf. -/
import Derived.Test.YtgehcjmhgfhkdaaDoorPzRepS
namespace Go.Proofs.YtgehcjmhgfhkdaaDoor
set_option maxRecDepth 100000
set_option linter.all false
open Go.RowKit

set_option maxHeartbeats 3200000 in
theorem walk_ReplayOf (x0 : Pz) (hx0 : x0.b.size ≤ maxLen) (v1 : ByteArray) (hv1 : v1.size ≤ maxLen) (w : World) (hg : Glob w) : Calls Tryd.prog 5 #[Pz.v x0, .string v1] w fun e w' => e = .returned (.bool true) ∧ Below w.heap.size w w' := by
  have HGW := hide hg
  have q0 : Below w.heap.size w (w.alloc (.cells #[.string x0.b, .int .i64 x0.s.x, .int .i64 x0.s.y, .int .i64 x0.s.d.t, .int .i64 x0.s.d.n, .int .i64 x0.s.d.e, .int .i64 x0.s.d.s, .int .i64 x0.s.d.w, .int .i64 x0.s.d.b, .int .i64 x0.x, .int .i64 x0.y, .int .i64 x0.t] 27)) := by go_grown
  have HGL := hide (show Glob (w.alloc (.cells #[.string x0.b, .int .i64 x0.s.x, .int .i64 x0.s.y, .int .i64 x0.s.d.t, .int .i64 x0.s.d.n, .int .i64 x0.s.d.e, .int .i64 x0.s.d.s, .int .i64 x0.s.d.w, .int .i64 x0.s.d.b, .int .i64 x0.x, .int .i64 x0.y, .int .i64 x0.t] 27)) from glob_to (w0 := w) q0 hg rfl)
  have X0 : IsPz (w.alloc (.cells #[.string x0.b, .int .i64 x0.s.x, .int .i64 x0.s.y, .int .i64 x0.s.d.t, .int .i64 x0.s.d.n, .int .i64 x0.s.d.e, .int .i64 x0.s.d.s, .int .i64 x0.s.d.w, .int .i64 x0.s.d.b, .int .i64 x0.x, .int .i64 x0.y, .int .i64 x0.t] 27)) w.heap.size x0 27 := IsPz.new
  generalize hW : (w.alloc (.cells #[.string x0.b, .int .i64 x0.s.x, .int .i64 x0.s.y, .int .i64 x0.s.d.t, .int .i64 x0.s.d.n, .int .i64 x0.s.d.e, .int .i64 x0.s.d.s, .int .i64 x0.s.d.w, .int .i64 x0.s.d.b, .int .i64 x0.x, .int .i64 x0.y, .int .i64 x0.t] 27)) = W0 at q0 HGL X0
  have HW := hide hW
  clear hW hg
  by_cases h1 : v1.size ≤ 1048576
  · have HS1 := hide h1
    by_cases h0 : x0.b.size ≤ 1048576
    · have HS0 := hide h0
      have hlen := hide (show (rpL x0 v1.data.toList).length ≤ 100000 from by rw [rpL_len]; have := (WL_len x0 v1.data.toList).2; omega)
      obtain ⟨Z, hZ⟩ : ∃ Z, Z = rpL x0 v1.data.toList := ⟨_, rfl⟩
      have HZ := hide hZ
      clear hZ
      rw [← HZ.out] at hlen
      obtain ⟨ok, hok⟩ : ∃ ok, ok = wb x0 v1.data.toList := ⟨_, rfl⟩
      have HOK := hide hok
      clear hok
      have e1 : (ok != ok) = false := by simp
      obtain ⟨N, hN⟩ : ∃ N : Int, N = ((Z.length : Nat) : Int) := ⟨_, rfl⟩
      have n1 : ¬ (1 + N < 0) := by omega
      have n2 : ((1 + N) != (1 + N)) = false := by simp
      have HN := hide hN
      clear hN
      have HSZ := hide (fun wx => szPuzzle_yes x0 wx h0)
      have hsz2 : ¬ (1048576 - (x0.b.size : Int)) < 0 := by omega
      generalize 1048576 - (x0.b.size : Int) = left at HSZ hsz2
      clear h0
      obtain ⟨l_0, ⟨c_0_0, c_0_1, c_0_2, c_0_3, c_0_4, c_0_5, c_0_6, c_0_7, c_0_8, c_0_9, c_0_10, c_0_11⟩, -⟩ := X0.all
      go_enter Tryd.func5, Tryd.ntmps5
      go_wp2_with fail
      rw [HW.out]
      refine (HSZ.out _).mono ?_
      rintro e w1 ⟨rfl, hb1⟩
      have X1 := isPz_to hb1 X0 rfl
      have q1 := below_to hb1 q0 q0.size rfl rfl rfl rfl
      have G1 := hide (glob_to hb1 HGL.out rfl)
      clear hb1 c_0_0 c_0_1 c_0_2 c_0_3 c_0_4 c_0_5 c_0_6 c_0_7 c_0_8 c_0_9 c_0_10 c_0_11 l_0 X0 q0
      obtain ⟨l_1, ⟨c_1_0, c_1_1, c_1_2, c_1_3, c_1_4, c_1_5, c_1_6, c_1_7, c_1_8, c_1_9, c_1_10, c_1_11⟩, -⟩ := X1.all
      go_wp2_with fail
      refine (toPuzzle_any x0 _).mono ?_
      rintro e w2 ⟨rfl, hb2⟩
      have X2 := isPz_to hb2 X1 rfl
      have q2 := below_to hb2 q1 q1.size rfl rfl rfl rfl
      have G2 := hide (glob_to hb2 G1.out rfl)
      clear hb2 c_1_0 c_1_1 c_1_2 c_1_3 c_1_4 c_1_5 c_1_6 c_1_7 c_1_8 c_1_9 c_1_10 c_1_11 l_1 X1 q1
      go_wp2_with fail
      refine (specRP_any x0 v1 _ HS0.out HS1.out).mono ?_
      rintro e w3 ⟨r0, rfl, O3, hb3⟩
      rw [← HZ.out] at O3
      rw [← HOK.out]
      have HO3 := hide O3
      have X3 := isPz_to hb3 X2 rfl
      have q3 := below_to hb3 q2 q2.size rfl rfl rfl rfl
      have G3 := hide (glob_to hb3 G2.out rfl)
      have hle3 : w.heap.size ≤ w2.heap.size := q2.size
      clear hb3 O3 X2 q2
      obtain ⟨l_3, ⟨c_3_0, c_3_1, c_3_2, c_3_3, c_3_4, c_3_5, c_3_6, c_3_7, c_3_8, c_3_9, c_3_10, c_3_11⟩, -⟩ := X3.all
      go_wp2_with fail
      refine (toPuzzle_any x0 _).mono ?_
      rintro e w4 ⟨rfl, hb4⟩
      have X4 := isPz_to hb4 X3 rfl
      have q4 := below_to hb4 q3 q3.size rfl rfl rfl rfl
      have G4 := hide (glob_to hb4 G3.out rfl)
      have HO4 := hide (own_to hb4 HO3.out rfl)
      have hlt4 := hide (fun g hg => (HO4.out.lt g hg).2)
      clear hb4 c_3_0 c_3_1 c_3_2 c_3_3 c_3_4 c_3_5 c_3_6 c_3_7 c_3_8 c_3_9 c_3_10 c_3_11 l_3 X3 q3 HO3
      go_wp2_with fail
      refine (implRP_any x0 v1 _ HS0.out HS1.out G4.out).mono ?_
      rintro e w5 ⟨r1, rfl, O5, hb5⟩
      rw [← HZ.out] at O5
      rw [← HOK.out]
      have HG5 := hide O5
      have X5 := isPz_to hb5 X4 rfl
      have q5 := below_to hb5 q4 q4.size rfl rfl rfl rfl
      have HO5 := hide (own_to hb5 HO4.out rfl)
      have hsz4 : w.heap.size ≤ w4.heap.size := q4.size
      have hXlt : w.heap.size < w4.heap.size := X4.lt
      clear hb5 O5 X4 q4 HO4
      go_wp2_with fail
      refine (eqStrS_any r1 r0 Z.length _ _ Z _ (by have := hlen.out; omega) HG5.out HO5.out).mono ?_
      rintro e w6 ⟨rfl, hb6⟩
      have X6 := isPz_to hb6 X5 rfl
      have q6 := below_to hb6 q5 q5.size rfl rfl rfl rfl
      have HG6 := hide (own_to hb6 HG5.out rfl)
      have HO6 := hide (own_to hb6 HO5.out rfl)
      clear hb6 X5 q5 HG5 HO5
      go_wp2_with fail
      refine (markStrS_any r1 Z.length _ Z 1 _ (by have := hlen.out; omega) (by omega) HG6.out).mono ?_
      rintro e w7 ⟨rfl, O7, hb7⟩
      rw [← HN.out]
      have HG7 := hide O7
      have q7 := q6.trans (hb7.mono hsz4)
      have HO7 := hide (own_below hb7 HO6.out hlt4.out)
      have X7 : IsPz w7 w.heap.size x0 27 := (hb7.block w.heap.size hXlt).trans X6
      clear hb7 O7 X6 q6 HG6 HO6
      go_wp2_with fail
      refine (heldStrS_any r1 Z.length _ 1 _ (by have := hlen.out; omega) (by omega) HG7.out).mono ?_
      rintro e w8 ⟨rfl, hb8⟩
      rw [← HN.out]
      have X8 := isPz_to hb8 X7 rfl
      have q8 := below_to hb8 q7 q7.size rfl rfl rfl rfl
      have HG8 := hide (own_to hb8 HG7.out rfl)
      have HO8 := hide (own_to hb8 HO7.out rfl)
      clear hb8 X7 q7 HG7 HO7
      obtain ⟨l_8, ⟨c_8_0, c_8_1, c_8_2, c_8_3, c_8_4, c_8_5, c_8_6, c_8_7, c_8_8, c_8_9, c_8_10, c_8_11⟩, -⟩ := X8.all
      go_wp2_with fail
      refine (toPuzzle_any x0 _).mono ?_
      rintro e w9 ⟨rfl, hb9⟩
      have q9 := below_to hb9 q8 q8.size rfl rfl rfl rfl
      have G9 := hide (glob_to q9 HGW.out rfl)
      have HG9 := hide (own_to hb9 HG8.out rfl)
      have HO9 := hide (own_to hb9 HO8.out rfl)
      clear hb9 c_8_0 c_8_1 c_8_2 c_8_3 c_8_4 c_8_5 c_8_6 c_8_7 c_8_8 c_8_9 c_8_10 c_8_11 l_8 X8 q8 HG8 HO8
      go_wp2_with fail
      refine (implRP_any x0 v1 _ HS0.out HS1.out G9.out).mono ?_
      rintro e w10 ⟨r2, rfl, O10, hb10⟩
      rw [← HZ.out] at O10
      rw [← HOK.out]
      have HH10 := hide O10
      have q10 := below_to hb10 q9 q9.size rfl rfl rfl rfl
      have HG10 := hide (own_to hb10 HG9.out rfl)
      have HO10 := hide (own_to hb10 HO9.out rfl)
      clear hb10 O10 q9 HG9 HO9
      go_wp2_with fail
      refine (eqStrS_any r2 r0 Z.length _ _ Z _ (by have := hlen.out; omega) HH10.out HO10.out).mono ?_
      rintro e w11 ⟨rfl, hb11⟩
      have q11 := below_to hb11 q10 q10.size rfl rfl rfl rfl
      have HG11 := hide (own_to hb11 HG10.out rfl)
      clear hb11 q10 HG10 HO10 HH10
      go_wp2_with fail
      refine (heldStrS_any r1 Z.length _ 1 _ (by have := hlen.out; omega) (by omega) HG11.out).mono ?_
      rintro e w12 ⟨rfl, hb12⟩
      rw [← HN.out]
      have q12 := below_to hb12 q11 q11.size rfl rfl rfl rfl
      clear hb12 q11
      go_wp2
      go_returns
      exact ⟨rfl, q12⟩
    · have HSZ := hide (fun wx => szPuzzle_no x0 wx hx0 h0)
      clear h0
      obtain ⟨l_0, ⟨c_0_0, c_0_1, c_0_2, c_0_3, c_0_4, c_0_5, c_0_6, c_0_7, c_0_8, c_0_9, c_0_10, c_0_11⟩, -⟩ := X0.all
      go_enter Tryd.func5, Tryd.ntmps5
      go_wp2_with fail
      rw [HW.out]
      refine (HSZ.out _).mono ?_
      rintro e w1 ⟨rfl, hb1⟩
      have q1 := below_to hb1 q0 q0.size rfl rfl rfl rfl
      clear hb1
      go_wp2
      go_returns
      exact ⟨rfl, q1⟩
  · clear HW X0
    go_enter Tryd.func5, Tryd.ntmps5
    go_wp2
    go_returns
    exact ⟨rfl, by go_grown⟩
end Go.Proofs.YtgehcjmhgfhkdaaDoor
