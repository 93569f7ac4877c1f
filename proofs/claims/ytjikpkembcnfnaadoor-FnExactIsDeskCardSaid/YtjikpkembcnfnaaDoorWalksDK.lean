/- Is there a desk: IsDesk of the program and of the model, and its law. -/
import Derived.Test.YtjikpkembcnfnaaDoorDesk
import Derived.Test.YtjikpkembcnfnaaDoorAsk
import Derived.Test.YtjikpkembcnfnaaDoorWalksT
namespace Go.Proofs.YtjikpkembcnfnaaDoor
set_option maxRecDepth 100000
set_option linter.all false
open Go.RowKit

/-- Is there a desk? -/
def dkB (p : Dk) : Bool := isBd p.b.data.toList && stL p.b.data.toList p.s
theorem dk_start (p : Dk) (w : World) : ∃ W, w.alloc (.cells #[.string p.b, .int .i64 p.s.x, .int .i64 p.s.y, .int .i64 p.s.d.t, .int .i64 p.s.d.n, .int .i64 p.s.d.e, .int .i64 p.s.d.s, .int .i64 p.s.d.w, .int .i64 p.s.d.b] 34) = W ∧ IsDk W w.heap.size p 34 ∧ Below w.heap.size w W := ⟨_, rfl, IsDk.new, (Below.refl _ _).alloc (Nat.le_refl _) _⟩
set_option maxHeartbeats 800000 in
theorem implDK_any (p : Dk) (w : World) (hs : p.b.size ≤ 1048576) (hg : Glob w) : Calls Tryd.prog 13 #[Dk.v p] w fun e w' => e = .returned (.bool (dkB p)) ∧ Below w.heap.size w w' := by
  obtain ⟨W0, hW, P0, q0⟩ := dk_start p w
  have HW := hide hW
  have HG := hide (glob_to q0 hg rfl)
  have HR := hide (fun wx hx => implIsState_any p.b p.s wx hs hx)
  have HE := hide (show dkB p = (isBd p.b.data.toList && stL p.b.data.toList p.s) from rfl)
  obtain ⟨l0, ⟨a0, a1, a2, a3, a4, a5, a6, a7, a8⟩, -⟩ := P0.all
  clear hW hg P0 hs
  rw [HE.out]
  clear HE
  generalize (isBd p.b.data.toList && stL p.b.data.toList p.s) = z at HR ⊢
  generalize isBd p.b.data.toList = y at HR
  go_enter Tryd.func13, Tryd.ntmps13
  go_upto_region 1 with (fail)
  rw [HW.out]
  go_wp2_with fail
  refine (HR.out _ HG.out).mono ?_
  rintro e w1 ⟨rfl, hb1⟩
  have q1 := below_to hb1 q0 q0.size rfl rfl rfl rfl
  clear hb1
  go_wp2
  go_returns
  exact ⟨rfl, q1⟩
theorem boAskD (s : ByteArray) (t : St) (w : World) (hs : s.size ≤ 1048576) : Calls Tryd.prog 64 #[.string s, St.v t] w fun e w' => ∃ (x y : Int) (a : Option Addr) (n c : Nat), e = .returned (.tuple #[.agg #[.int .i64 x, .int .i64 y, .slice a n c], .bool (isBd s.data.toList && stL s.data.toList t)]) ∧ Below w.heap.size w w' := by
  cases h1 : isBd s.data.toList with
  | false =>
    refine (boAsked_bad s t w hs h1).mono ?_
    rintro e w' ⟨rfl, hb⟩
    exact ⟨0, 0, none, 0, 0, rfl, hb⟩
  | true =>
    refine (boAsked_in s t w hs h1).mono ?_
    rintro e w' ⟨W, H, n, g, cap, -, rfl, -, hb⟩
    exact ⟨(W : Int), (H : Int), some ⟨g, 0, none⟩, n, cap, rfl, hb⟩
set_option maxHeartbeats 800000 in
theorem coGood_any (p : Dk) (w : World) (hs : p.b.size ≤ 1048576) : Calls Tryd.prog 33 #[Dk.v p] w fun e w' => e = .returned (.bool (dkB p)) ∧ Below w.heap.size w w' := by
  obtain ⟨W0, hW, P0, q0⟩ := dk_start p w
  have HW := hide hW
  have HR := hide (fun wx => boAskD p.b p.s wx hs)
  have HE := hide (show dkB p = (isBd p.b.data.toList && stL p.b.data.toList p.s) from rfl)
  obtain ⟨l0, ⟨a0, a1, a2, a3, a4, a5, a6, a7, a8⟩, -⟩ := P0.all
  clear hW P0 hs
  rw [HE.out]
  clear HE
  generalize (isBd p.b.data.toList && stL p.b.data.toList p.s) = z at HR ⊢
  go_enter Tryd.func33, Tryd.ntmps33
  go_upto_region 1 with (fail)
  rw [HW.out]
  go_wp2_with fail
  refine (HR.out _).mono ?_
  rintro e w1 ⟨x, y, sa, sn, sc, rfl, hb1⟩
  have q1 := below_to hb1 q0 q0.size rfl rfl rfl rfl
  clear hb1
  go_wp2
  go_returns
  exact ⟨rfl, q1.alloc q1.size _⟩
set_option maxHeartbeats 800000 in
theorem specDK_any (p : Dk) (w : World) (hs : p.b.size ≤ 1048576) : Calls Tryd.prog 11 #[Dk.v p] w fun e w' => e = .returned (.bool (dkB p)) ∧ Below w.heap.size w w' := by
  obtain ⟨W0, hW, P0, q0⟩ := dk_start p w
  have HW := hide hW
  have HR := hide (fun wx => coGood_any p wx hs)
  obtain ⟨l0, ⟨a0, a1, a2, a3, a4, a5, a6, a7, a8⟩, -⟩ := P0.all
  clear hW P0 hs
  generalize dkB p = z at HR ⊢
  go_enter Tryd.func11, Tryd.ntmps11
  go_upto_region 1 with (fail)
  rw [HW.out]
  go_wp2_with fail
  refine (HR.out _).mono ?_
  rintro e w1 ⟨rfl, hb1⟩
  have q1 := below_to hb1 q0 q0.size rfl rfl rfl rfl
  clear hb1
  go_wp2
  go_returns
  exact ⟨rfl, q1⟩
set_option maxHeartbeats 3200000 in
theorem walk_IsDesk (x0 : Dk) (hx0 : x0.b.size ≤ maxLen) (w : World) (hg : Glob w) : Calls Tryd.prog 3 #[Dk.v x0] w fun e w' => e = .returned (.bool true) ∧ Below w.heap.size w w' := by
  have q0 : Below w.heap.size w (w.alloc (.cells #[.string x0.b, .int .i64 x0.s.x, .int .i64 x0.s.y, .int .i64 x0.s.d.t, .int .i64 x0.s.d.n, .int .i64 x0.s.d.e, .int .i64 x0.s.d.s, .int .i64 x0.s.d.w, .int .i64 x0.s.d.b] 27)) := by go_grown
  have HGL := hide (show Glob (w.alloc (.cells #[.string x0.b, .int .i64 x0.s.x, .int .i64 x0.s.y, .int .i64 x0.s.d.t, .int .i64 x0.s.d.n, .int .i64 x0.s.d.e, .int .i64 x0.s.d.s, .int .i64 x0.s.d.w, .int .i64 x0.s.d.b] 27)) from glob_to (w0 := w) q0 hg rfl)
  have X0 : IsDk (w.alloc (.cells #[.string x0.b, .int .i64 x0.s.x, .int .i64 x0.s.y, .int .i64 x0.s.d.t, .int .i64 x0.s.d.n, .int .i64 x0.s.d.e, .int .i64 x0.s.d.s, .int .i64 x0.s.d.w, .int .i64 x0.s.d.b] 27)) w.heap.size x0 27 := IsDk.new
  generalize hW : (w.alloc (.cells #[.string x0.b, .int .i64 x0.s.x, .int .i64 x0.s.y, .int .i64 x0.s.d.t, .int .i64 x0.s.d.n, .int .i64 x0.s.d.e, .int .i64 x0.s.d.s, .int .i64 x0.s.d.w, .int .i64 x0.s.d.b] 27)) = W0 at q0 HGL X0
  have HW := hide hW
  clear hW hg
  by_cases h0 : x0.b.size ≤ 1048576
  · have HS0 := hide h0
    obtain ⟨z0, hz0⟩ : ∃ z, z = dkB x0 := ⟨_, rfl⟩
    have HZ0 := hide hz0
    clear hz0
    have e0 : (z0 != z0) = false := by simp
    have HSZ := hide (fun wx => szDesk_yes x0 wx h0)
    have hsz2 : ¬ (1048576 - (x0.b.size : Int)) < 0 := by omega
    generalize 1048576 - (x0.b.size : Int) = left at HSZ hsz2
    clear h0
    obtain ⟨l_0, ⟨c_0_0, c_0_1, c_0_2, c_0_3, c_0_4, c_0_5, c_0_6, c_0_7, c_0_8⟩, -⟩ := X0.all
    go_enter Tryd.func3, Tryd.ntmps3
    go_wp2_with fail
    rw [HW.out]
    refine (HSZ.out _).mono ?_
    rintro e w1 ⟨rfl, hb1⟩
    have Y_X0_1 := isDk_to hb1 X0 rfl
    have qb_1 := below_to hb1 q0 q0.size rfl rfl rfl rfl
    have Gb_1 := hide (glob_to hb1 HGL.out rfl)
    clear hb1
    clear l_0 c_0_0 c_0_1 c_0_2 c_0_3 c_0_4 c_0_5 c_0_6 c_0_7 c_0_8
    obtain ⟨l_2, ⟨c_2_0, c_2_1, c_2_2, c_2_3, c_2_4, c_2_5, c_2_6, c_2_7, c_2_8⟩, -⟩ := Y_X0_1.all
    go_wp2_with fail
    refine (toDesk_any x0 _).mono ?_
    rintro e w3 ⟨rfl, hb3⟩
    have Y_X0_3 := isDk_to hb3 Y_X0_1 rfl
    have qb_3 := below_to hb3 qb_1 qb_1.size rfl rfl rfl rfl
    have Gb_3 := hide (glob_to hb3 Gb_1.out rfl)
    clear hb3
    clear l_2 c_2_0 c_2_1 c_2_2 c_2_3 c_2_4 c_2_5 c_2_6 c_2_7 c_2_8
    obtain ⟨l_4, ⟨c_4_0, c_4_1, c_4_2, c_4_3, c_4_4, c_4_5, c_4_6, c_4_7, c_4_8⟩, -⟩ := Y_X0_3.all
    go_wp2_with fail
    refine (specDK_any x0 _ HS0.out).mono ?_
    rintro e w5 ⟨rfl, hb5⟩
    have Y_X0_5 := isDk_to hb5 Y_X0_3 rfl
    have qb_5 := below_to hb5 qb_3 qb_3.size rfl rfl rfl rfl
    have Gb_5 := hide (glob_to hb5 Gb_3.out rfl)
    clear hb5
    clear l_4 c_4_0 c_4_1 c_4_2 c_4_3 c_4_4 c_4_5 c_4_6 c_4_7 c_4_8
    obtain ⟨l_6, ⟨c_6_0, c_6_1, c_6_2, c_6_3, c_6_4, c_6_5, c_6_6, c_6_7, c_6_8⟩, -⟩ := Y_X0_5.all
    rw [← HZ0.out]
    go_wp2_with fail
    refine (toDesk_any x0 _).mono ?_
    rintro e w7 ⟨rfl, hb7⟩
    have Y_X0_7 := isDk_to hb7 Y_X0_5 rfl
    have qb_7 := below_to hb7 qb_5 qb_5.size rfl rfl rfl rfl
    have Gb_7 := hide (glob_to hb7 Gb_5.out rfl)
    clear hb7
    clear l_6 c_6_0 c_6_1 c_6_2 c_6_3 c_6_4 c_6_5 c_6_6 c_6_7 c_6_8
    obtain ⟨l_8, ⟨c_8_0, c_8_1, c_8_2, c_8_3, c_8_4, c_8_5, c_8_6, c_8_7, c_8_8⟩, -⟩ := Y_X0_7.all
    go_wp2_with fail
    refine (implDK_any x0 _ HS0.out Gb_7.out).mono ?_
    rintro e w9 ⟨rfl, hb9⟩
    have Y_X0_9 := isDk_to hb9 Y_X0_7 rfl
    have qb_9 := below_to hb9 qb_7 qb_7.size rfl rfl rfl rfl
    have Gb_9 := hide (glob_to hb9 Gb_7.out rfl)
    clear hb9
    clear l_8 c_8_0 c_8_1 c_8_2 c_8_3 c_8_4 c_8_5 c_8_6 c_8_7 c_8_8
    obtain ⟨l_10, ⟨c_10_0, c_10_1, c_10_2, c_10_3, c_10_4, c_10_5, c_10_6, c_10_7, c_10_8⟩, -⟩ := Y_X0_9.all
    rw [← HZ0.out]
    go_wp2
    go_returns
    exact ⟨rfl, qb_9⟩
  · have HSZ := hide (fun wx => szDesk_no x0 wx hx0 h0)
    clear h0
    obtain ⟨l_0, ⟨c_0_0, c_0_1, c_0_2, c_0_3, c_0_4, c_0_5, c_0_6, c_0_7, c_0_8⟩, -⟩ := X0.all
    go_enter Tryd.func3, Tryd.ntmps3
    go_wp2_with fail
    rw [HW.out]
    refine (HSZ.out _).mono ?_
    rintro e w1 ⟨rfl, hb1⟩
    have q1 := below_to hb1 q0 q0.size rfl rfl rfl rfl
    clear hb1
    go_wp2
    go_returns
    exact ⟨rfl, q1⟩
end Go.Proofs.YtjikpkembcnfnaaDoor
