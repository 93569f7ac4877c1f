/- The walk of IsBox's law. -/
import Derived.Test.YtoojoghgbmpbpaaDoorBoxOn
import Derived.Test.YtoojoghgbmpbpaaDoorBxGood
import Derived.Test.YtoojoghgbmpbpaaDoorOpenBox
namespace Go.Proofs.YtoojoghgbmpbpaaDoor
set_option maxRecDepth 100000
set_option linter.all false
open Go.RowKit

def ibX (l : List UInt8) (b : Bx) : Bool := isGd l && goodX (splitP l) b
set_option maxHeartbeats 800000 in
theorem specIsBox_any (s : ByteArray) (b : Bx) (w : World) (hs : s.size ≤ 1048576) : Calls Tryd.prog 15 #[.string s, Bx.v b] w fun e w' => e = .returned (.tuple #[.bool (ibX s.data.toList b), .bool (isGd s.data.toList)]) ∧ Below w.heap.size w w' := by
  cases h : isGd s.data.toList
  · have H := hide h
    have HX := hide (show ibX s.data.toList b = false from by unfold ibX; rw [h]; rfl)
    rw [HX.out]
    clear h
    go_enter Tryd.func15, Tryd.ntmps15
    go_wp2_with fail
    refine (bxRead_no s _ hs H.out).mono ?_
    rintro e w1 ⟨rfl, hb⟩
    have q1 : Below w.heap.size w w1 := below_after (by go_grown) hb (by simp)
    clear hb
    go_wp2
    go_returns
    exact ⟨rfl, q1.alloc q1.size _⟩
  · have H := hide h
    have HX := hide (show ibX s.data.toList b = goodX (splitP s.data.toList) b from by unfold ibX; rw [h]; rfl)
    rw [HX.out]
    clear h
    generalize hgx : goodX (splitP s.data.toList) b = gx
    have HGX := hide hgx
    clear hgx
    go_enter Tryd.func15, Tryd.ntmps15
    go_wp2_with fail
    refine (bxRead_yes s _ hs H.out).mono ?_
    rintro e w1 ⟨W, Hh, n, g, cap, hG, rfl, hA, hb⟩
    have HGR := hide hG
    have X1 := (isX_to hb (IsX.new (w := w) (q := b) (ty := 27)) rfl).alloc (.cells #[.int .i64 (W : Int), .int .i64 (Hh : Int), .slice (some ⟨g, 0, none⟩) n cap] 44)
    have q1 : Below w.heap.size w w1 := below_after (by go_grown) hb (by simp)
    have q2 := q1.alloc q1.size (.cells #[.int .i64 (W : Int), .int .i64 (Hh : Int), .slice (some ⟨g, 0, none⟩) n cap] 44)
    have HA2 := hide (show BytesAt (w1.alloc (.cells #[.int .i64 (W : Int), .int .i64 (Hh : Int), .slice (some ⟨g, 0, none⟩) n cap] 44)) g (splitP s.data.toList).flatten from bytesAt_to ((Below.refl _ _).alloc (Nat.le_refl _) _) hA rfl)
    obtain ⟨l1, ⟨c0, c1, c2⟩, -⟩ := X1.all
    clear hG hA hb q1 X1
    go_wp2_with fail
    refine (bxGood_any s.data.toList W Hh n HGR.out g cap b _ HA2.out).mono ?_
    rintro e w2 ⟨rfl, hb2⟩
    rw [HGX.out]
    have q3 := below_to hb2 q2 q2.size rfl rfl rfl rfl
    clear hb2 q2 c0 c1 c2 l1
    go_wp2
    go_returns
    exact ⟨rfl, q3⟩
set_option maxHeartbeats 800000 in
theorem implIsBox_any (s : ByteArray) (b : Bx) (w : World) (hs : s.size ≤ 1048576) (hg : Glob w) : Calls Tryd.prog 17 #[.string s, Bx.v b] w fun e w' => e = .returned (.tuple #[.bool (ibX s.data.toList b), .bool (isGd s.data.toList)]) ∧ Below w.heap.size w w' := by
  have HG := hide (show Glob (w.alloc (.cells #[.int .i64 b.x, .int .i64 b.y, .int .i64 b.p] 27)) from glob_to (w0 := w) ((Below.refl _ _).alloc (Nat.le_refl _) _) hg rfl)
  clear hg
  cases h : isGd s.data.toList
  · have H := hide h
    have HX := hide (show ibX s.data.toList b = false from by unfold ibX; rw [h]; rfl)
    rw [HX.out]
    clear h
    go_enter Tryd.func17, Tryd.ntmps17
    go_wp2_with fail
    refine (groundOf_no s _ hs HG.out H.out).mono ?_
    rintro e w1 ⟨rfl, hb⟩
    have q1 : Below w.heap.size w w1 := below_after (by go_grown) hb (by simp)
    clear hb
    go_wp2
    go_returns
    exact ⟨rfl, q1⟩
  · have H := hide h
    have HX := hide (show ibX s.data.toList b = goodX (splitP s.data.toList) b from by unfold ibX; rw [h]; rfl)
    rw [HX.out]
    clear h
    generalize hgx : goodX (splitP s.data.toList) b = gx
    have HGX := hide hgx
    clear hgx
    go_enter Tryd.func17, Tryd.ntmps17
    go_wp2_with fail
    refine (groundOf_yes s _ hs HG.out H.out).mono ?_
    rintro e w1 ⟨rfl, ha, hb⟩
    simp only [World.size_alloc] at ha
    have X1 := isX_to hb (IsX.new (w := w) (q := b) (ty := 27)) rfl
    have q1 : Below w.heap.size w w1 := below_after (by go_grown) hb (by simp)
    have HA := hide ha
    obtain ⟨l1, ⟨c0, c1, c2⟩, -⟩ := X1.all
    clear hb ha X1
    go_wp2_with fail
    refine (isBoxOn_any s _ b _ hs H.out HA.out).mono ?_
    rintro e w2 ⟨rfl, hb2⟩
    rw [HGX.out]
    have q2 := below_to hb2 q1 q1.size rfl rfl rfl rfl
    clear hb2 q1 c0 c1 c2 l1
    go_wp2
    go_returns
    exact ⟨rfl, q2⟩

set_option maxHeartbeats 1600000 in
theorem walk_IsBox (v0 : ByteArray) (hv0 : v0.size ≤ maxLen) (x1 : Bx) (w : World) (hg : Glob w) : Calls Tryd.prog 4 #[.string v0, Bx.v x1] w fun e w' => e = .returned (.bool true) ∧ Below w.heap.size w w' := by
  have q0 : Below w.heap.size w (w.alloc (.cells #[.int .i64 x1.x, .int .i64 x1.y, .int .i64 x1.p] 24)) := by go_grown
  have HGL := hide (show Glob (w.alloc (.cells #[.int .i64 x1.x, .int .i64 x1.y, .int .i64 x1.p] 24)) from glob_to (w0 := w) q0 hg rfl)
  clear hg
  by_cases h0 : v0.size ≤ 1048576
  · have HS0 := hide h0
    obtain ⟨z0, hz0⟩ : ∃ z, z = ibX v0.data.toList x1 := ⟨_, rfl⟩
    have HZ0 := hide hz0
    clear hz0
    have e0 : (z0 != z0) = false := by simp
    obtain ⟨z1, hz1⟩ : ∃ z, z = isGd v0.data.toList := ⟨_, rfl⟩
    have HZ1 := hide hz1
    clear hz1
    have e1 : (z1 != z1) = false := by simp
    go_enter Tryd.func4, Tryd.ntmps4
    go_wp2_with fail
    have X1 : IsX (w.alloc (.cells #[.int .i64 x1.x, .int .i64 x1.y, .int .i64 x1.p] 24)) w.heap.size x1 24 := (IsX.new)
    generalize (w.alloc (.cells #[.int .i64 x1.x, .int .i64 x1.y, .int .i64 x1.p] 24)) = W0 at q0 HGL X1 ⊢
    obtain ⟨l_1, ⟨c_1, d_1, f_1⟩, -⟩ := X1.all
    go_wp2_with fail
    refine (toBox_any x1 _).mono ?_
    rintro e w2 ⟨rfl, hb2⟩
    have Y_x1_2 := isX_to hb2 X1 rfl
    have qb_2 := below_to hb2 q0 q0.size rfl rfl rfl rfl
    have Gb_2 := hide (glob_to hb2 HGL.out rfl)
    clear hb2
    clear l_1 c_1 d_1 f_1
    obtain ⟨l_3, ⟨c_3, d_3, f_3⟩, -⟩ := Y_x1_2.all
    go_wp2_with fail
    refine (specIsBox_any v0 x1 _ HS0.out).mono ?_
    rintro e w4 ⟨rfl, hb4⟩
    have Y_x1_4 := isX_to hb4 Y_x1_2 rfl
    have qb_4 := below_to hb4 qb_2 qb_2.size rfl rfl rfl rfl
    have Gb_4 := hide (glob_to hb4 Gb_2.out rfl)
    clear hb4
    clear l_3 c_3 d_3 f_3
    obtain ⟨l_5, ⟨c_5, d_5, f_5⟩, -⟩ := Y_x1_4.all
    rw [← HZ0.out, ← HZ1.out]
    go_wp2_with fail
    refine (toBox_any x1 _).mono ?_
    rintro e w6 ⟨rfl, hb6⟩
    have Y_x1_6 := isX_to hb6 Y_x1_4 rfl
    have qb_6 := below_to hb6 qb_4 qb_4.size rfl rfl rfl rfl
    have Gb_6 := hide (glob_to hb6 Gb_4.out rfl)
    clear hb6
    clear l_5 c_5 d_5 f_5
    obtain ⟨l_7, ⟨c_7, d_7, f_7⟩, -⟩ := Y_x1_6.all
    go_wp2_with fail
    refine (implIsBox_any v0 x1 _ HS0.out Gb_6.out).mono ?_
    rintro e w8 ⟨rfl, hb8⟩
    have Y_x1_8 := isX_to hb8 Y_x1_6 rfl
    have qb_8 := below_to hb8 qb_6 qb_6.size rfl rfl rfl rfl
    have Gb_8 := hide (glob_to hb8 Gb_6.out rfl)
    clear hb8
    clear l_7 c_7 d_7 f_7
    obtain ⟨l_9, ⟨c_9, d_9, f_9⟩, -⟩ := Y_x1_8.all
    rw [← HZ0.out, ← HZ1.out]
    go_wp2
    go_returns
    exact ⟨rfl, qb_8⟩
  · go_enter Tryd.func4, Tryd.ntmps4
    go_wp2
    go_returns
    exact ⟨rfl, by go_grown⟩
end Go.Proofs.YtoojoghgbmpbpaaDoor
