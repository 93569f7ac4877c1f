/- The contracts of rolled states: boRoll, the four rolls, rollTo. -/
import Derived.Test.YthdkhikkdcjifaaDoorRoll4
import Derived.Test.YthdkhikkdcjifaaDoorAsk
import Derived.Test.YthdkhikkdcjifaaDoorWalksK
import Derived.Deep.Cut
namespace Go.Proofs.YthdkhikkdcjifaaDoor
set_option maxRecDepth 100000
set_option linter.all false
open Go.RowKit

/-- Can it be rolled? -/
def canT (l : List UInt8) (s : St) (k : Int) : Bool := floorL l (nextX s.x k) (nextY s.y k)

set_option maxHeartbeats 1600000 in
theorem boRoll_no (l : List UInt8) (W H n : Nat) (hg : GridOk l W H n) (g cap : Nat) (s : St) (k : Int) (w : World) (hA : BytesAt w g (splitP l).flatten) (hx : -100000 ≤ s.x ∧ s.x ≤ 100000) (hy : -100000 ≤ s.y ∧ s.y ≤ 100000) (hc : canT l s k = false) :
    Calls Tryd.prog 72 #[gridV W H n g cap, St.v s, .int .i64 k] w fun e w' => e = .returned (.tuple #[St.v ⟨0, 0, ⟨0, 0, 0, 0, 0, 0⟩⟩, .bool false]) ∧ Below w.heap.size w w' := by
  have HC := hide (show floorL l (nextX s.x k) (nextY s.y k) = canT l s k from rfl)
  have HN := hide (boNext_any s.x s.y k (((w.alloc (.cells #[.int .i64 (W : Int), .int .i64 (H : Int), .slice (some ⟨g, 0, none⟩) n cap] 59)).alloc (.cells #[.int .i64 s.x, .int .i64 s.y, .int .i64 s.d.t, .int .i64 s.d.n, .int .i64 s.d.e, .int .i64 s.d.s, .int .i64 s.d.w, .int .i64 s.d.b] 30)).alloc (.cells #[.int .i64 0, .int .i64 0, .int .i64 0, .int .i64 0, .int .i64 0, .int .i64 0, .int .i64 0, .int .i64 0] 30)) hx hy)
  have HG := hide hg
  have HA := hide (show BytesAt (((w.alloc (.cells #[.int .i64 (W : Int), .int .i64 (H : Int), .slice (some ⟨g, 0, none⟩) n cap] 59)).alloc (.cells #[.int .i64 s.x, .int .i64 s.y, .int .i64 s.d.t, .int .i64 s.d.n, .int .i64 s.d.e, .int .i64 s.d.s, .int .i64 s.d.w, .int .i64 s.d.b] 30)).alloc (.cells #[.int .i64 0, .int .i64 0, .int .i64 0, .int .i64 0, .int .i64 0, .int .i64 0, .int .i64 0, .int .i64 0] 30)) g (splitP l).flatten from bytesAt_to (w0 := w) (by go_grown) hA rfl)
  have HCC := hide hc
  clear hg hA hx hy hc
  generalize hX : nextX s.x k = x at *
  generalize hY : nextY s.y k = y at *
  have HX := hide hX
  have HY := hide hY
  clear hX hY
  go_enter Tryd.func72, Tryd.ntmps72
  go_wp2_with fail
  refine HN.out.mono ?_
  rintro e w0 ⟨rfl, rfl⟩
  go_wp2_with fail
  refine (boFloor_any l W H n HG.out g cap x y _ HA.out).mono ?_
  rintro e w1 ⟨rfl, hb1⟩
  rw [HC.out, HCC.out]
  have R0 := IsS.new (w := (w.alloc (.cells #[.int .i64 (W : Int), .int .i64 (H : Int), .slice (some ⟨g, 0, none⟩) n cap] 59)).alloc (.cells #[.int .i64 s.x, .int .i64 s.y, .int .i64 s.d.t, .int .i64 s.d.n, .int .i64 s.d.e, .int .i64 s.d.s, .int .i64 s.d.w, .int .i64 s.d.b] 30)) (s := ⟨0, 0, ⟨0, 0, 0, 0, 0, 0⟩⟩) (ty := 30)
  have S0 := (IsS.new2 (w := w) (o := (.cells #[.int .i64 (W : Int), .int .i64 (H : Int), .slice (some ⟨g, 0, none⟩) n cap] 59)) (s := s) (ty := 30)).alloc (.cells #[.int .i64 0, .int .i64 0, .int .i64 0, .int .i64 0, .int .i64 0, .int .i64 0, .int .i64 0, .int .i64 0] 30)
  simp only [World.size_alloc] at R0
  have u1 := isS_to hb1 R0 rfl
  have q1 : Below w.heap.size w w1 := below_after (by go_grown) hb1 (by simp; omega)
  obtain ⟨l1, ⟨c0, c1, c2, c3, c4, c5, c6, c7⟩, f0, f1, f2, f3, f4, f5, f6, f7⟩ := u1.all
  go_wp2
  refine bodyPost_ret (ret_state2 Tryd.results72 rfl rfl (u1.set8 ⟨0, 0, ⟨0, 0, 0, 0, 0, 0⟩⟩)) rfl ⟨rfl, ?_⟩
  exact below_set8 q1 (show w.heap.size ≤ w.heap.size + 1 + 1 from by omega) ⟨0, 0, ⟨0, 0, 0, 0, 0, 0⟩⟩

set_option maxHeartbeats 1600000 in
theorem boRoll_yes (l : List UInt8) (W H n : Nat) (hg : GridOk l W H n) (g cap : Nat) (s : St) (k : Int) (w : World) (hA : BytesAt w g (splitP l).flatten) (hx : -100000 ≤ s.x ∧ s.x ≤ 100000) (hy : -100000 ≤ s.y ∧ s.y ≤ 100000) (hc : canT l s k = true) :
    Calls Tryd.prog 72 #[gridV W H n g cap, St.v s, .int .i64 k] w fun e w' => e = .returned (.tuple #[St.v (rollT s k), .bool true]) ∧ Below w.heap.size w w' := by
  have HR := hide (show rollT s k = ⟨nextX s.x k, nextY s.y k, rollK k s.d⟩ from rfl)
  have HC := hide (show floorL l (nextX s.x k) (nextY s.y k) = canT l s k from rfl)
  have HN := hide (boNext_any s.x s.y k (((w.alloc (.cells #[.int .i64 (W : Int), .int .i64 (H : Int), .slice (some ⟨g, 0, none⟩) n cap] 59)).alloc (.cells #[.int .i64 s.x, .int .i64 s.y, .int .i64 s.d.t, .int .i64 s.d.n, .int .i64 s.d.e, .int .i64 s.d.s, .int .i64 s.d.w, .int .i64 s.d.b] 30)).alloc (.cells #[.int .i64 0, .int .i64 0, .int .i64 0, .int .i64 0, .int .i64 0, .int .i64 0, .int .i64 0, .int .i64 0] 30)) hx hy)
  have HG := hide hg
  have HA := hide (show BytesAt (((w.alloc (.cells #[.int .i64 (W : Int), .int .i64 (H : Int), .slice (some ⟨g, 0, none⟩) n cap] 59)).alloc (.cells #[.int .i64 s.x, .int .i64 s.y, .int .i64 s.d.t, .int .i64 s.d.n, .int .i64 s.d.e, .int .i64 s.d.s, .int .i64 s.d.w, .int .i64 s.d.b] 30)).alloc (.cells #[.int .i64 0, .int .i64 0, .int .i64 0, .int .i64 0, .int .i64 0, .int .i64 0, .int .i64 0, .int .i64 0] 30)) g (splitP l).flatten from bytesAt_to (w0 := w) (by go_grown) hA rfl)
  have HCC := hide hc
  clear hg hA hx hy hc
  generalize hX : nextX s.x k = x at *
  generalize hY : nextY s.y k = y at *
  have HX := hide hX
  have HY := hide hY
  clear hX hY
  go_enter Tryd.func72, Tryd.ntmps72
  go_wp2_with fail
  refine HN.out.mono ?_
  rintro e w0 ⟨rfl, rfl⟩
  go_wp2_with fail
  refine (boFloor_any l W H n HG.out g cap x y _ HA.out).mono ?_
  rintro e w1 ⟨rfl, hb1⟩
  rw [HC.out, HCC.out]
  have R0 := IsS.new (w := (w.alloc (.cells #[.int .i64 (W : Int), .int .i64 (H : Int), .slice (some ⟨g, 0, none⟩) n cap] 59)).alloc (.cells #[.int .i64 s.x, .int .i64 s.y, .int .i64 s.d.t, .int .i64 s.d.n, .int .i64 s.d.e, .int .i64 s.d.s, .int .i64 s.d.w, .int .i64 s.d.b] 30)) (s := ⟨0, 0, ⟨0, 0, 0, 0, 0, 0⟩⟩) (ty := 30)
  have S0 := (IsS.new2 (w := w) (o := (.cells #[.int .i64 (W : Int), .int .i64 (H : Int), .slice (some ⟨g, 0, none⟩) n cap] 59)) (s := s) (ty := 30)).alloc (.cells #[.int .i64 0, .int .i64 0, .int .i64 0, .int .i64 0, .int .i64 0, .int .i64 0, .int .i64 0, .int .i64 0] 30)
  simp only [World.size_alloc] at R0
  have u1 := isS_to hb1 R0 rfl
  have q1 : Below w.heap.size w w1 := below_after (by go_grown) hb1 (by simp; omega)
  obtain ⟨l1, ⟨c0, c1, c2, c3, c4, c5, c6, c7⟩, f0, f1, f2, f3, f4, f5, f6, f7⟩ := u1.all
  have v1 := isS_to hb1 S0 rfl
  clear hb1 R0 S0
  obtain ⟨l0, ⟨a0, a1, a2, a3, a4, a5, a6, a7⟩, -⟩ := v1.all
  clear c0 c1 c2 c3 c4 c5 c6 c7 f0 f1 f2 f3 f4 f5 f6 f7 l1
  go_wp2_with fail
  clear a0 a1 a2 a3 a4 a5 a6 a7 l0 v1
  refine (diRoll_any k s.d _).mono ?_
  rintro e w2 ⟨rfl, hb2⟩
  have u2 := isS_to hb2 u1 rfl
  have q2 := below_to hb2 q1 q1.size rfl rfl rfl rfl
  generalize hd : rollK k s.d = d at HR
  have HD := hide hd
  obtain ⟨l1, ⟨c0, c1, c2, c3, c4, c5, c6, c7⟩, f0, f1, f2, f3, f4, f5, f6, f7⟩ := u2.all
  clear hd hb2 u1 q1
  go_wp2
  refine bodyPost_ret (ret_state2 Tryd.results72 rfl rfl (u2.set8 ⟨x, y, d⟩)) rfl ⟨by rw [HR.out, ← HX.out, ← HY.out], ?_⟩
  exact below_set8 q2 (show w.heap.size ≤ w.heap.size + 1 + 1 from by omega) ⟨x, y, d⟩

end Go.Proofs.YthdkhikkdcjifaaDoor
