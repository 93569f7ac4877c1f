/- The contracts of rolled states: boRoll, the four rolls, rollTo. -/
import Derived.Test.YtlbhlnhhiacbnaaDoorAsk
import Derived.Test.YtlbhlnhhiacbnaaDoorWalksK
import Derived.Deep.Cut
namespace Go.Proofs.YtlbhlnhhiacbnaaDoor
set_option maxRecDepth 100000
set_option linter.all false
open Go.RowKit

/-- A state rolled, floor or not, by the number of the direction. -/
def rollT (s : St) (k : Int) : St := ⟨nextX s.x k, nextY s.y k, rollK k s.d⟩
/-- Can it be rolled? -/
def canT (l : List UInt8) (s : St) (k : Int) : Bool := floorL l (nextX s.x k) (nextY s.y k)

set_option maxHeartbeats 1600000 in
theorem boRoll_no (l : List UInt8) (W H n : Nat) (hg : GridOk l W H n) (g cap : Nat) (s : St) (k : Int) (w : World) (hA : BytesAt w g (splitP l).flatten) (hx : -100000 ≤ s.x ∧ s.x ≤ 100000) (hy : -100000 ≤ s.y ∧ s.y ≤ 100000) (hc : canT l s k = false) :
    Calls Tryd.prog 55 #[gridV W H n g cap, St.v s, .int .i64 k] w fun e w' => e = .returned (.tuple #[St.v ⟨0, 0, ⟨0, 0, 0, 0, 0, 0⟩⟩, .bool false]) ∧ Below w.heap.size w w' := by
  have HC := hide (show floorL l (nextX s.x k) (nextY s.y k) = canT l s k from rfl)
  have HN := hide (boNext_any s.x s.y k (((w.alloc (.cells #[.int .i64 (W : Int), .int .i64 (H : Int), .slice (some ⟨g, 0, none⟩) n cap] 58)).alloc (.cells #[.int .i64 s.x, .int .i64 s.y, .int .i64 s.d.t, .int .i64 s.d.n, .int .i64 s.d.e, .int .i64 s.d.s, .int .i64 s.d.w, .int .i64 s.d.b] 32)).alloc (.cells #[.int .i64 0, .int .i64 0, .int .i64 0, .int .i64 0, .int .i64 0, .int .i64 0, .int .i64 0, .int .i64 0] 32)) hx hy)
  have HG := hide hg
  have HA := hide (show BytesAt (((w.alloc (.cells #[.int .i64 (W : Int), .int .i64 (H : Int), .slice (some ⟨g, 0, none⟩) n cap] 58)).alloc (.cells #[.int .i64 s.x, .int .i64 s.y, .int .i64 s.d.t, .int .i64 s.d.n, .int .i64 s.d.e, .int .i64 s.d.s, .int .i64 s.d.w, .int .i64 s.d.b] 32)).alloc (.cells #[.int .i64 0, .int .i64 0, .int .i64 0, .int .i64 0, .int .i64 0, .int .i64 0, .int .i64 0, .int .i64 0] 32)) g (splitP l).flatten from bytesAt_to (w0 := w) (by go_grown) hA rfl)
  have HCC := hide hc
  clear hg hA hx hy hc
  generalize hX : nextX s.x k = x at *
  generalize hY : nextY s.y k = y at *
  have HX := hide hX
  have HY := hide hY
  clear hX hY
  go_enter Tryd.func55, Tryd.ntmps55
  go_wp2_with fail
  refine HN.out.mono ?_
  rintro e w0 ⟨rfl, rfl⟩
  go_wp2_with fail
  refine (boFloor_any l W H n HG.out g cap x y _ HA.out).mono ?_
  rintro e w1 ⟨rfl, hb1⟩
  rw [HC.out, HCC.out]
  have R0 := IsS.new (w := (w.alloc (.cells #[.int .i64 (W : Int), .int .i64 (H : Int), .slice (some ⟨g, 0, none⟩) n cap] 58)).alloc (.cells #[.int .i64 s.x, .int .i64 s.y, .int .i64 s.d.t, .int .i64 s.d.n, .int .i64 s.d.e, .int .i64 s.d.s, .int .i64 s.d.w, .int .i64 s.d.b] 32)) (s := ⟨0, 0, ⟨0, 0, 0, 0, 0, 0⟩⟩) (ty := 32)
  have S0 := (IsS.new2 (w := w) (o := (.cells #[.int .i64 (W : Int), .int .i64 (H : Int), .slice (some ⟨g, 0, none⟩) n cap] 58)) (s := s) (ty := 32)).alloc (.cells #[.int .i64 0, .int .i64 0, .int .i64 0, .int .i64 0, .int .i64 0, .int .i64 0, .int .i64 0, .int .i64 0] 32)
  simp only [World.size_alloc] at R0
  have u1 := isS_to hb1 R0 rfl
  have q1 : Below w.heap.size w w1 := below_after (by go_grown) hb1 (by simp; omega)
  obtain ⟨l1, ⟨c0, c1, c2, c3, c4, c5, c6, c7⟩, f0, f1, f2, f3, f4, f5, f6, f7⟩ := u1.all
  go_wp2
  refine bodyPost_ret (ret_state2 Tryd.results55 rfl rfl (u1.set8 ⟨0, 0, ⟨0, 0, 0, 0, 0, 0⟩⟩)) rfl ⟨rfl, ?_⟩
  exact below_set8 q1 (show w.heap.size ≤ w.heap.size + 1 + 1 from by omega) ⟨0, 0, ⟨0, 0, 0, 0, 0, 0⟩⟩

set_option maxHeartbeats 1600000 in
theorem boRoll_yes (l : List UInt8) (W H n : Nat) (hg : GridOk l W H n) (g cap : Nat) (s : St) (k : Int) (w : World) (hA : BytesAt w g (splitP l).flatten) (hx : -100000 ≤ s.x ∧ s.x ≤ 100000) (hy : -100000 ≤ s.y ∧ s.y ≤ 100000) (hc : canT l s k = true) :
    Calls Tryd.prog 55 #[gridV W H n g cap, St.v s, .int .i64 k] w fun e w' => e = .returned (.tuple #[St.v (rollT s k), .bool true]) ∧ Below w.heap.size w w' := by
  have HR := hide (show rollT s k = ⟨nextX s.x k, nextY s.y k, rollK k s.d⟩ from rfl)
  have HC := hide (show floorL l (nextX s.x k) (nextY s.y k) = canT l s k from rfl)
  have HN := hide (boNext_any s.x s.y k (((w.alloc (.cells #[.int .i64 (W : Int), .int .i64 (H : Int), .slice (some ⟨g, 0, none⟩) n cap] 58)).alloc (.cells #[.int .i64 s.x, .int .i64 s.y, .int .i64 s.d.t, .int .i64 s.d.n, .int .i64 s.d.e, .int .i64 s.d.s, .int .i64 s.d.w, .int .i64 s.d.b] 32)).alloc (.cells #[.int .i64 0, .int .i64 0, .int .i64 0, .int .i64 0, .int .i64 0, .int .i64 0, .int .i64 0, .int .i64 0] 32)) hx hy)
  have HG := hide hg
  have HA := hide (show BytesAt (((w.alloc (.cells #[.int .i64 (W : Int), .int .i64 (H : Int), .slice (some ⟨g, 0, none⟩) n cap] 58)).alloc (.cells #[.int .i64 s.x, .int .i64 s.y, .int .i64 s.d.t, .int .i64 s.d.n, .int .i64 s.d.e, .int .i64 s.d.s, .int .i64 s.d.w, .int .i64 s.d.b] 32)).alloc (.cells #[.int .i64 0, .int .i64 0, .int .i64 0, .int .i64 0, .int .i64 0, .int .i64 0, .int .i64 0, .int .i64 0] 32)) g (splitP l).flatten from bytesAt_to (w0 := w) (by go_grown) hA rfl)
  have HCC := hide hc
  clear hg hA hx hy hc
  generalize hX : nextX s.x k = x at *
  generalize hY : nextY s.y k = y at *
  have HX := hide hX
  have HY := hide hY
  clear hX hY
  go_enter Tryd.func55, Tryd.ntmps55
  go_wp2_with fail
  refine HN.out.mono ?_
  rintro e w0 ⟨rfl, rfl⟩
  go_wp2_with fail
  refine (boFloor_any l W H n HG.out g cap x y _ HA.out).mono ?_
  rintro e w1 ⟨rfl, hb1⟩
  rw [HC.out, HCC.out]
  have R0 := IsS.new (w := (w.alloc (.cells #[.int .i64 (W : Int), .int .i64 (H : Int), .slice (some ⟨g, 0, none⟩) n cap] 58)).alloc (.cells #[.int .i64 s.x, .int .i64 s.y, .int .i64 s.d.t, .int .i64 s.d.n, .int .i64 s.d.e, .int .i64 s.d.s, .int .i64 s.d.w, .int .i64 s.d.b] 32)) (s := ⟨0, 0, ⟨0, 0, 0, 0, 0, 0⟩⟩) (ty := 32)
  have S0 := (IsS.new2 (w := w) (o := (.cells #[.int .i64 (W : Int), .int .i64 (H : Int), .slice (some ⟨g, 0, none⟩) n cap] 58)) (s := s) (ty := 32)).alloc (.cells #[.int .i64 0, .int .i64 0, .int .i64 0, .int .i64 0, .int .i64 0, .int .i64 0, .int .i64 0, .int .i64 0] 32)
  simp only [World.size_alloc] at R0
  have u1 := isS_to hb1 R0 rfl
  have q1 : Below w.heap.size w w1 := below_after (by go_grown) hb1 (by simp; omega)
  obtain ⟨l1, ⟨c0, c1, c2, c3, c4, c5, c6, c7⟩, f0, f1, f2, f3, f4, f5, f6, f7⟩ := u1.all
  have v1 := isS_to hb1 S0 rfl
  clear hb1 R0 S0
  obtain ⟨l0, ⟨a0, a1, a2, a3, a4, a5, a6, a7⟩, -⟩ := v1.all
  clear c0 c1 c2 c3 c4 c5 c6 c7 f0 f1 f2 f3 f4 f5 f6 f7 l1
  go_wp2_with fail
  clear a0 a1 a2 a3 a4 a5 a6 a7 l0 v1
  refine (diRoll_any k s.d _).mono ?_
  rintro e w2 ⟨rfl, hb2⟩
  have u2 := isS_to hb2 u1 rfl
  have q2 := below_to hb2 q1 q1.size rfl rfl rfl rfl
  generalize hd : rollK k s.d = d at HR
  have HD := hide hd
  obtain ⟨l1, ⟨c0, c1, c2, c3, c4, c5, c6, c7⟩, f0, f1, f2, f3, f4, f5, f6, f7⟩ := u2.all
  clear hd hb2 u1 q1
  go_wp2
  refine bodyPost_ret (ret_state2 Tryd.results55 rfl rfl (u2.set8 ⟨x, y, d⟩)) rfl ⟨by rw [HR.out, ← HX.out, ← HY.out], ?_⟩
  exact below_set8 q2 (show w.heap.size ≤ w.heap.size + 1 + 1 from by omega) ⟨x, y, d⟩

theorem cell_set8 {w : World} {b c o : Nat} {u0 u1 u2 u3 u4 u5 u6 u7 : Value} (h : b ≠ c) : ((((((((w.setCell ⟨b, 0, none⟩ u0).setCell ⟨b, 1, none⟩ u1).setCell ⟨b, 2, none⟩ u2).setCell ⟨b, 3, none⟩ u3).setCell ⟨b, 4, none⟩ u4).setCell ⟨b, 5, none⟩ u5).setCell ⟨b, 6, none⟩ u6).setCell ⟨b, 7, none⟩ u7).cell? ⟨c, o, none⟩ = w.cell? ⟨c, o, none⟩ := by
  have hd : ∀ j, (⟨b, j, none⟩ : Addr) ≠ ⟨c, o, none⟩ := fun j e => h (by injection e)
  rw [World.cell?_setCell_other _ _ _ _ (hd 7), World.cell?_setCell_other _ _ _ _ (hd 6), World.cell?_setCell_other _ _ _ _ (hd 5), World.cell?_setCell_other _ _ _ _ (hd 4), World.cell?_setCell_other _ _ _ _ (hd 3), World.cell?_setCell_other _ _ _ _ (hd 2), World.cell?_setCell_other _ _ _ _ (hd 1), World.cell?_setCell_other _ _ _ _ (hd 0)]

set_option maxHeartbeats 1600000 in
theorem rolledNorth_any (s : St) (w : World) (hx : -100000 ≤ s.x ∧ s.x ≤ 100000) (hy : -100000 ≤ s.y ∧ s.y ≤ 100000) : Calls Tryd.prog 87 #[St.v s] w fun e w' => e = .returned (St.v (rollT s 0)) ∧ Below w.heap.size w w' := by
  obtain ⟨x0, x1⟩ := hx
  obtain ⟨y0, y1⟩ := hy
  have HR := hide (show rollT s 0 = ⟨s.x, s.y - 1, rollN s.d⟩ from rfl)
  have HC := hide (show rollC 110 s.d = rollN s.d from rfl)
  have S0 := (IsS.new (w := w) (s := s) (ty := 32)).alloc (.cells #[.int .i64 0, .int .i64 0, .int .i64 0, .int .i64 0, .int .i64 0, .int .i64 0, .int .i64 0, .int .i64 0] 32)
  have R0 := IsS.new2 (w := w) (o := (.cells #[.int .i64 s.x, .int .i64 s.y, .int .i64 s.d.t, .int .i64 s.d.n, .int .i64 s.d.e, .int .i64 s.d.s, .int .i64 s.d.w, .int .i64 s.d.b] 32)) (s := ⟨0, 0, ⟨0, 0, 0, 0, 0, 0⟩⟩) (ty := 32)
  have q0 : Below w.heap.size w ((w.alloc (.cells #[.int .i64 s.x, .int .i64 s.y, .int .i64 s.d.t, .int .i64 s.d.n, .int .i64 s.d.e, .int .i64 s.d.s, .int .i64 s.d.w, .int .i64 s.d.b] 32)).alloc (.cells #[.int .i64 0, .int .i64 0, .int .i64 0, .int .i64 0, .int .i64 0, .int .i64 0, .int .i64 0, .int .i64 0] 32)) := by go_grown
  have Q1w : IntKind.i64.wrap (s.y - 1) = s.y - 1 := IntWalk.i64_in _ (by omega)
  go_enter Tryd.func87, Tryd.ntmps87
  go_wp2_with fail
  generalize (w.alloc (.cells #[.int .i64 s.x, .int .i64 s.y, .int .i64 s.d.t, .int .i64 s.d.n, .int .i64 s.d.e, .int .i64 s.d.s, .int .i64 s.d.w, .int .i64 s.d.b] 32)).alloc (.cells #[.int .i64 0, .int .i64 0, .int .i64 0, .int .i64 0, .int .i64 0, .int .i64 0, .int .i64 0, .int .i64 0] 32) = W0 at S0 R0 q0 ⊢
  obtain ⟨l0, ⟨a0, a1, a2, a3, a4, a5, a6, a7⟩, -⟩ := S0.all
  clear l0
  go_region_held3 (fun w' => w'.cell? ⟨w.heap.size, 0, none⟩ = some (.int .i64 s.x) ∧ w'.cell? ⟨w.heap.size, 1, none⟩ = some (.int .i64 s.y) ∧ w'.cell? ⟨w.heap.size, 2, none⟩ = some (.int .i64 s.d.t) ∧ w'.cell? ⟨w.heap.size, 3, none⟩ = some (.int .i64 s.d.n) ∧ w'.cell? ⟨w.heap.size, 4, none⟩ = some (.int .i64 s.d.e) ∧ w'.cell? ⟨w.heap.size, 5, none⟩ = some (.int .i64 s.d.s) ∧ w'.cell? ⟨w.heap.size, 6, none⟩ = some (.int .i64 s.d.w) ∧ w'.cell? ⟨w.heap.size, 7, none⟩ = some (.int .i64 s.d.b)) (first | (refine ⟨?_, ?_, ?_, ?_, ?_, ?_, ?_, ?_⟩ <;> (rw [cell_set8 (by omega)]; with_reducible assumption)) | (refine ⟨?_, ?_, ?_, ?_, ?_, ?_, ?_, ?_⟩ <;> with_reducible assumption) | (refine ⟨?_, ?_, ?_, ?_, ?_, ?_, ?_, ?_⟩ <;> assumption))
    (first
      | (go_at_call 98; (refine (rolled_any 110 s.d _).mono ?_); rintro e w1 ⟨rfl, hb1⟩; rw [HC.out]; obtain ⟨m0, ⟨b0, b1, b2, b3, b4, b5, b6, b7⟩, -⟩ := (isS_to hb1 S0 rfl).all; have R1 := isS_to hb1 R0 rfl; have Q1 := below_to hb1 q0 q0.size rfl rfl rfl rfl; obtain ⟨m1, ⟨c0, c1, c2, c3, c4, c5, c6, c7⟩, f0, f1, f2, f3, f4, f5, f6, f7⟩ := R1.all; clear hb1))
  go_wp2
  refine bodyPost_ret (ret_state Tryd.results87 rfl (R1.set8 ⟨s.x, s.y - 1, rollN s.d⟩)) rfl ⟨by rw [HR.out], ?_⟩
  exact below_set8 Q1 (show w.heap.size ≤ w.heap.size + 1 from by omega) ⟨s.x, s.y - 1, rollN s.d⟩

set_option maxHeartbeats 1600000 in
theorem rolledEast_any (s : St) (w : World) (hx : -100000 ≤ s.x ∧ s.x ≤ 100000) (hy : -100000 ≤ s.y ∧ s.y ≤ 100000) : Calls Tryd.prog 88 #[St.v s] w fun e w' => e = .returned (St.v (rollT s 1)) ∧ Below w.heap.size w w' := by
  obtain ⟨x0, x1⟩ := hx
  obtain ⟨y0, y1⟩ := hy
  have HR := hide (show rollT s 1 = ⟨s.x + 1, s.y, rollE s.d⟩ from rfl)
  have HC := hide (show rollC 101 s.d = rollE s.d from rfl)
  have S0 := (IsS.new (w := w) (s := s) (ty := 32)).alloc (.cells #[.int .i64 0, .int .i64 0, .int .i64 0, .int .i64 0, .int .i64 0, .int .i64 0, .int .i64 0, .int .i64 0] 32)
  have R0 := IsS.new2 (w := w) (o := (.cells #[.int .i64 s.x, .int .i64 s.y, .int .i64 s.d.t, .int .i64 s.d.n, .int .i64 s.d.e, .int .i64 s.d.s, .int .i64 s.d.w, .int .i64 s.d.b] 32)) (s := ⟨0, 0, ⟨0, 0, 0, 0, 0, 0⟩⟩) (ty := 32)
  have q0 : Below w.heap.size w ((w.alloc (.cells #[.int .i64 s.x, .int .i64 s.y, .int .i64 s.d.t, .int .i64 s.d.n, .int .i64 s.d.e, .int .i64 s.d.s, .int .i64 s.d.w, .int .i64 s.d.b] 32)).alloc (.cells #[.int .i64 0, .int .i64 0, .int .i64 0, .int .i64 0, .int .i64 0, .int .i64 0, .int .i64 0, .int .i64 0] 32)) := by go_grown
  have Q1w : IntKind.i64.wrap (s.x + 1) = s.x + 1 := IntWalk.i64_in _ (by omega)
  go_enter Tryd.func88, Tryd.ntmps88
  go_wp2_with fail
  generalize (w.alloc (.cells #[.int .i64 s.x, .int .i64 s.y, .int .i64 s.d.t, .int .i64 s.d.n, .int .i64 s.d.e, .int .i64 s.d.s, .int .i64 s.d.w, .int .i64 s.d.b] 32)).alloc (.cells #[.int .i64 0, .int .i64 0, .int .i64 0, .int .i64 0, .int .i64 0, .int .i64 0, .int .i64 0, .int .i64 0] 32) = W0 at S0 R0 q0 ⊢
  obtain ⟨l0, ⟨a0, a1, a2, a3, a4, a5, a6, a7⟩, -⟩ := S0.all
  clear l0
  go_region_held3 (fun w' => w'.cell? ⟨w.heap.size, 0, none⟩ = some (.int .i64 s.x) ∧ w'.cell? ⟨w.heap.size, 1, none⟩ = some (.int .i64 s.y) ∧ w'.cell? ⟨w.heap.size, 2, none⟩ = some (.int .i64 s.d.t) ∧ w'.cell? ⟨w.heap.size, 3, none⟩ = some (.int .i64 s.d.n) ∧ w'.cell? ⟨w.heap.size, 4, none⟩ = some (.int .i64 s.d.e) ∧ w'.cell? ⟨w.heap.size, 5, none⟩ = some (.int .i64 s.d.s) ∧ w'.cell? ⟨w.heap.size, 6, none⟩ = some (.int .i64 s.d.w) ∧ w'.cell? ⟨w.heap.size, 7, none⟩ = some (.int .i64 s.d.b)) (first | (refine ⟨?_, ?_, ?_, ?_, ?_, ?_, ?_, ?_⟩ <;> (rw [cell_set8 (by omega)]; with_reducible assumption)) | (refine ⟨?_, ?_, ?_, ?_, ?_, ?_, ?_, ?_⟩ <;> with_reducible assumption) | (refine ⟨?_, ?_, ?_, ?_, ?_, ?_, ?_, ?_⟩ <;> assumption))
    (first
      | (go_at_call 98; (refine (rolled_any 101 s.d _).mono ?_); rintro e w1 ⟨rfl, hb1⟩; rw [HC.out]; obtain ⟨m0, ⟨b0, b1, b2, b3, b4, b5, b6, b7⟩, -⟩ := (isS_to hb1 S0 rfl).all; have R1 := isS_to hb1 R0 rfl; have Q1 := below_to hb1 q0 q0.size rfl rfl rfl rfl; obtain ⟨m1, ⟨c0, c1, c2, c3, c4, c5, c6, c7⟩, f0, f1, f2, f3, f4, f5, f6, f7⟩ := R1.all; clear hb1))
  go_wp2
  refine bodyPost_ret (ret_state Tryd.results88 rfl (R1.set8 ⟨s.x + 1, s.y, rollE s.d⟩)) rfl ⟨by rw [HR.out], ?_⟩
  exact below_set8 Q1 (show w.heap.size ≤ w.heap.size + 1 from by omega) ⟨s.x + 1, s.y, rollE s.d⟩

set_option maxHeartbeats 1600000 in
theorem rolledSouth_any (s : St) (w : World) (hx : -100000 ≤ s.x ∧ s.x ≤ 100000) (hy : -100000 ≤ s.y ∧ s.y ≤ 100000) : Calls Tryd.prog 89 #[St.v s] w fun e w' => e = .returned (St.v (rollT s 2)) ∧ Below w.heap.size w w' := by
  obtain ⟨x0, x1⟩ := hx
  obtain ⟨y0, y1⟩ := hy
  have HR := hide (show rollT s 2 = ⟨s.x, s.y + 1, rollS s.d⟩ from rfl)
  have HC := hide (show rollC 115 s.d = rollS s.d from rfl)
  have S0 := (IsS.new (w := w) (s := s) (ty := 32)).alloc (.cells #[.int .i64 0, .int .i64 0, .int .i64 0, .int .i64 0, .int .i64 0, .int .i64 0, .int .i64 0, .int .i64 0] 32)
  have R0 := IsS.new2 (w := w) (o := (.cells #[.int .i64 s.x, .int .i64 s.y, .int .i64 s.d.t, .int .i64 s.d.n, .int .i64 s.d.e, .int .i64 s.d.s, .int .i64 s.d.w, .int .i64 s.d.b] 32)) (s := ⟨0, 0, ⟨0, 0, 0, 0, 0, 0⟩⟩) (ty := 32)
  have q0 : Below w.heap.size w ((w.alloc (.cells #[.int .i64 s.x, .int .i64 s.y, .int .i64 s.d.t, .int .i64 s.d.n, .int .i64 s.d.e, .int .i64 s.d.s, .int .i64 s.d.w, .int .i64 s.d.b] 32)).alloc (.cells #[.int .i64 0, .int .i64 0, .int .i64 0, .int .i64 0, .int .i64 0, .int .i64 0, .int .i64 0, .int .i64 0] 32)) := by go_grown
  have Q1w : IntKind.i64.wrap (s.y + 1) = s.y + 1 := IntWalk.i64_in _ (by omega)
  go_enter Tryd.func89, Tryd.ntmps89
  go_wp2_with fail
  generalize (w.alloc (.cells #[.int .i64 s.x, .int .i64 s.y, .int .i64 s.d.t, .int .i64 s.d.n, .int .i64 s.d.e, .int .i64 s.d.s, .int .i64 s.d.w, .int .i64 s.d.b] 32)).alloc (.cells #[.int .i64 0, .int .i64 0, .int .i64 0, .int .i64 0, .int .i64 0, .int .i64 0, .int .i64 0, .int .i64 0] 32) = W0 at S0 R0 q0 ⊢
  obtain ⟨l0, ⟨a0, a1, a2, a3, a4, a5, a6, a7⟩, -⟩ := S0.all
  clear l0
  go_region_held3 (fun w' => w'.cell? ⟨w.heap.size, 0, none⟩ = some (.int .i64 s.x) ∧ w'.cell? ⟨w.heap.size, 1, none⟩ = some (.int .i64 s.y) ∧ w'.cell? ⟨w.heap.size, 2, none⟩ = some (.int .i64 s.d.t) ∧ w'.cell? ⟨w.heap.size, 3, none⟩ = some (.int .i64 s.d.n) ∧ w'.cell? ⟨w.heap.size, 4, none⟩ = some (.int .i64 s.d.e) ∧ w'.cell? ⟨w.heap.size, 5, none⟩ = some (.int .i64 s.d.s) ∧ w'.cell? ⟨w.heap.size, 6, none⟩ = some (.int .i64 s.d.w) ∧ w'.cell? ⟨w.heap.size, 7, none⟩ = some (.int .i64 s.d.b)) (first | (refine ⟨?_, ?_, ?_, ?_, ?_, ?_, ?_, ?_⟩ <;> (rw [cell_set8 (by omega)]; with_reducible assumption)) | (refine ⟨?_, ?_, ?_, ?_, ?_, ?_, ?_, ?_⟩ <;> with_reducible assumption) | (refine ⟨?_, ?_, ?_, ?_, ?_, ?_, ?_, ?_⟩ <;> assumption))
    (first
      | (go_at_call 98; (refine (rolled_any 115 s.d _).mono ?_); rintro e w1 ⟨rfl, hb1⟩; rw [HC.out]; obtain ⟨m0, ⟨b0, b1, b2, b3, b4, b5, b6, b7⟩, -⟩ := (isS_to hb1 S0 rfl).all; have R1 := isS_to hb1 R0 rfl; have Q1 := below_to hb1 q0 q0.size rfl rfl rfl rfl; obtain ⟨m1, ⟨c0, c1, c2, c3, c4, c5, c6, c7⟩, f0, f1, f2, f3, f4, f5, f6, f7⟩ := R1.all; clear hb1))
  go_wp2
  refine bodyPost_ret (ret_state Tryd.results89 rfl (R1.set8 ⟨s.x, s.y + 1, rollS s.d⟩)) rfl ⟨by rw [HR.out], ?_⟩
  exact below_set8 Q1 (show w.heap.size ≤ w.heap.size + 1 from by omega) ⟨s.x, s.y + 1, rollS s.d⟩

set_option maxHeartbeats 1600000 in
theorem rolledWest_any (s : St) (w : World) (hx : -100000 ≤ s.x ∧ s.x ≤ 100000) (hy : -100000 ≤ s.y ∧ s.y ≤ 100000) : Calls Tryd.prog 90 #[St.v s] w fun e w' => e = .returned (St.v (rollT s 3)) ∧ Below w.heap.size w w' := by
  obtain ⟨x0, x1⟩ := hx
  obtain ⟨y0, y1⟩ := hy
  have HR := hide (show rollT s 3 = ⟨s.x - 1, s.y, rollW s.d⟩ from rfl)
  have HC := hide (show rollC 119 s.d = rollW s.d from rfl)
  have S0 := (IsS.new (w := w) (s := s) (ty := 32)).alloc (.cells #[.int .i64 0, .int .i64 0, .int .i64 0, .int .i64 0, .int .i64 0, .int .i64 0, .int .i64 0, .int .i64 0] 32)
  have R0 := IsS.new2 (w := w) (o := (.cells #[.int .i64 s.x, .int .i64 s.y, .int .i64 s.d.t, .int .i64 s.d.n, .int .i64 s.d.e, .int .i64 s.d.s, .int .i64 s.d.w, .int .i64 s.d.b] 32)) (s := ⟨0, 0, ⟨0, 0, 0, 0, 0, 0⟩⟩) (ty := 32)
  have q0 : Below w.heap.size w ((w.alloc (.cells #[.int .i64 s.x, .int .i64 s.y, .int .i64 s.d.t, .int .i64 s.d.n, .int .i64 s.d.e, .int .i64 s.d.s, .int .i64 s.d.w, .int .i64 s.d.b] 32)).alloc (.cells #[.int .i64 0, .int .i64 0, .int .i64 0, .int .i64 0, .int .i64 0, .int .i64 0, .int .i64 0, .int .i64 0] 32)) := by go_grown
  have Q1w : IntKind.i64.wrap (s.x - 1) = s.x - 1 := IntWalk.i64_in _ (by omega)
  go_enter Tryd.func90, Tryd.ntmps90
  go_wp2_with fail
  generalize (w.alloc (.cells #[.int .i64 s.x, .int .i64 s.y, .int .i64 s.d.t, .int .i64 s.d.n, .int .i64 s.d.e, .int .i64 s.d.s, .int .i64 s.d.w, .int .i64 s.d.b] 32)).alloc (.cells #[.int .i64 0, .int .i64 0, .int .i64 0, .int .i64 0, .int .i64 0, .int .i64 0, .int .i64 0, .int .i64 0] 32) = W0 at S0 R0 q0 ⊢
  obtain ⟨l0, ⟨a0, a1, a2, a3, a4, a5, a6, a7⟩, -⟩ := S0.all
  clear l0
  go_region_held3 (fun w' => w'.cell? ⟨w.heap.size, 0, none⟩ = some (.int .i64 s.x) ∧ w'.cell? ⟨w.heap.size, 1, none⟩ = some (.int .i64 s.y) ∧ w'.cell? ⟨w.heap.size, 2, none⟩ = some (.int .i64 s.d.t) ∧ w'.cell? ⟨w.heap.size, 3, none⟩ = some (.int .i64 s.d.n) ∧ w'.cell? ⟨w.heap.size, 4, none⟩ = some (.int .i64 s.d.e) ∧ w'.cell? ⟨w.heap.size, 5, none⟩ = some (.int .i64 s.d.s) ∧ w'.cell? ⟨w.heap.size, 6, none⟩ = some (.int .i64 s.d.w) ∧ w'.cell? ⟨w.heap.size, 7, none⟩ = some (.int .i64 s.d.b)) (first | (refine ⟨?_, ?_, ?_, ?_, ?_, ?_, ?_, ?_⟩ <;> (rw [cell_set8 (by omega)]; with_reducible assumption)) | (refine ⟨?_, ?_, ?_, ?_, ?_, ?_, ?_, ?_⟩ <;> with_reducible assumption) | (refine ⟨?_, ?_, ?_, ?_, ?_, ?_, ?_, ?_⟩ <;> assumption))
    (first
      | (go_at_call 98; (refine (rolled_any 119 s.d _).mono ?_); rintro e w1 ⟨rfl, hb1⟩; rw [HC.out]; obtain ⟨m0, ⟨b0, b1, b2, b3, b4, b5, b6, b7⟩, -⟩ := (isS_to hb1 S0 rfl).all; have R1 := isS_to hb1 R0 rfl; have Q1 := below_to hb1 q0 q0.size rfl rfl rfl rfl; obtain ⟨m1, ⟨c0, c1, c2, c3, c4, c5, c6, c7⟩, f0, f1, f2, f3, f4, f5, f6, f7⟩ := R1.all; clear hb1))
  go_wp2
  refine bodyPost_ret (ret_state Tryd.results90 rfl (R1.set8 ⟨s.x - 1, s.y, rollW s.d⟩)) rfl ⟨by rw [HR.out], ?_⟩
  exact below_set8 Q1 (show w.heap.size ≤ w.heap.size + 1 from by omega) ⟨s.x - 1, s.y, rollW s.d⟩

/-- The function that a direction stands for. -/
def rollFn (c : UInt8) : FuncId := if c = 110 then 87 else if c = 101 then 88 else if c = 115 then 89 else 90
theorem rollTo_any (c : UInt8) (w : World) (hc : 0 ≤ dirIx c.toNat) : Calls Tryd.prog 79 #[.int .u8 (c.toNat : Int)] w fun e w' => e = .returned (.func (.func (rollFn c)) #[] #[]) ∧ w = w' := by
  rcases dir_cases c hc with rfl | rfl | rfl | rfl <;> clear hc
  all_goals
    go_enter Tryd.func79, Tryd.ntmps79
    go_wp2
    go_returns
    exact ⟨rfl, rfl⟩
theorem rollFn_any (c : UInt8) (s : St) (w : World) (hc : 0 ≤ dirIx c.toNat) (hx : -100000 ≤ s.x ∧ s.x ≤ 100000) (hy : -100000 ≤ s.y ∧ s.y ≤ 100000) : Calls Tryd.prog (rollFn c) #[St.v s] w fun e w' => e = .returned (St.v (rollT s (dirIx c.toNat))) ∧ Below w.heap.size w w' := by
  rcases dir_cases c hc with rfl | rfl | rfl | rfl
  · exact rolledNorth_any s w hx hy
  · exact rolledEast_any s w hx hy
  · exact rolledSouth_any s w hx hy
  · exact rolledWest_any s w hx hy
end Go.Proofs.YtlbhlnhhiacbnaaDoor
