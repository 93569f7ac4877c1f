/- Boxes tipped over an edge: spec.bxTip, impl.tipped, for boxes near a ground. -/
import Derived.Test.YtoojoghgbmpbpaaDoorBoxOn
import Derived.StillTailTactics
namespace Go.Proofs.YtoojoghgbmpbpaaDoor
set_option maxRecDepth 100000
set_option linter.all false
open Go.RowKit

def tpo (p l : Int) : Int := if p = 0 then l else if p = l then 0 else p
theorem tippedPose_any (p l : Int) (w : World) : Calls Tryd.prog 65 #[.int .i64 p, .int .i64 l] w fun e w' => e = .returned (.int .i64 (tpo p l)) ∧ w = w' := by
  by_cases h0 : p = 0
  · have HE := hide (show tpo p l = l from if_pos h0)
    have q1 : (p == 0) = true := beq_iff_eq.2 h0
    clear h0
    go_enter Tryd.func65, Tryd.ntmps65
    go_wp2
    go_returns
    exact ⟨ret_int HE.out.symm, rfl⟩
  · have q1 : (p == 0) = false := beq_eq_false_iff_ne.2 h0
    by_cases h1 : p = l
    · have HE := hide (show tpo p l = 0 from by unfold tpo; rw [if_neg h0, if_pos h1])
      have q2 : (p == l) = true := beq_iff_eq.2 h1
      clear h0 h1
      go_enter Tryd.func65, Tryd.ntmps65
      go_wp2
      go_returns
      exact ⟨ret_int HE.out.symm, rfl⟩
    · have HE := hide (show tpo p l = p from by unfold tpo; rw [if_neg h0, if_neg h1])
      have q2 : (p == l) = false := beq_eq_false_iff_ne.2 h1
      clear h0 h1
      go_enter Tryd.func65, Tryd.ntmps65
      go_wp2
      go_returns
      exact ⟨ret_int HE.out.symm, rfl⟩
theorem specTip00 (x y : Int) (hx : 0 ≤ x ∧ x ≤ 6) (hy : 0 ≤ y ∧ y ≤ 6) (w : World) : Calls Tryd.prog 63 #[Bx.v ⟨x, y, 0⟩, .int .i64 0] w fun e w' => e = .returned (Bx.v ⟨x, y - 2, 2⟩) ∧ Below w.heap.size w w' := by
  have hw : wrap64 (y - 2) = y - 2 := IntWalk.wrap64_in _ (by omega)
  have hw2 : IntKind.i64.wrap (y - 2) = y - 2 := IntWalk.i64_in _ (by omega)
  clear hx hy
  go_enter Tryd.func63, Tryd.ntmps63
  go_wp2_with (first | go_in)
  have R0 : IsX (((w.alloc (.cells #[.int .i64 x, .int .i64 y, .int .i64 0] 27)).alloc (.cells #[.int .i64 (x), .int .i64 (y - 2), .int .i64 2] 27)).alloc (.cells #[.int .i64 (x), .int .i64 (y - 2), .int .i64 2] 27)) (w.heap.size + 1) ⟨x, y - 2, 2⟩ 27 := (IsX.new2 (q := ⟨x, y - 2, 2⟩)).alloc _
  exact bodyPost_ret (ret_box Tryd.results63 rfl R0) rfl ⟨rfl, by go_grown⟩
theorem specTip01 (x y : Int) (hx : 0 ≤ x ∧ x ≤ 6) (hy : 0 ≤ y ∧ y ≤ 6) (w : World) : Calls Tryd.prog 63 #[Bx.v ⟨x, y, 1⟩, .int .i64 0] w fun e w' => e = .returned (Bx.v ⟨x, y - 1, 1⟩) ∧ Below w.heap.size w w' := by
  have hw : wrap64 (y - 1) = y - 1 := IntWalk.wrap64_in _ (by omega)
  have hw2 : IntKind.i64.wrap (y - 1) = y - 1 := IntWalk.i64_in _ (by omega)
  clear hx hy
  go_enter Tryd.func63, Tryd.ntmps63
  go_wp2_with (first | go_in)
  have R0 : IsX (((w.alloc (.cells #[.int .i64 x, .int .i64 y, .int .i64 1] 27)).alloc (.cells #[.int .i64 (x), .int .i64 (y - 1), .int .i64 1] 27)).alloc (.cells #[.int .i64 (x), .int .i64 (y - 1), .int .i64 1] 27)) (w.heap.size + 1) ⟨x, y - 1, 1⟩ 27 := (IsX.new2 (q := ⟨x, y - 1, 1⟩)).alloc _
  exact bodyPost_ret (ret_box Tryd.results63 rfl R0) rfl ⟨rfl, by go_grown⟩
theorem specTip02 (x y : Int) (hx : 0 ≤ x ∧ x ≤ 6) (hy : 0 ≤ y ∧ y ≤ 6) (w : World) : Calls Tryd.prog 63 #[Bx.v ⟨x, y, 2⟩, .int .i64 0] w fun e w' => e = .returned (Bx.v ⟨x, y - 1, 0⟩) ∧ Below w.heap.size w w' := by
  have hw : wrap64 (y - 1) = y - 1 := IntWalk.wrap64_in _ (by omega)
  have hw2 : IntKind.i64.wrap (y - 1) = y - 1 := IntWalk.i64_in _ (by omega)
  clear hx hy
  go_enter Tryd.func63, Tryd.ntmps63
  go_wp2_with (first | go_in)
  have R0 : IsX (((w.alloc (.cells #[.int .i64 x, .int .i64 y, .int .i64 2] 27)).alloc (.cells #[.int .i64 (x), .int .i64 (y - 1), .int .i64 0] 27)).alloc (.cells #[.int .i64 (x), .int .i64 (y - 1), .int .i64 0] 27)) (w.heap.size + 1) ⟨x, y - 1, 0⟩ 27 := (IsX.new2 (q := ⟨x, y - 1, 0⟩)).alloc _
  exact bodyPost_ret (ret_box Tryd.results63 rfl R0) rfl ⟨rfl, by go_grown⟩
theorem specTip10 (x y : Int) (hx : 0 ≤ x ∧ x ≤ 6) (hy : 0 ≤ y ∧ y ≤ 6) (w : World) : Calls Tryd.prog 63 #[Bx.v ⟨x, y, 0⟩, .int .i64 1] w fun e w' => e = .returned (Bx.v ⟨x + 1, y, 1⟩) ∧ Below w.heap.size w w' := by
  have hw : wrap64 (x + 1) = x + 1 := IntWalk.wrap64_in _ (by omega)
  have hw2 : IntKind.i64.wrap (x + 1) = x + 1 := IntWalk.i64_in _ (by omega)
  clear hx hy
  go_enter Tryd.func63, Tryd.ntmps63
  go_wp2_with (first | go_in)
  have R0 : IsX (((w.alloc (.cells #[.int .i64 x, .int .i64 y, .int .i64 0] 27)).alloc (.cells #[.int .i64 (x + 1), .int .i64 (y), .int .i64 1] 27)).alloc (.cells #[.int .i64 (x + 1), .int .i64 (y), .int .i64 1] 27)) (w.heap.size + 1) ⟨x + 1, y, 1⟩ 27 := (IsX.new2 (q := ⟨x + 1, y, 1⟩)).alloc _
  exact bodyPost_ret (ret_box Tryd.results63 rfl R0) rfl ⟨rfl, by go_grown⟩
theorem specTip11 (x y : Int) (hx : 0 ≤ x ∧ x ≤ 6) (hy : 0 ≤ y ∧ y ≤ 6) (w : World) : Calls Tryd.prog 63 #[Bx.v ⟨x, y, 1⟩, .int .i64 1] w fun e w' => e = .returned (Bx.v ⟨x + 2, y, 0⟩) ∧ Below w.heap.size w w' := by
  have hw : wrap64 (x + 2) = x + 2 := IntWalk.wrap64_in _ (by omega)
  have hw2 : IntKind.i64.wrap (x + 2) = x + 2 := IntWalk.i64_in _ (by omega)
  clear hx hy
  go_enter Tryd.func63, Tryd.ntmps63
  go_wp2_with (first | go_in)
  have R0 : IsX (((w.alloc (.cells #[.int .i64 x, .int .i64 y, .int .i64 1] 27)).alloc (.cells #[.int .i64 (x + 2), .int .i64 (y), .int .i64 0] 27)).alloc (.cells #[.int .i64 (x + 2), .int .i64 (y), .int .i64 0] 27)) (w.heap.size + 1) ⟨x + 2, y, 0⟩ 27 := (IsX.new2 (q := ⟨x + 2, y, 0⟩)).alloc _
  exact bodyPost_ret (ret_box Tryd.results63 rfl R0) rfl ⟨rfl, by go_grown⟩
theorem specTip12 (x y : Int) (hx : 0 ≤ x ∧ x ≤ 6) (hy : 0 ≤ y ∧ y ≤ 6) (w : World) : Calls Tryd.prog 63 #[Bx.v ⟨x, y, 2⟩, .int .i64 1] w fun e w' => e = .returned (Bx.v ⟨x + 1, y, 2⟩) ∧ Below w.heap.size w w' := by
  have hw : wrap64 (x + 1) = x + 1 := IntWalk.wrap64_in _ (by omega)
  have hw2 : IntKind.i64.wrap (x + 1) = x + 1 := IntWalk.i64_in _ (by omega)
  clear hx hy
  go_enter Tryd.func63, Tryd.ntmps63
  go_wp2_with (first | go_in)
  have R0 : IsX (((w.alloc (.cells #[.int .i64 x, .int .i64 y, .int .i64 2] 27)).alloc (.cells #[.int .i64 (x + 1), .int .i64 (y), .int .i64 2] 27)).alloc (.cells #[.int .i64 (x + 1), .int .i64 (y), .int .i64 2] 27)) (w.heap.size + 1) ⟨x + 1, y, 2⟩ 27 := (IsX.new2 (q := ⟨x + 1, y, 2⟩)).alloc _
  exact bodyPost_ret (ret_box Tryd.results63 rfl R0) rfl ⟨rfl, by go_grown⟩
theorem specTip20 (x y : Int) (hx : 0 ≤ x ∧ x ≤ 6) (hy : 0 ≤ y ∧ y ≤ 6) (w : World) : Calls Tryd.prog 63 #[Bx.v ⟨x, y, 0⟩, .int .i64 2] w fun e w' => e = .returned (Bx.v ⟨x, y + 1, 2⟩) ∧ Below w.heap.size w w' := by
  have hw : wrap64 (y + 1) = y + 1 := IntWalk.wrap64_in _ (by omega)
  have hw2 : IntKind.i64.wrap (y + 1) = y + 1 := IntWalk.i64_in _ (by omega)
  clear hx hy
  go_enter Tryd.func63, Tryd.ntmps63
  go_wp2_with (first | go_in)
  have R0 : IsX (((w.alloc (.cells #[.int .i64 x, .int .i64 y, .int .i64 0] 27)).alloc (.cells #[.int .i64 (x), .int .i64 (y + 1), .int .i64 2] 27)).alloc (.cells #[.int .i64 (x), .int .i64 (y + 1), .int .i64 2] 27)) (w.heap.size + 1) ⟨x, y + 1, 2⟩ 27 := (IsX.new2 (q := ⟨x, y + 1, 2⟩)).alloc _
  exact bodyPost_ret (ret_box Tryd.results63 rfl R0) rfl ⟨rfl, by go_grown⟩
theorem specTip21 (x y : Int) (hx : 0 ≤ x ∧ x ≤ 6) (hy : 0 ≤ y ∧ y ≤ 6) (w : World) : Calls Tryd.prog 63 #[Bx.v ⟨x, y, 1⟩, .int .i64 2] w fun e w' => e = .returned (Bx.v ⟨x, y + 1, 1⟩) ∧ Below w.heap.size w w' := by
  have hw : wrap64 (y + 1) = y + 1 := IntWalk.wrap64_in _ (by omega)
  have hw2 : IntKind.i64.wrap (y + 1) = y + 1 := IntWalk.i64_in _ (by omega)
  clear hx hy
  go_enter Tryd.func63, Tryd.ntmps63
  go_wp2_with (first | go_in)
  have R0 : IsX (((w.alloc (.cells #[.int .i64 x, .int .i64 y, .int .i64 1] 27)).alloc (.cells #[.int .i64 (x), .int .i64 (y + 1), .int .i64 1] 27)).alloc (.cells #[.int .i64 (x), .int .i64 (y + 1), .int .i64 1] 27)) (w.heap.size + 1) ⟨x, y + 1, 1⟩ 27 := (IsX.new2 (q := ⟨x, y + 1, 1⟩)).alloc _
  exact bodyPost_ret (ret_box Tryd.results63 rfl R0) rfl ⟨rfl, by go_grown⟩
theorem specTip22 (x y : Int) (hx : 0 ≤ x ∧ x ≤ 6) (hy : 0 ≤ y ∧ y ≤ 6) (w : World) : Calls Tryd.prog 63 #[Bx.v ⟨x, y, 2⟩, .int .i64 2] w fun e w' => e = .returned (Bx.v ⟨x, y + 2, 0⟩) ∧ Below w.heap.size w w' := by
  have hw : wrap64 (y + 2) = y + 2 := IntWalk.wrap64_in _ (by omega)
  have hw2 : IntKind.i64.wrap (y + 2) = y + 2 := IntWalk.i64_in _ (by omega)
  clear hx hy
  go_enter Tryd.func63, Tryd.ntmps63
  go_wp2_with (first | go_in)
  have R0 : IsX (((w.alloc (.cells #[.int .i64 x, .int .i64 y, .int .i64 2] 27)).alloc (.cells #[.int .i64 (x), .int .i64 (y + 2), .int .i64 0] 27)).alloc (.cells #[.int .i64 (x), .int .i64 (y + 2), .int .i64 0] 27)) (w.heap.size + 1) ⟨x, y + 2, 0⟩ 27 := (IsX.new2 (q := ⟨x, y + 2, 0⟩)).alloc _
  exact bodyPost_ret (ret_box Tryd.results63 rfl R0) rfl ⟨rfl, by go_grown⟩
theorem specTip30 (x y : Int) (hx : 0 ≤ x ∧ x ≤ 6) (hy : 0 ≤ y ∧ y ≤ 6) (w : World) : Calls Tryd.prog 63 #[Bx.v ⟨x, y, 0⟩, .int .i64 3] w fun e w' => e = .returned (Bx.v ⟨x - 2, y, 1⟩) ∧ Below w.heap.size w w' := by
  have hw : wrap64 (x - 2) = x - 2 := IntWalk.wrap64_in _ (by omega)
  have hw2 : IntKind.i64.wrap (x - 2) = x - 2 := IntWalk.i64_in _ (by omega)
  clear hx hy
  go_enter Tryd.func63, Tryd.ntmps63
  go_wp2_with (first | go_in)
  have R0 : IsX (((w.alloc (.cells #[.int .i64 x, .int .i64 y, .int .i64 0] 27)).alloc (.cells #[.int .i64 (x - 2), .int .i64 (y), .int .i64 1] 27)).alloc (.cells #[.int .i64 (x - 2), .int .i64 (y), .int .i64 1] 27)) (w.heap.size + 1) ⟨x - 2, y, 1⟩ 27 := (IsX.new2 (q := ⟨x - 2, y, 1⟩)).alloc _
  exact bodyPost_ret (ret_box Tryd.results63 rfl R0) rfl ⟨rfl, by go_grown⟩
theorem specTip31 (x y : Int) (hx : 0 ≤ x ∧ x ≤ 6) (hy : 0 ≤ y ∧ y ≤ 6) (w : World) : Calls Tryd.prog 63 #[Bx.v ⟨x, y, 1⟩, .int .i64 3] w fun e w' => e = .returned (Bx.v ⟨x - 1, y, 0⟩) ∧ Below w.heap.size w w' := by
  have hw : wrap64 (x - 1) = x - 1 := IntWalk.wrap64_in _ (by omega)
  have hw2 : IntKind.i64.wrap (x - 1) = x - 1 := IntWalk.i64_in _ (by omega)
  clear hx hy
  go_enter Tryd.func63, Tryd.ntmps63
  go_wp2_with (first | go_in)
  have R0 : IsX (((w.alloc (.cells #[.int .i64 x, .int .i64 y, .int .i64 1] 27)).alloc (.cells #[.int .i64 (x - 1), .int .i64 (y), .int .i64 0] 27)).alloc (.cells #[.int .i64 (x - 1), .int .i64 (y), .int .i64 0] 27)) (w.heap.size + 1) ⟨x - 1, y, 0⟩ 27 := (IsX.new2 (q := ⟨x - 1, y, 0⟩)).alloc _
  exact bodyPost_ret (ret_box Tryd.results63 rfl R0) rfl ⟨rfl, by go_grown⟩
theorem specTip32 (x y : Int) (hx : 0 ≤ x ∧ x ≤ 6) (hy : 0 ≤ y ∧ y ≤ 6) (w : World) : Calls Tryd.prog 63 #[Bx.v ⟨x, y, 2⟩, .int .i64 3] w fun e w' => e = .returned (Bx.v ⟨x - 1, y, 2⟩) ∧ Below w.heap.size w w' := by
  have hw : wrap64 (x - 1) = x - 1 := IntWalk.wrap64_in _ (by omega)
  have hw2 : IntKind.i64.wrap (x - 1) = x - 1 := IntWalk.i64_in _ (by omega)
  clear hx hy
  go_enter Tryd.func63, Tryd.ntmps63
  go_wp2_with (first | go_in)
  have R0 : IsX (((w.alloc (.cells #[.int .i64 x, .int .i64 y, .int .i64 2] 27)).alloc (.cells #[.int .i64 (x - 1), .int .i64 (y), .int .i64 2] 27)).alloc (.cells #[.int .i64 (x - 1), .int .i64 (y), .int .i64 2] 27)) (w.heap.size + 1) ⟨x - 1, y, 2⟩ 27 := (IsX.new2 (q := ⟨x - 1, y, 2⟩)).alloc _
  exact bodyPost_ret (ret_box Tryd.results63 rfl R0) rfl ⟨rfl, by go_grown⟩
set_option maxHeartbeats 800000 in
theorem implTip00 (x y : Int) (hx : 0 ≤ x ∧ x ≤ 6) (hy : 0 ≤ y ∧ y ≤ 6) (w : World) : Calls Tryd.prog 46 #[Bx.v ⟨x, y, 0⟩, .int .u8 110] w fun e w' => e = .returned (Bx.v ⟨x, y - 2, 2⟩) ∧ Below w.heap.size w w' := by
  have hw : wrap64 (y - 2) = y - 2 := IntWalk.wrap64_in _ (by omega)
  have hw2 : IntKind.i64.wrap (y - 2) = y - 2 := IntWalk.i64_in _ (by omega)
  clear hx hy
  go_enter Tryd.func46, Tryd.ntmps46
  go_wp2_with (go_at_call 65; refine (tippedPose_any _ _ _).mono ?_; rintro e w' ⟨rfl, rfl⟩; rw [show tpo 0 2 = 2 from rfl])
  have X0 : IsX ((w.alloc (.cells #[.int .i64 x, .int .i64 y, .int .i64 0] 27)).alloc (.cells #[.int .i64 0, .int .i64 0, .int .i64 0] 27)) w.heap.size ⟨x, y, 0⟩ 27 := (IsX.new (q := ⟨x, y, 0⟩)).alloc _
  have R0 : IsX ((w.alloc (.cells #[.int .i64 x, .int .i64 y, .int .i64 0] 27)).alloc (.cells #[.int .i64 0, .int .i64 0, .int .i64 0] 27)) (w.heap.size + 1) ⟨0, 0, 0⟩ 27 := IsX.new2 (q := ⟨0, 0, 0⟩)
  have q0 : Below w.heap.size w ((w.alloc (.cells #[.int .i64 x, .int .i64 y, .int .i64 0] 27)).alloc (.cells #[.int .i64 0, .int .i64 0, .int .i64 0] 27)) := by go_grown
  generalize (w.alloc (.cells #[.int .i64 x, .int .i64 y, .int .i64 0] 27)).alloc (.cells #[.int .i64 0, .int .i64 0, .int .i64 0] 27) = W1 at X0 R0 q0 ⊢
  obtain ⟨l0, ⟨c0, c1, c2⟩, f0, f1, f2⟩ := X0.all
  obtain ⟨l1, ⟨d0, d1, d2⟩, g0, g1, g2⟩ := R0.all
  go_still_tail 7, (by kernel_rfl)
  still_call ((cellsInLine_any _ _ _).mono fun _ _ h => ⟨h.1, h.2.symm⟩)
  rw [show clin 2 2 = 2 from rfl]
  repeat still_step
  refine wpStill_nil ?_
  change wpList _ _ _ _ _ W1.drew
  go_wp2
  have X1 := (X0.set1 (y - 2)).set2 2
  have R1 := ((R0.other (p := ⟨w.heap.size, 1, none⟩) (by simp) (.int .i64 (y - 2))).other (p := ⟨w.heap.size, 2, none⟩) (by simp) (.int .i64 2)).set3 ⟨x, y - 2, 2⟩
  refine bodyPost_ret (ret_box Tryd.results46 rfl R1.drew) rfl ⟨rfl, ?_⟩
  exact (below_setX ((q0.setCell (by simp) _).setCell (by simp) _) (by simp) ⟨x, y - 2, 2⟩).drew
set_option maxHeartbeats 800000 in
theorem implTip01 (x y : Int) (hx : 0 ≤ x ∧ x ≤ 6) (hy : 0 ≤ y ∧ y ≤ 6) (w : World) : Calls Tryd.prog 46 #[Bx.v ⟨x, y, 1⟩, .int .u8 110] w fun e w' => e = .returned (Bx.v ⟨x, y - 1, 1⟩) ∧ Below w.heap.size w w' := by
  have hw : wrap64 (y - 1) = y - 1 := IntWalk.wrap64_in _ (by omega)
  have hw2 : IntKind.i64.wrap (y - 1) = y - 1 := IntWalk.i64_in _ (by omega)
  clear hx hy
  go_enter Tryd.func46, Tryd.ntmps46
  go_wp2_with (go_at_call 65; refine (tippedPose_any _ _ _).mono ?_; rintro e w' ⟨rfl, rfl⟩; rw [show tpo 1 2 = 1 from rfl])
  have X0 : IsX ((w.alloc (.cells #[.int .i64 x, .int .i64 y, .int .i64 1] 27)).alloc (.cells #[.int .i64 0, .int .i64 0, .int .i64 0] 27)) w.heap.size ⟨x, y, 1⟩ 27 := (IsX.new (q := ⟨x, y, 1⟩)).alloc _
  have R0 : IsX ((w.alloc (.cells #[.int .i64 x, .int .i64 y, .int .i64 1] 27)).alloc (.cells #[.int .i64 0, .int .i64 0, .int .i64 0] 27)) (w.heap.size + 1) ⟨0, 0, 0⟩ 27 := IsX.new2 (q := ⟨0, 0, 0⟩)
  have q0 : Below w.heap.size w ((w.alloc (.cells #[.int .i64 x, .int .i64 y, .int .i64 1] 27)).alloc (.cells #[.int .i64 0, .int .i64 0, .int .i64 0] 27)) := by go_grown
  generalize (w.alloc (.cells #[.int .i64 x, .int .i64 y, .int .i64 1] 27)).alloc (.cells #[.int .i64 0, .int .i64 0, .int .i64 0] 27) = W1 at X0 R0 q0 ⊢
  obtain ⟨l0, ⟨c0, c1, c2⟩, f0, f1, f2⟩ := X0.all
  obtain ⟨l1, ⟨d0, d1, d2⟩, g0, g1, g2⟩ := R0.all
  go_still_tail 7, (by kernel_rfl)
  still_call ((cellsInLine_any _ _ _).mono fun _ _ h => ⟨h.1, h.2.symm⟩)
  rw [show clin 1 2 = 1 from rfl]
  repeat still_step
  refine wpStill_nil ?_
  change wpList _ _ _ _ _ W1.drew
  go_wp2
  have X1 := (X0.set1 (y - 1)).set2 1
  have R1 := ((R0.other (p := ⟨w.heap.size, 1, none⟩) (by simp) (.int .i64 (y - 1))).other (p := ⟨w.heap.size, 2, none⟩) (by simp) (.int .i64 1)).set3 ⟨x, y - 1, 1⟩
  refine bodyPost_ret (ret_box Tryd.results46 rfl R1.drew) rfl ⟨rfl, ?_⟩
  exact (below_setX ((q0.setCell (by simp) _).setCell (by simp) _) (by simp) ⟨x, y - 1, 1⟩).drew
set_option maxHeartbeats 800000 in
theorem implTip02 (x y : Int) (hx : 0 ≤ x ∧ x ≤ 6) (hy : 0 ≤ y ∧ y ≤ 6) (w : World) : Calls Tryd.prog 46 #[Bx.v ⟨x, y, 2⟩, .int .u8 110] w fun e w' => e = .returned (Bx.v ⟨x, y - 1, 0⟩) ∧ Below w.heap.size w w' := by
  have hw : wrap64 (y - 1) = y - 1 := IntWalk.wrap64_in _ (by omega)
  have hw2 : IntKind.i64.wrap (y - 1) = y - 1 := IntWalk.i64_in _ (by omega)
  clear hx hy
  go_enter Tryd.func46, Tryd.ntmps46
  go_wp2_with (go_at_call 65; refine (tippedPose_any _ _ _).mono ?_; rintro e w' ⟨rfl, rfl⟩; rw [show tpo 2 2 = 0 from rfl])
  have X0 : IsX ((w.alloc (.cells #[.int .i64 x, .int .i64 y, .int .i64 2] 27)).alloc (.cells #[.int .i64 0, .int .i64 0, .int .i64 0] 27)) w.heap.size ⟨x, y, 2⟩ 27 := (IsX.new (q := ⟨x, y, 2⟩)).alloc _
  have R0 : IsX ((w.alloc (.cells #[.int .i64 x, .int .i64 y, .int .i64 2] 27)).alloc (.cells #[.int .i64 0, .int .i64 0, .int .i64 0] 27)) (w.heap.size + 1) ⟨0, 0, 0⟩ 27 := IsX.new2 (q := ⟨0, 0, 0⟩)
  have q0 : Below w.heap.size w ((w.alloc (.cells #[.int .i64 x, .int .i64 y, .int .i64 2] 27)).alloc (.cells #[.int .i64 0, .int .i64 0, .int .i64 0] 27)) := by go_grown
  generalize (w.alloc (.cells #[.int .i64 x, .int .i64 y, .int .i64 2] 27)).alloc (.cells #[.int .i64 0, .int .i64 0, .int .i64 0] 27) = W1 at X0 R0 q0 ⊢
  obtain ⟨l0, ⟨c0, c1, c2⟩, f0, f1, f2⟩ := X0.all
  obtain ⟨l1, ⟨d0, d1, d2⟩, g0, g1, g2⟩ := R0.all
  go_still_tail 7, (by kernel_rfl)
  still_call ((cellsInLine_any _ _ _).mono fun _ _ h => ⟨h.1, h.2.symm⟩)
  rw [show clin 0 2 = 1 from rfl]
  repeat still_step
  refine wpStill_nil ?_
  change wpList _ _ _ _ _ W1.drew
  go_wp2
  have X1 := (X0.set1 (y - 1)).set2 0
  have R1 := ((R0.other (p := ⟨w.heap.size, 1, none⟩) (by simp) (.int .i64 (y - 1))).other (p := ⟨w.heap.size, 2, none⟩) (by simp) (.int .i64 0)).set3 ⟨x, y - 1, 0⟩
  refine bodyPost_ret (ret_box Tryd.results46 rfl R1.drew) rfl ⟨rfl, ?_⟩
  exact (below_setX ((q0.setCell (by simp) _).setCell (by simp) _) (by simp) ⟨x, y - 1, 0⟩).drew
set_option maxHeartbeats 800000 in
theorem implTip10 (x y : Int) (hx : 0 ≤ x ∧ x ≤ 6) (hy : 0 ≤ y ∧ y ≤ 6) (w : World) : Calls Tryd.prog 46 #[Bx.v ⟨x, y, 0⟩, .int .u8 101] w fun e w' => e = .returned (Bx.v ⟨x + 1, y, 1⟩) ∧ Below w.heap.size w w' := by
  have hw : wrap64 (x + 1) = x + 1 := IntWalk.wrap64_in _ (by omega)
  have hw2 : IntKind.i64.wrap (x + 1) = x + 1 := IntWalk.i64_in _ (by omega)
  clear hx hy
  go_enter Tryd.func46, Tryd.ntmps46
  go_wp2_with (go_at_call 65; refine (tippedPose_any _ _ _).mono ?_; rintro e w' ⟨rfl, rfl⟩; rw [show tpo 0 1 = 1 from rfl])
  have X0 : IsX ((w.alloc (.cells #[.int .i64 x, .int .i64 y, .int .i64 0] 27)).alloc (.cells #[.int .i64 0, .int .i64 0, .int .i64 0] 27)) w.heap.size ⟨x, y, 0⟩ 27 := (IsX.new (q := ⟨x, y, 0⟩)).alloc _
  have R0 : IsX ((w.alloc (.cells #[.int .i64 x, .int .i64 y, .int .i64 0] 27)).alloc (.cells #[.int .i64 0, .int .i64 0, .int .i64 0] 27)) (w.heap.size + 1) ⟨0, 0, 0⟩ 27 := IsX.new2 (q := ⟨0, 0, 0⟩)
  have q0 : Below w.heap.size w ((w.alloc (.cells #[.int .i64 x, .int .i64 y, .int .i64 0] 27)).alloc (.cells #[.int .i64 0, .int .i64 0, .int .i64 0] 27)) := by go_grown
  generalize (w.alloc (.cells #[.int .i64 x, .int .i64 y, .int .i64 0] 27)).alloc (.cells #[.int .i64 0, .int .i64 0, .int .i64 0] 27) = W1 at X0 R0 q0 ⊢
  obtain ⟨l0, ⟨c0, c1, c2⟩, f0, f1, f2⟩ := X0.all
  obtain ⟨l1, ⟨d0, d1, d2⟩, g0, g1, g2⟩ := R0.all
  go_still_tail 8, (by kernel_rfl)
  still_call ((cellsInLine_any _ _ _).mono fun _ _ h => ⟨h.1, h.2.symm⟩)
  rw [show clin 0 1 = 1 from rfl]
  repeat still_step
  refine wpStill_nil ?_
  change wpList _ _ _ _ _ W1.drew
  go_wp2
  have X1 := (X0.set0 (x + 1)).set2 1
  have R1 := ((R0.other (p := ⟨w.heap.size, 0, none⟩) (by simp) (.int .i64 (x + 1))).other (p := ⟨w.heap.size, 2, none⟩) (by simp) (.int .i64 1)).set3 ⟨x + 1, y, 1⟩
  refine bodyPost_ret (ret_box Tryd.results46 rfl R1.drew) rfl ⟨rfl, ?_⟩
  exact (below_setX ((q0.setCell (by simp) _).setCell (by simp) _) (by simp) ⟨x + 1, y, 1⟩).drew
set_option maxHeartbeats 800000 in
theorem implTip11 (x y : Int) (hx : 0 ≤ x ∧ x ≤ 6) (hy : 0 ≤ y ∧ y ≤ 6) (w : World) : Calls Tryd.prog 46 #[Bx.v ⟨x, y, 1⟩, .int .u8 101] w fun e w' => e = .returned (Bx.v ⟨x + 2, y, 0⟩) ∧ Below w.heap.size w w' := by
  have hw : wrap64 (x + 2) = x + 2 := IntWalk.wrap64_in _ (by omega)
  have hw2 : IntKind.i64.wrap (x + 2) = x + 2 := IntWalk.i64_in _ (by omega)
  clear hx hy
  go_enter Tryd.func46, Tryd.ntmps46
  go_wp2_with (go_at_call 65; refine (tippedPose_any _ _ _).mono ?_; rintro e w' ⟨rfl, rfl⟩; rw [show tpo 1 1 = 0 from rfl])
  have X0 : IsX ((w.alloc (.cells #[.int .i64 x, .int .i64 y, .int .i64 1] 27)).alloc (.cells #[.int .i64 0, .int .i64 0, .int .i64 0] 27)) w.heap.size ⟨x, y, 1⟩ 27 := (IsX.new (q := ⟨x, y, 1⟩)).alloc _
  have R0 : IsX ((w.alloc (.cells #[.int .i64 x, .int .i64 y, .int .i64 1] 27)).alloc (.cells #[.int .i64 0, .int .i64 0, .int .i64 0] 27)) (w.heap.size + 1) ⟨0, 0, 0⟩ 27 := IsX.new2 (q := ⟨0, 0, 0⟩)
  have q0 : Below w.heap.size w ((w.alloc (.cells #[.int .i64 x, .int .i64 y, .int .i64 1] 27)).alloc (.cells #[.int .i64 0, .int .i64 0, .int .i64 0] 27)) := by go_grown
  generalize (w.alloc (.cells #[.int .i64 x, .int .i64 y, .int .i64 1] 27)).alloc (.cells #[.int .i64 0, .int .i64 0, .int .i64 0] 27) = W1 at X0 R0 q0 ⊢
  obtain ⟨l0, ⟨c0, c1, c2⟩, f0, f1, f2⟩ := X0.all
  obtain ⟨l1, ⟨d0, d1, d2⟩, g0, g1, g2⟩ := R0.all
  go_still_tail 8, (by kernel_rfl)
  still_call ((cellsInLine_any _ _ _).mono fun _ _ h => ⟨h.1, h.2.symm⟩)
  rw [show clin 1 1 = 2 from rfl]
  repeat still_step
  refine wpStill_nil ?_
  change wpList _ _ _ _ _ W1.drew
  go_wp2
  have X1 := (X0.set0 (x + 2)).set2 0
  have R1 := ((R0.other (p := ⟨w.heap.size, 0, none⟩) (by simp) (.int .i64 (x + 2))).other (p := ⟨w.heap.size, 2, none⟩) (by simp) (.int .i64 0)).set3 ⟨x + 2, y, 0⟩
  refine bodyPost_ret (ret_box Tryd.results46 rfl R1.drew) rfl ⟨rfl, ?_⟩
  exact (below_setX ((q0.setCell (by simp) _).setCell (by simp) _) (by simp) ⟨x + 2, y, 0⟩).drew
set_option maxHeartbeats 800000 in
theorem implTip12 (x y : Int) (hx : 0 ≤ x ∧ x ≤ 6) (hy : 0 ≤ y ∧ y ≤ 6) (w : World) : Calls Tryd.prog 46 #[Bx.v ⟨x, y, 2⟩, .int .u8 101] w fun e w' => e = .returned (Bx.v ⟨x + 1, y, 2⟩) ∧ Below w.heap.size w w' := by
  have hw : wrap64 (x + 1) = x + 1 := IntWalk.wrap64_in _ (by omega)
  have hw2 : IntKind.i64.wrap (x + 1) = x + 1 := IntWalk.i64_in _ (by omega)
  clear hx hy
  go_enter Tryd.func46, Tryd.ntmps46
  go_wp2_with (go_at_call 65; refine (tippedPose_any _ _ _).mono ?_; rintro e w' ⟨rfl, rfl⟩; rw [show tpo 2 1 = 2 from rfl])
  have X0 : IsX ((w.alloc (.cells #[.int .i64 x, .int .i64 y, .int .i64 2] 27)).alloc (.cells #[.int .i64 0, .int .i64 0, .int .i64 0] 27)) w.heap.size ⟨x, y, 2⟩ 27 := (IsX.new (q := ⟨x, y, 2⟩)).alloc _
  have R0 : IsX ((w.alloc (.cells #[.int .i64 x, .int .i64 y, .int .i64 2] 27)).alloc (.cells #[.int .i64 0, .int .i64 0, .int .i64 0] 27)) (w.heap.size + 1) ⟨0, 0, 0⟩ 27 := IsX.new2 (q := ⟨0, 0, 0⟩)
  have q0 : Below w.heap.size w ((w.alloc (.cells #[.int .i64 x, .int .i64 y, .int .i64 2] 27)).alloc (.cells #[.int .i64 0, .int .i64 0, .int .i64 0] 27)) := by go_grown
  generalize (w.alloc (.cells #[.int .i64 x, .int .i64 y, .int .i64 2] 27)).alloc (.cells #[.int .i64 0, .int .i64 0, .int .i64 0] 27) = W1 at X0 R0 q0 ⊢
  obtain ⟨l0, ⟨c0, c1, c2⟩, f0, f1, f2⟩ := X0.all
  obtain ⟨l1, ⟨d0, d1, d2⟩, g0, g1, g2⟩ := R0.all
  go_still_tail 8, (by kernel_rfl)
  still_call ((cellsInLine_any _ _ _).mono fun _ _ h => ⟨h.1, h.2.symm⟩)
  rw [show clin 2 1 = 1 from rfl]
  repeat still_step
  refine wpStill_nil ?_
  change wpList _ _ _ _ _ W1.drew
  go_wp2
  have X1 := (X0.set0 (x + 1)).set2 2
  have R1 := ((R0.other (p := ⟨w.heap.size, 0, none⟩) (by simp) (.int .i64 (x + 1))).other (p := ⟨w.heap.size, 2, none⟩) (by simp) (.int .i64 2)).set3 ⟨x + 1, y, 2⟩
  refine bodyPost_ret (ret_box Tryd.results46 rfl R1.drew) rfl ⟨rfl, ?_⟩
  exact (below_setX ((q0.setCell (by simp) _).setCell (by simp) _) (by simp) ⟨x + 1, y, 2⟩).drew
set_option maxHeartbeats 800000 in
theorem implTip20 (x y : Int) (hx : 0 ≤ x ∧ x ≤ 6) (hy : 0 ≤ y ∧ y ≤ 6) (w : World) : Calls Tryd.prog 46 #[Bx.v ⟨x, y, 0⟩, .int .u8 115] w fun e w' => e = .returned (Bx.v ⟨x, y + 1, 2⟩) ∧ Below w.heap.size w w' := by
  have hw : wrap64 (y + 1) = y + 1 := IntWalk.wrap64_in _ (by omega)
  have hw2 : IntKind.i64.wrap (y + 1) = y + 1 := IntWalk.i64_in _ (by omega)
  clear hx hy
  go_enter Tryd.func46, Tryd.ntmps46
  go_wp2_with (go_at_call 65; refine (tippedPose_any _ _ _).mono ?_; rintro e w' ⟨rfl, rfl⟩; rw [show tpo 0 2 = 2 from rfl])
  have X0 : IsX ((w.alloc (.cells #[.int .i64 x, .int .i64 y, .int .i64 0] 27)).alloc (.cells #[.int .i64 0, .int .i64 0, .int .i64 0] 27)) w.heap.size ⟨x, y, 0⟩ 27 := (IsX.new (q := ⟨x, y, 0⟩)).alloc _
  have R0 : IsX ((w.alloc (.cells #[.int .i64 x, .int .i64 y, .int .i64 0] 27)).alloc (.cells #[.int .i64 0, .int .i64 0, .int .i64 0] 27)) (w.heap.size + 1) ⟨0, 0, 0⟩ 27 := IsX.new2 (q := ⟨0, 0, 0⟩)
  have q0 : Below w.heap.size w ((w.alloc (.cells #[.int .i64 x, .int .i64 y, .int .i64 0] 27)).alloc (.cells #[.int .i64 0, .int .i64 0, .int .i64 0] 27)) := by go_grown
  generalize (w.alloc (.cells #[.int .i64 x, .int .i64 y, .int .i64 0] 27)).alloc (.cells #[.int .i64 0, .int .i64 0, .int .i64 0] 27) = W1 at X0 R0 q0 ⊢
  obtain ⟨l0, ⟨c0, c1, c2⟩, f0, f1, f2⟩ := X0.all
  obtain ⟨l1, ⟨d0, d1, d2⟩, g0, g1, g2⟩ := R0.all
  go_still_tail 8, (by kernel_rfl)
  still_call ((cellsInLine_any _ _ _).mono fun _ _ h => ⟨h.1, h.2.symm⟩)
  rw [show clin 0 2 = 1 from rfl]
  repeat still_step
  refine wpStill_nil ?_
  change wpList _ _ _ _ _ W1.drew
  go_wp2
  have X1 := (X0.set1 (y + 1)).set2 2
  have R1 := ((R0.other (p := ⟨w.heap.size, 1, none⟩) (by simp) (.int .i64 (y + 1))).other (p := ⟨w.heap.size, 2, none⟩) (by simp) (.int .i64 2)).set3 ⟨x, y + 1, 2⟩
  refine bodyPost_ret (ret_box Tryd.results46 rfl R1.drew) rfl ⟨rfl, ?_⟩
  exact (below_setX ((q0.setCell (by simp) _).setCell (by simp) _) (by simp) ⟨x, y + 1, 2⟩).drew
set_option maxHeartbeats 800000 in
theorem implTip21 (x y : Int) (hx : 0 ≤ x ∧ x ≤ 6) (hy : 0 ≤ y ∧ y ≤ 6) (w : World) : Calls Tryd.prog 46 #[Bx.v ⟨x, y, 1⟩, .int .u8 115] w fun e w' => e = .returned (Bx.v ⟨x, y + 1, 1⟩) ∧ Below w.heap.size w w' := by
  have hw : wrap64 (y + 1) = y + 1 := IntWalk.wrap64_in _ (by omega)
  have hw2 : IntKind.i64.wrap (y + 1) = y + 1 := IntWalk.i64_in _ (by omega)
  clear hx hy
  go_enter Tryd.func46, Tryd.ntmps46
  go_wp2_with (go_at_call 65; refine (tippedPose_any _ _ _).mono ?_; rintro e w' ⟨rfl, rfl⟩; rw [show tpo 1 2 = 1 from rfl])
  have X0 : IsX ((w.alloc (.cells #[.int .i64 x, .int .i64 y, .int .i64 1] 27)).alloc (.cells #[.int .i64 0, .int .i64 0, .int .i64 0] 27)) w.heap.size ⟨x, y, 1⟩ 27 := (IsX.new (q := ⟨x, y, 1⟩)).alloc _
  have R0 : IsX ((w.alloc (.cells #[.int .i64 x, .int .i64 y, .int .i64 1] 27)).alloc (.cells #[.int .i64 0, .int .i64 0, .int .i64 0] 27)) (w.heap.size + 1) ⟨0, 0, 0⟩ 27 := IsX.new2 (q := ⟨0, 0, 0⟩)
  have q0 : Below w.heap.size w ((w.alloc (.cells #[.int .i64 x, .int .i64 y, .int .i64 1] 27)).alloc (.cells #[.int .i64 0, .int .i64 0, .int .i64 0] 27)) := by go_grown
  generalize (w.alloc (.cells #[.int .i64 x, .int .i64 y, .int .i64 1] 27)).alloc (.cells #[.int .i64 0, .int .i64 0, .int .i64 0] 27) = W1 at X0 R0 q0 ⊢
  obtain ⟨l0, ⟨c0, c1, c2⟩, f0, f1, f2⟩ := X0.all
  obtain ⟨l1, ⟨d0, d1, d2⟩, g0, g1, g2⟩ := R0.all
  go_still_tail 8, (by kernel_rfl)
  still_call ((cellsInLine_any _ _ _).mono fun _ _ h => ⟨h.1, h.2.symm⟩)
  rw [show clin 1 2 = 1 from rfl]
  repeat still_step
  refine wpStill_nil ?_
  change wpList _ _ _ _ _ W1.drew
  go_wp2
  have X1 := (X0.set1 (y + 1)).set2 1
  have R1 := ((R0.other (p := ⟨w.heap.size, 1, none⟩) (by simp) (.int .i64 (y + 1))).other (p := ⟨w.heap.size, 2, none⟩) (by simp) (.int .i64 1)).set3 ⟨x, y + 1, 1⟩
  refine bodyPost_ret (ret_box Tryd.results46 rfl R1.drew) rfl ⟨rfl, ?_⟩
  exact (below_setX ((q0.setCell (by simp) _).setCell (by simp) _) (by simp) ⟨x, y + 1, 1⟩).drew
set_option maxHeartbeats 800000 in
theorem implTip22 (x y : Int) (hx : 0 ≤ x ∧ x ≤ 6) (hy : 0 ≤ y ∧ y ≤ 6) (w : World) : Calls Tryd.prog 46 #[Bx.v ⟨x, y, 2⟩, .int .u8 115] w fun e w' => e = .returned (Bx.v ⟨x, y + 2, 0⟩) ∧ Below w.heap.size w w' := by
  have hw : wrap64 (y + 2) = y + 2 := IntWalk.wrap64_in _ (by omega)
  have hw2 : IntKind.i64.wrap (y + 2) = y + 2 := IntWalk.i64_in _ (by omega)
  clear hx hy
  go_enter Tryd.func46, Tryd.ntmps46
  go_wp2_with (go_at_call 65; refine (tippedPose_any _ _ _).mono ?_; rintro e w' ⟨rfl, rfl⟩; rw [show tpo 2 2 = 0 from rfl])
  have X0 : IsX ((w.alloc (.cells #[.int .i64 x, .int .i64 y, .int .i64 2] 27)).alloc (.cells #[.int .i64 0, .int .i64 0, .int .i64 0] 27)) w.heap.size ⟨x, y, 2⟩ 27 := (IsX.new (q := ⟨x, y, 2⟩)).alloc _
  have R0 : IsX ((w.alloc (.cells #[.int .i64 x, .int .i64 y, .int .i64 2] 27)).alloc (.cells #[.int .i64 0, .int .i64 0, .int .i64 0] 27)) (w.heap.size + 1) ⟨0, 0, 0⟩ 27 := IsX.new2 (q := ⟨0, 0, 0⟩)
  have q0 : Below w.heap.size w ((w.alloc (.cells #[.int .i64 x, .int .i64 y, .int .i64 2] 27)).alloc (.cells #[.int .i64 0, .int .i64 0, .int .i64 0] 27)) := by go_grown
  generalize (w.alloc (.cells #[.int .i64 x, .int .i64 y, .int .i64 2] 27)).alloc (.cells #[.int .i64 0, .int .i64 0, .int .i64 0] 27) = W1 at X0 R0 q0 ⊢
  obtain ⟨l0, ⟨c0, c1, c2⟩, f0, f1, f2⟩ := X0.all
  obtain ⟨l1, ⟨d0, d1, d2⟩, g0, g1, g2⟩ := R0.all
  go_still_tail 8, (by kernel_rfl)
  still_call ((cellsInLine_any _ _ _).mono fun _ _ h => ⟨h.1, h.2.symm⟩)
  rw [show clin 2 2 = 2 from rfl]
  repeat still_step
  refine wpStill_nil ?_
  change wpList _ _ _ _ _ W1.drew
  go_wp2
  have X1 := (X0.set1 (y + 2)).set2 0
  have R1 := ((R0.other (p := ⟨w.heap.size, 1, none⟩) (by simp) (.int .i64 (y + 2))).other (p := ⟨w.heap.size, 2, none⟩) (by simp) (.int .i64 0)).set3 ⟨x, y + 2, 0⟩
  refine bodyPost_ret (ret_box Tryd.results46 rfl R1.drew) rfl ⟨rfl, ?_⟩
  exact (below_setX ((q0.setCell (by simp) _).setCell (by simp) _) (by simp) ⟨x, y + 2, 0⟩).drew
set_option maxHeartbeats 800000 in
theorem implTip30 (x y : Int) (hx : 0 ≤ x ∧ x ≤ 6) (hy : 0 ≤ y ∧ y ≤ 6) (w : World) : Calls Tryd.prog 46 #[Bx.v ⟨x, y, 0⟩, .int .u8 119] w fun e w' => e = .returned (Bx.v ⟨x - 2, y, 1⟩) ∧ Below w.heap.size w w' := by
  have hw : wrap64 (x - 2) = x - 2 := IntWalk.wrap64_in _ (by omega)
  have hw2 : IntKind.i64.wrap (x - 2) = x - 2 := IntWalk.i64_in _ (by omega)
  clear hx hy
  go_enter Tryd.func46, Tryd.ntmps46
  go_wp2_with (go_at_call 65; refine (tippedPose_any _ _ _).mono ?_; rintro e w' ⟨rfl, rfl⟩; rw [show tpo 0 1 = 1 from rfl])
  have X0 : IsX ((w.alloc (.cells #[.int .i64 x, .int .i64 y, .int .i64 0] 27)).alloc (.cells #[.int .i64 0, .int .i64 0, .int .i64 0] 27)) w.heap.size ⟨x, y, 0⟩ 27 := (IsX.new (q := ⟨x, y, 0⟩)).alloc _
  have R0 : IsX ((w.alloc (.cells #[.int .i64 x, .int .i64 y, .int .i64 0] 27)).alloc (.cells #[.int .i64 0, .int .i64 0, .int .i64 0] 27)) (w.heap.size + 1) ⟨0, 0, 0⟩ 27 := IsX.new2 (q := ⟨0, 0, 0⟩)
  have q0 : Below w.heap.size w ((w.alloc (.cells #[.int .i64 x, .int .i64 y, .int .i64 0] 27)).alloc (.cells #[.int .i64 0, .int .i64 0, .int .i64 0] 27)) := by go_grown
  generalize (w.alloc (.cells #[.int .i64 x, .int .i64 y, .int .i64 0] 27)).alloc (.cells #[.int .i64 0, .int .i64 0, .int .i64 0] 27) = W1 at X0 R0 q0 ⊢
  obtain ⟨l0, ⟨c0, c1, c2⟩, f0, f1, f2⟩ := X0.all
  obtain ⟨l1, ⟨d0, d1, d2⟩, g0, g1, g2⟩ := R0.all
  go_still_tail 7, (by kernel_rfl)
  still_call ((cellsInLine_any _ _ _).mono fun _ _ h => ⟨h.1, h.2.symm⟩)
  rw [show clin 1 1 = 2 from rfl]
  repeat still_step
  refine wpStill_nil ?_
  change wpList _ _ _ _ _ W1.drew
  go_wp2
  have X1 := (X0.set0 (x - 2)).set2 1
  have R1 := ((R0.other (p := ⟨w.heap.size, 0, none⟩) (by simp) (.int .i64 (x - 2))).other (p := ⟨w.heap.size, 2, none⟩) (by simp) (.int .i64 1)).set3 ⟨x - 2, y, 1⟩
  refine bodyPost_ret (ret_box Tryd.results46 rfl R1.drew) rfl ⟨rfl, ?_⟩
  exact (below_setX ((q0.setCell (by simp) _).setCell (by simp) _) (by simp) ⟨x - 2, y, 1⟩).drew
set_option maxHeartbeats 800000 in
theorem implTip31 (x y : Int) (hx : 0 ≤ x ∧ x ≤ 6) (hy : 0 ≤ y ∧ y ≤ 6) (w : World) : Calls Tryd.prog 46 #[Bx.v ⟨x, y, 1⟩, .int .u8 119] w fun e w' => e = .returned (Bx.v ⟨x - 1, y, 0⟩) ∧ Below w.heap.size w w' := by
  have hw : wrap64 (x - 1) = x - 1 := IntWalk.wrap64_in _ (by omega)
  have hw2 : IntKind.i64.wrap (x - 1) = x - 1 := IntWalk.i64_in _ (by omega)
  clear hx hy
  go_enter Tryd.func46, Tryd.ntmps46
  go_wp2_with (go_at_call 65; refine (tippedPose_any _ _ _).mono ?_; rintro e w' ⟨rfl, rfl⟩; rw [show tpo 1 1 = 0 from rfl])
  have X0 : IsX ((w.alloc (.cells #[.int .i64 x, .int .i64 y, .int .i64 1] 27)).alloc (.cells #[.int .i64 0, .int .i64 0, .int .i64 0] 27)) w.heap.size ⟨x, y, 1⟩ 27 := (IsX.new (q := ⟨x, y, 1⟩)).alloc _
  have R0 : IsX ((w.alloc (.cells #[.int .i64 x, .int .i64 y, .int .i64 1] 27)).alloc (.cells #[.int .i64 0, .int .i64 0, .int .i64 0] 27)) (w.heap.size + 1) ⟨0, 0, 0⟩ 27 := IsX.new2 (q := ⟨0, 0, 0⟩)
  have q0 : Below w.heap.size w ((w.alloc (.cells #[.int .i64 x, .int .i64 y, .int .i64 1] 27)).alloc (.cells #[.int .i64 0, .int .i64 0, .int .i64 0] 27)) := by go_grown
  generalize (w.alloc (.cells #[.int .i64 x, .int .i64 y, .int .i64 1] 27)).alloc (.cells #[.int .i64 0, .int .i64 0, .int .i64 0] 27) = W1 at X0 R0 q0 ⊢
  obtain ⟨l0, ⟨c0, c1, c2⟩, f0, f1, f2⟩ := X0.all
  obtain ⟨l1, ⟨d0, d1, d2⟩, g0, g1, g2⟩ := R0.all
  go_still_tail 7, (by kernel_rfl)
  still_call ((cellsInLine_any _ _ _).mono fun _ _ h => ⟨h.1, h.2.symm⟩)
  rw [show clin 0 1 = 1 from rfl]
  repeat still_step
  refine wpStill_nil ?_
  change wpList _ _ _ _ _ W1.drew
  go_wp2
  have X1 := (X0.set0 (x - 1)).set2 0
  have R1 := ((R0.other (p := ⟨w.heap.size, 0, none⟩) (by simp) (.int .i64 (x - 1))).other (p := ⟨w.heap.size, 2, none⟩) (by simp) (.int .i64 0)).set3 ⟨x - 1, y, 0⟩
  refine bodyPost_ret (ret_box Tryd.results46 rfl R1.drew) rfl ⟨rfl, ?_⟩
  exact (below_setX ((q0.setCell (by simp) _).setCell (by simp) _) (by simp) ⟨x - 1, y, 0⟩).drew
set_option maxHeartbeats 800000 in
theorem implTip32 (x y : Int) (hx : 0 ≤ x ∧ x ≤ 6) (hy : 0 ≤ y ∧ y ≤ 6) (w : World) : Calls Tryd.prog 46 #[Bx.v ⟨x, y, 2⟩, .int .u8 119] w fun e w' => e = .returned (Bx.v ⟨x - 1, y, 2⟩) ∧ Below w.heap.size w w' := by
  have hw : wrap64 (x - 1) = x - 1 := IntWalk.wrap64_in _ (by omega)
  have hw2 : IntKind.i64.wrap (x - 1) = x - 1 := IntWalk.i64_in _ (by omega)
  clear hx hy
  go_enter Tryd.func46, Tryd.ntmps46
  go_wp2_with (go_at_call 65; refine (tippedPose_any _ _ _).mono ?_; rintro e w' ⟨rfl, rfl⟩; rw [show tpo 2 1 = 2 from rfl])
  have X0 : IsX ((w.alloc (.cells #[.int .i64 x, .int .i64 y, .int .i64 2] 27)).alloc (.cells #[.int .i64 0, .int .i64 0, .int .i64 0] 27)) w.heap.size ⟨x, y, 2⟩ 27 := (IsX.new (q := ⟨x, y, 2⟩)).alloc _
  have R0 : IsX ((w.alloc (.cells #[.int .i64 x, .int .i64 y, .int .i64 2] 27)).alloc (.cells #[.int .i64 0, .int .i64 0, .int .i64 0] 27)) (w.heap.size + 1) ⟨0, 0, 0⟩ 27 := IsX.new2 (q := ⟨0, 0, 0⟩)
  have q0 : Below w.heap.size w ((w.alloc (.cells #[.int .i64 x, .int .i64 y, .int .i64 2] 27)).alloc (.cells #[.int .i64 0, .int .i64 0, .int .i64 0] 27)) := by go_grown
  generalize (w.alloc (.cells #[.int .i64 x, .int .i64 y, .int .i64 2] 27)).alloc (.cells #[.int .i64 0, .int .i64 0, .int .i64 0] 27) = W1 at X0 R0 q0 ⊢
  obtain ⟨l0, ⟨c0, c1, c2⟩, f0, f1, f2⟩ := X0.all
  obtain ⟨l1, ⟨d0, d1, d2⟩, g0, g1, g2⟩ := R0.all
  go_still_tail 7, (by kernel_rfl)
  still_call ((cellsInLine_any _ _ _).mono fun _ _ h => ⟨h.1, h.2.symm⟩)
  rw [show clin 2 1 = 1 from rfl]
  repeat still_step
  refine wpStill_nil ?_
  change wpList _ _ _ _ _ W1.drew
  go_wp2
  have X1 := (X0.set0 (x - 1)).set2 2
  have R1 := ((R0.other (p := ⟨w.heap.size, 0, none⟩) (by simp) (.int .i64 (x - 1))).other (p := ⟨w.heap.size, 2, none⟩) (by simp) (.int .i64 2)).set3 ⟨x - 1, y, 2⟩
  refine bodyPost_ret (ret_box Tryd.results46 rfl R1.drew) rfl ⟨rfl, ?_⟩
  exact (below_setX ((q0.setCell (by simp) _).setCell (by simp) _) (by simp) ⟨x - 1, y, 2⟩).drew

/-- Where a box may be of which we speak. -/
def nearB (b : Bx) : Prop := 0 ≤ b.x ∧ b.x ≤ 6 ∧ 0 ≤ b.y ∧ b.y ≤ 6 ∧ 0 ≤ b.p ∧ b.p ≤ 2
theorem bxTip_any (b : Bx) (k : Int) (hb : nearB b) (hk : 0 ≤ k ∧ k ≤ 3) (w : World) : Calls Tryd.prog 63 #[Bx.v b, .int .i64 k] w fun e w' => e = .returned (Bx.v (tipX b k)) ∧ Below w.heap.size w w' := by
  obtain ⟨x, y, p⟩ := b
  obtain ⟨h0, h1, h2, h3, h4, h5⟩ := hb
  simp only at h0 h1 h2 h3 h4 h5
  have hk' : k = 0 ∨ k = 1 ∨ k = 2 ∨ k = 3 := by omega
  have hp' : p = 0 ∨ p = 1 ∨ p = 2 := by omega
  rcases hk' with rfl | rfl | rfl | rfl <;> rcases hp' with rfl | rfl | rfl
  · exact specTip00 x y ⟨h0, h1⟩ ⟨h2, h3⟩ w
  · exact specTip01 x y ⟨h0, h1⟩ ⟨h2, h3⟩ w
  · exact specTip02 x y ⟨h0, h1⟩ ⟨h2, h3⟩ w
  · exact specTip10 x y ⟨h0, h1⟩ ⟨h2, h3⟩ w
  · exact specTip11 x y ⟨h0, h1⟩ ⟨h2, h3⟩ w
  · exact specTip12 x y ⟨h0, h1⟩ ⟨h2, h3⟩ w
  · exact specTip20 x y ⟨h0, h1⟩ ⟨h2, h3⟩ w
  · exact specTip21 x y ⟨h0, h1⟩ ⟨h2, h3⟩ w
  · exact specTip22 x y ⟨h0, h1⟩ ⟨h2, h3⟩ w
  · exact specTip30 x y ⟨h0, h1⟩ ⟨h2, h3⟩ w
  · exact specTip31 x y ⟨h0, h1⟩ ⟨h2, h3⟩ w
  · exact specTip32 x y ⟨h0, h1⟩ ⟨h2, h3⟩ w
theorem tipped_any (b : Bx) (c : UInt8) (hb : nearB b) (hc : 0 ≤ dirIx c.toNat) (w : World) : Calls Tryd.prog 46 #[Bx.v b, .int .u8 c.toNat] w fun e w' => e = .returned (Bx.v (tipX b (dirIx c.toNat))) ∧ Below w.heap.size w w' := by
  obtain ⟨x, y, p⟩ := b
  obtain ⟨h0, h1, h2, h3, h4, h5⟩ := hb
  simp only at h0 h1 h2 h3 h4 h5
  have hp' : p = 0 ∨ p = 1 ∨ p = 2 := by omega
  rcases dir_cases c hc with rfl | rfl | rfl | rfl <;> rcases hp' with rfl | rfl | rfl
  · exact implTip00 x y ⟨h0, h1⟩ ⟨h2, h3⟩ w
  · exact implTip01 x y ⟨h0, h1⟩ ⟨h2, h3⟩ w
  · exact implTip02 x y ⟨h0, h1⟩ ⟨h2, h3⟩ w
  · exact implTip10 x y ⟨h0, h1⟩ ⟨h2, h3⟩ w
  · exact implTip11 x y ⟨h0, h1⟩ ⟨h2, h3⟩ w
  · exact implTip12 x y ⟨h0, h1⟩ ⟨h2, h3⟩ w
  · exact implTip20 x y ⟨h0, h1⟩ ⟨h2, h3⟩ w
  · exact implTip21 x y ⟨h0, h1⟩ ⟨h2, h3⟩ w
  · exact implTip22 x y ⟨h0, h1⟩ ⟨h2, h3⟩ w
  · exact implTip30 x y ⟨h0, h1⟩ ⟨h2, h3⟩ w
  · exact implTip31 x y ⟨h0, h1⟩ ⟨h2, h3⟩ w
  · exact implTip32 x y ⟨h0, h1⟩ ⟨h2, h3⟩ w
theorem good_near {l : List UInt8} (h : isGd l = true) {b : Bx} (hb : goodX (splitP l) b = true) : nearB b := by
  have := good_facts h hb
  unfold nearB
  omega
end Go.Proofs.YtoojoghgbmpbpaaDoor
