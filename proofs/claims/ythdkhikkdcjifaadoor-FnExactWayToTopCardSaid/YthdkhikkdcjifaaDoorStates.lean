/- The contracts of states: toState, eqState, boState, isStateOn. -/
import Derived.Test.YthdkhikkdcjifaaDoorCells
import Derived.Test.YthdkhikkdcjifaaDoorState
import Derived.Test.YthdkhikkdcjifaaDoorGood
import Derived.Deep.Cut
namespace Go.Proofs.YthdkhikkdcjifaaDoor
set_option maxRecDepth 100000
set_option linter.all false
open Go.RowKit

theorem IsS.setDie {w : World} {b : Nat} {s : St} {ty : TypeId} (h : IsS w b s ty) (e : D) : IsS ((((((w.setCell ⟨b, 2, none⟩ (.int .i64 e.t)).setCell ⟨b, 3, none⟩ (.int .i64 e.n)).setCell ⟨b, 4, none⟩ (.int .i64 e.e)).setCell ⟨b, 5, none⟩ (.int .i64 e.s)).setCell ⟨b, 6, none⟩ (.int .i64 e.w)).setCell ⟨b, 7, none⟩ (.int .i64 e.b)) b ⟨s.x, s.y, e⟩ ty := by
  have h1 := cells_set h 2 (by simp) (.int .i64 e.t)
  have h2 := cells_set h1 3 (by simp) (.int .i64 e.n)
  have h3 := cells_set h2 4 (by simp) (.int .i64 e.e)
  have h4 := cells_set h3 5 (by simp) (.int .i64 e.s)
  have h5 := cells_set h4 6 (by simp) (.int .i64 e.w)
  have h6 := cells_set h5 7 (by simp) (.int .i64 e.b)
  simpa [IsS] using h6
theorem below_setDie {B : Nat} {a w : World} {b : Nat} (h : Below B a w) (hb : B ≤ b) (e : D) : Below B a ((((((w.setCell ⟨b, 2, none⟩ (.int .i64 e.t)).setCell ⟨b, 3, none⟩ (.int .i64 e.n)).setCell ⟨b, 4, none⟩ (.int .i64 e.e)).setCell ⟨b, 5, none⟩ (.int .i64 e.s)).setCell ⟨b, 6, none⟩ (.int .i64 e.w)).setCell ⟨b, 7, none⟩ (.int .i64 e.b)) :=
  h |>.setCell hb _ |>.setCell hb _ |>.setCell hb _ |>.setCell hb _ |>.setCell hb _ |>.setCell hb _

set_option maxHeartbeats 800000 in
theorem toState_any (s : St) (w : World) : Calls Tryd.prog 15 #[St.v s] w fun e w' => e = .returned (St.v s) ∧ Below w.heap.size w w' := by
  go_enter Tryd.func15, Tryd.ntmps15
  go_wp2_with fail
  refine (toDie_any s.d _).mono ?_
  rintro e w1 ⟨rfl, hb1⟩
  have s2 : IsS (((w.alloc (.cells #[.int .i64 s.x, .int .i64 s.y, .int .i64 s.d.t, .int .i64 s.d.n, .int .i64 s.d.e, .int .i64 s.d.s, .int .i64 s.d.w, .int .i64 s.d.b] 25)).alloc (.cells #[.int .i64 0, .int .i64 0, .int .i64 0, .int .i64 0, .int .i64 0, .int .i64 0, .int .i64 0, .int .i64 0] 30)).alloc (.cells #[.int .i64 s.x, .int .i64 s.y, .int .i64 0, .int .i64 0, .int .i64 0, .int .i64 0, .int .i64 0, .int .i64 0] 30)) (w.heap.size + 1) ⟨0, 0, ⟨0, 0, 0, 0, 0, 0⟩⟩ 30 := (IsS.new2 (s := ⟨0, 0, ⟨0, 0, 0, 0, 0, 0⟩⟩)).alloc _
  have s3 : IsS (((w.alloc (.cells #[.int .i64 s.x, .int .i64 s.y, .int .i64 s.d.t, .int .i64 s.d.n, .int .i64 s.d.e, .int .i64 s.d.s, .int .i64 s.d.w, .int .i64 s.d.b] 25)).alloc (.cells #[.int .i64 0, .int .i64 0, .int .i64 0, .int .i64 0, .int .i64 0, .int .i64 0, .int .i64 0, .int .i64 0] 30)).alloc (.cells #[.int .i64 s.x, .int .i64 s.y, .int .i64 0, .int .i64 0, .int .i64 0, .int .i64 0, .int .i64 0, .int .i64 0] 30)) (w.heap.size + 2) ⟨s.x, s.y, ⟨0, 0, 0, 0, 0, 0⟩⟩ 30 := by
    have := IsS.new (w := (w.alloc (.cells #[.int .i64 s.x, .int .i64 s.y, .int .i64 s.d.t, .int .i64 s.d.n, .int .i64 s.d.e, .int .i64 s.d.s, .int .i64 s.d.w, .int .i64 s.d.b] 25)).alloc (.cells #[.int .i64 0, .int .i64 0, .int .i64 0, .int .i64 0, .int .i64 0, .int .i64 0, .int .i64 0, .int .i64 0] 30)) (s := ⟨s.x, s.y, ⟨0, 0, 0, 0, 0, 0⟩⟩) (ty := 30)
    simpa using this
  have u2 := isS_to hb1 s2 rfl
  have u3 := isS_to hb1 s3 rfl
  have q1 : Below w.heap.size w w1 := below_after (by go_grown) hb1 (by simp; omega)
  clear hb1 s2 s3
  obtain ⟨l3, ⟨c0, c1, c2, c3, c4, c5, c6, c7⟩, f0, f1, f2, f3, f4, f5, f6, f7⟩ := u3.all
  go_upto_region 5 with (fail)
  have v3 := u3.setDie s.d
  have v2 := (((((u2.other (p := ⟨w.heap.size + 2, 2, none⟩) (by simp) (.int .i64 s.d.t)).other (p := ⟨w.heap.size + 2, 3, none⟩) (by simp) (.int .i64 s.d.n)).other (p := ⟨w.heap.size + 2, 4, none⟩) (by simp) (.int .i64 s.d.e)).other (p := ⟨w.heap.size + 2, 5, none⟩) (by simp) (.int .i64 s.d.s)).other (p := ⟨w.heap.size + 2, 6, none⟩) (by simp) (.int .i64 s.d.w)).other (p := ⟨w.heap.size + 2, 7, none⟩) (by simp) (.int .i64 s.d.b)
  have q2 := below_setDie (b := w.heap.size + 2) q1 (by simp) s.d
  clear c0 c1 c2 c3 c4 c5 c6 c7 f0 f1 f2 f3 f4 f5 f6 f7 l3 u2 u3 q1
  generalize (((((w1.setCell ⟨w.heap.size + 2, 2, none⟩ (.int .i64 s.d.t)).setCell ⟨w.heap.size + 2, 3, none⟩ (.int .i64 s.d.n)).setCell ⟨w.heap.size + 2, 4, none⟩ (.int .i64 s.d.e)).setCell ⟨w.heap.size + 2, 5, none⟩ (.int .i64 s.d.s)).setCell ⟨w.heap.size + 2, 6, none⟩ (.int .i64 s.d.w)).setCell ⟨w.heap.size + 2, 7, none⟩ (.int .i64 s.d.b) = w2 at v3 v2 q2 ⊢
  obtain ⟨l3, ⟨c0, c1, c2, c3, c4, c5, c6, c7⟩, -⟩ := v3.all
  obtain ⟨l2, ⟨d0, d1, d2, d3, d4, d5, d6, d7⟩, e0, e1, e2, e3, e4, e5, e6, e7⟩ := v2.all
  go_wp2
  refine bodyPost_ret (ret_state Tryd.results15 rfl (v2.set8 s)) rfl ⟨rfl, ?_⟩
  exact below_set8 q2 (by simp) s

set_option maxHeartbeats 800000 in
theorem eqState_self (s : St) (w : World) : Calls Tryd.prog 43 #[St.v s, St.v s] w fun e w' => e = .returned (.bool true) ∧ Below w.heap.size w w' := by
  have n0 : (s.x != s.x) = false := by simp
  have n1 : (s.y != s.y) = false := by simp
  go_enter Tryd.func43, Tryd.ntmps43
  go_wp2_with fail
  refine (eqDie_any s.d s.d _).mono ?_
  rintro e w1 ⟨rfl, hb1⟩
  have q1 : Below w.heap.size w w1 := below_after (by go_grown) hb1 (by simp; omega)
  simp only [decide_true]
  go_wp2
  go_returns
  exact ⟨rfl, q1⟩

/-- Is there a state on a board? -/
def stL (l : List UInt8) (s : St) : Bool := floorL l s.x s.y && goodB s.d
set_option maxHeartbeats 800000 in
theorem boState_any (l : List UInt8) (W H n : Nat) (hg : GridOk l W H n) (g cap : Nat) (s : St) (w : World) (hA : BytesAt w g (splitP l).flatten) : Calls Tryd.prog 70 #[gridV W H n g cap, St.v s] w fun e w' => e = .returned (.bool (stL l s)) ∧ Below w.heap.size w w' := by
  have HG := hide hg
  have HS := hide (show stL l s = (floorL l s.x s.y && goodB s.d) from rfl)
  have HA := hide (show BytesAt ((w.alloc (.cells #[.int .i64 (W : Int), .int .i64 (H : Int), .slice (some ⟨g, 0, none⟩) n cap] 59)).alloc (.cells #[.int .i64 s.x, .int .i64 s.y, .int .i64 s.d.t, .int .i64 s.d.n, .int .i64 s.d.e, .int .i64 s.d.s, .int .i64 s.d.w, .int .i64 s.d.b] 30)) g (splitP l).flatten from bytesAt_to (w0 := w) (by go_grown) hA rfl)
  clear hg hA
  cases hf : floorL l s.x s.y
  · have HF := hide hf
    clear hf
    go_enter Tryd.func70, Tryd.ntmps70
    go_wp2_with fail
    refine (boFloor_any l W H n HG.out g cap s.x s.y _ HA.out).mono ?_
    rintro e w1 ⟨rfl, hb1⟩
    rw [HF.out]
    have q1 : Below w.heap.size w w1 := below_after (by go_grown) hb1 (by simp; omega)
    clear hb1
    go_wp2
    go_returns
    exact ⟨ret_bool (by rw [HS.out, HF.out]; rfl), q1⟩
  · have HF := hide hf
    clear hf
    go_enter Tryd.func70, Tryd.ntmps70
    go_wp2_with fail
    refine (boFloor_any l W H n HG.out g cap s.x s.y _ HA.out).mono ?_
    rintro e w1 ⟨rfl, hb1⟩
    rw [HF.out]
    have q1 : Below w.heap.size w w1 := below_after (by go_grown) hb1 (by simp; omega)
    have u1 := isS_to hb1 (IsS.new2 (s := s) (ty := 30)) rfl
    obtain ⟨l1, ⟨c0, c1, c2, c3, c4, c5, c6, c7⟩, -⟩ := u1.all
    clear hb1 u1
    go_wp2_with fail
    clear c0 c1 c2 c3 c4 c5 c6 c7 l1
    refine (diGood_any s.d _).mono ?_
    rintro e w2 ⟨rfl, hb2⟩
    have q2 := below_to hb2 q1 q1.size rfl rfl rfl rfl
    generalize hgd : goodB s.d = gd
    have HGD := hide hgd
    clear hgd hb2
    go_wp2
    go_returns
    exact ⟨ret_bool (by rw [HS.out, HF.out, HGD.out]; rfl), q2⟩

theorem eq46' {c : UInt8} {b : Bool} (h : decide ((c.toNat : Int) = 46) = b) : (((c.toNat : Nat) : Int) == 46) = b := by
  rw [← h, Bool.eq_iff_iff]; simp
set_option maxHeartbeats 800000 in
theorem isStateOn_any (s : ByteArray) (g : Nat) (t : St) (w : World) (hs : s.size ≤ 1048576) (h : isBd s.data.toList = true) (ha : RowsAt w g (rowsB s)) :
    Calls Tryd.prog 79 #[.slice (some ⟨g, 0, none⟩) (rowsB s).length (rowsB s).length, St.v t] w fun e w' => e = .returned (.bool (stL s.data.toList t)) ∧ Below w.heap.size w w' := by
  have HS := hide (show stL s.data.toList t = (floorL s.data.toList t.x t.y && goodB t.d) from rfl)
  have HFL := hide (show floorL s.data.toList t.x t.y = decide (((cellI (splitP s.data.toList) t.x t.y).toNat : Int) = 46) from rfl)
  have HC := hide (cellAtL_any s g t.x t.y (w.alloc (.cells #[.int .i64 t.x, .int .i64 t.y, .int .i64 t.d.t, .int .i64 t.d.n, .int .i64 t.d.e, .int .i64 t.d.s, .int .i64 t.d.w, .int .i64 t.d.b] 30)) hs h (rowsAt_to (w0 := w) (by go_grown) ha rfl))
  generalize cellI (splitP s.data.toList) t.x t.y = c at HC HFL
  clear h ha
  generalize (rowsB s).length = n at HC ⊢
  cases hf : decide ((c.toNat : Int) = 46)
  · have hq := eq46' hf
    have HF := hide hf
    clear hf
    go_enter Tryd.func79, Tryd.ntmps79
    go_wp2_with fail
    refine HC.out.mono ?_
    rintro e w1 ⟨rfl, rfl⟩
    go_wp2
    go_returns
    exact ⟨ret_bool (by rw [HS.out, HFL.out, HF.out]; rfl), by go_grown⟩
  · have hq := eq46' hf
    have HF := hide hf
    clear hf
    go_enter Tryd.func79, Tryd.ntmps79
    go_wp2_with fail
    refine HC.out.mono ?_
    rintro e w1 ⟨rfl, rfl⟩
    go_wp2_with fail
    refine (isDie_any t.d _).mono ?_
    rintro e w2 ⟨rfl, hb2⟩
    have q2 : Below w.heap.size w w2 := below_after (by go_grown) hb2 (by simp)
    generalize hgd : goodB t.d = gd
    have HGD := hide hgd
    clear hgd hb2
    go_wp2
    go_returns
    exact ⟨ret_bool (by rw [HS.out, HFL.out, HF.out, HGD.out]; rfl), q2⟩
end Go.Proofs.YthdkhikkdcjifaaDoor
