/- The contract of the model's roll over labels: spec.prRoll. -/
import Derived.Test.YtckajjocpheakaaDoorWalksMH
import Derived.Test.YtckajjocpheakaaDoorWalksU
namespace Go.Proofs.YtckajjocpheakaaDoor
set_option maxRecDepth 100000
set_option linter.all false
open Go.RowKit

/-- Does a state match on a labelled text? -/
def hitAt (l : List UInt8) (s : St) : Bool := hitB (cellI (splitP l) s.x s.y) s.d.t
theorem hit_floor {l : List UInt8} {s : St} (h0 : 0 ≤ s.d.t) (h9 : s.d.t ≤ 9) (h : hitAt l s = true) : floorL (unlab l) s.x s.y = true := by
  unfold floorL
  rw [decide_eq_true_eq, cellI_unlab]
  unfold hitAt hitB labB at h
  rw [Bool.or_eq_true, decide_eq_true_eq, decide_eq_true_eq] at h
  rcases h with h | h
  · have : isDig (cellI (splitP l) s.x s.y) = false := by unfold isDig; rw [decide_eq_false_iff_not]; omega
    rw [unl_no this]
    exact h
  · have : isDig (cellI (splitP l) s.x s.y) = true := by unfold isDig; rw [decide_eq_true_eq]; omega
    rw [unl_yes this]
    rfl
theorem good_roll {s : St} (h : goodB s.d = true) : ∀ k : Nat, k < 4 → goodB (rollT s (k : Int)).d = true := by
  intro k hk
  unfold goodB at h ⊢
  rw [decide_eq_true_eq] at h ⊢
  match k, hk with
  | 0, _ => simp only [rollT]; unfold rollK; simp [rollN]; omega
  | 1, _ => simp only [rollT]; unfold rollK; simp [rollE]; omega
  | 2, _ => simp only [rollT]; unfold rollK; simp [rollS]; omega
  | 3, _ => simp only [rollT]; unfold rollK; simp [rollW]; omega
set_option maxHeartbeats 1600000 in
theorem prRoll_can (l : List UInt8) (W H n g cap gl capl : Nat) (hg : GridOk (unlab l) W H n) (s : St) (k : Int) (w : World) (hA : BytesAt w g (splitP (unlab l)).flatten) (hAL : BytesAt w gl (splitP l).flatten) (hx : -100000 ≤ s.x ∧ s.x ≤ 100000) (hy : -100000 ≤ s.y ∧ s.y ≤ 100000) (hc : canT (unlab l) s k = false) :
    Calls Tryd.prog 60 #[gridV W H n g cap, .slice (some ⟨gl, 0, none⟩) n capl, St.v s, .int .i64 k] w fun e w' => e = .returned (.tuple #[St.v ⟨0, 0, ⟨0, 0, 0, 0, 0, 0⟩⟩, .bool false]) ∧ Below w.heap.size w w' := by
  have HG := hide hg
  have HX := hide hx
  have HY := hide hy
  have HC := hide hc
  have q0 : Below w.heap.size w (((w.alloc (.cells #[.int .i64 (W : Int), .int .i64 (H : Int), .slice (some ⟨g, 0, none⟩) n cap] 44)).alloc (.cells #[.int .i64 s.x, .int .i64 s.y, .int .i64 s.d.t, .int .i64 s.d.n, .int .i64 s.d.e, .int .i64 s.d.s, .int .i64 s.d.w, .int .i64 s.d.b] 30)).alloc (.cells #[.int .i64 0, .int .i64 0, .int .i64 0, .int .i64 0, .int .i64 0, .int .i64 0, .int .i64 0, .int .i64 0] 30)) := by go_grown
  have HA := hide (bytesAt_to q0 hA rfl)
  have HAL := hide (bytesAt_to q0 hAL rfl)
  have R0 := IsS.new (w := (w.alloc (.cells #[.int .i64 (W : Int), .int .i64 (H : Int), .slice (some ⟨g, 0, none⟩) n cap] 44)).alloc (.cells #[.int .i64 s.x, .int .i64 s.y, .int .i64 s.d.t, .int .i64 s.d.n, .int .i64 s.d.e, .int .i64 s.d.s, .int .i64 s.d.w, .int .i64 s.d.b] 30)) (s := ⟨0, 0, ⟨0, 0, 0, 0, 0, 0⟩⟩) (ty := 30)
  have G0 := ((IsG.new (w := w) (x := (W : Int)) (y := (H : Int)) (v := .slice (some ⟨g, 0, none⟩) n cap)).alloc (.cells #[.int .i64 s.x, .int .i64 s.y, .int .i64 s.d.t, .int .i64 s.d.n, .int .i64 s.d.e, .int .i64 s.d.s, .int .i64 s.d.w, .int .i64 s.d.b] 30)).alloc (.cells #[.int .i64 0, .int .i64 0, .int .i64 0, .int .i64 0, .int .i64 0, .int .i64 0, .int .i64 0, .int .i64 0] 30)
  simp only [World.size_alloc] at R0
  clear hg hA hAL hx hy hc
  go_enter Tryd.func60, Tryd.ntmps60
  go_wp2_with fail
  refine (boRoll_no (unlab l) W H n HG.out g cap s k _ HA.out HX.out HY.out HC.out).mono ?_
  rintro e w1 ⟨rfl, hb1⟩
  have R1 := isS_to hb1 R0 rfl
  have q1 := below_to hb1 q0 (by simp; omega) rfl rfl rfl rfl
  clear hb1 R0 G0 HA HAL
  have R2 := R1.alloc (.cells #[.int .i64 0, .int .i64 0, .int .i64 0, .int .i64 0, .int .i64 0, .int .i64 0, .int .i64 0, .int .i64 0] 30)
  have q2 := q1.alloc q1.size (.cells #[.int .i64 0, .int .i64 0, .int .i64 0, .int .i64 0, .int .i64 0, .int .i64 0, .int .i64 0, .int .i64 0] 30)
  clear R1 q1
  go_upto_region 2 with (fail)
  generalize w1.alloc (.cells #[.int .i64 0, .int .i64 0, .int .i64 0, .int .i64 0, .int .i64 0, .int .i64 0, .int .i64 0, .int .i64 0] 30) = w2 at R2 q2 ⊢
  obtain ⟨l1, ⟨c0, c1, c2, c3, c4, c5, c6, c7⟩, f0, f1, f2, f3, f4, f5, f6, f7⟩ := R2.all
  go_wp2
  refine bodyPost_ret (ret_state2 Tryd.results60 rfl rfl (R2.set8 ⟨0, 0, ⟨0, 0, 0, 0, 0, 0⟩⟩)) rfl ⟨rfl, ?_⟩
  exact below_set8 q2 (show w.heap.size ≤ w.heap.size + 1 + 1 from by omega) ⟨0, 0, ⟨0, 0, 0, 0, 0, 0⟩⟩
set_option maxHeartbeats 1600000 in
theorem prRoll_miss (l : List UInt8) (W H n g cap gl capl : Nat) (hg : GridOk (unlab l) W H n) (s : St) (k : Int) (w : World) (hA : BytesAt w g (splitP (unlab l)).flatten) (hAL : BytesAt w gl (splitP l).flatten) (hx : -100000 ≤ s.x ∧ s.x ≤ 100000) (hy : -100000 ≤ s.y ∧ s.y ≤ 100000) (hc : canT (unlab l) s k = true) (hh : hitAt l (rollT s k) = false) :
    Calls Tryd.prog 60 #[gridV W H n g cap, .slice (some ⟨gl, 0, none⟩) n capl, St.v s, .int .i64 k] w fun e w' => e = .returned (.tuple #[St.v ⟨0, 0, ⟨0, 0, 0, 0, 0, 0⟩⟩, .bool false]) ∧ Below w.heap.size w w' := by
  have HG := hide hg
  have HX := hide hx
  have HY := hide hy
  have HC := hide hc
  have HHIT := hide hh
  have HFL := hide (show floorL (unlab l) (rollT s k).x (rollT s k).y = true from hc)
  have q0 : Below w.heap.size w (((w.alloc (.cells #[.int .i64 (W : Int), .int .i64 (H : Int), .slice (some ⟨g, 0, none⟩) n cap] 44)).alloc (.cells #[.int .i64 s.x, .int .i64 s.y, .int .i64 s.d.t, .int .i64 s.d.n, .int .i64 s.d.e, .int .i64 s.d.s, .int .i64 s.d.w, .int .i64 s.d.b] 30)).alloc (.cells #[.int .i64 0, .int .i64 0, .int .i64 0, .int .i64 0, .int .i64 0, .int .i64 0, .int .i64 0, .int .i64 0] 30)) := by go_grown
  have HA := hide (bytesAt_to q0 hA rfl)
  have HAL := hide (bytesAt_to q0 hAL rfl)
  have R0 := IsS.new (w := (w.alloc (.cells #[.int .i64 (W : Int), .int .i64 (H : Int), .slice (some ⟨g, 0, none⟩) n cap] 44)).alloc (.cells #[.int .i64 s.x, .int .i64 s.y, .int .i64 s.d.t, .int .i64 s.d.n, .int .i64 s.d.e, .int .i64 s.d.s, .int .i64 s.d.w, .int .i64 s.d.b] 30)) (s := ⟨0, 0, ⟨0, 0, 0, 0, 0, 0⟩⟩) (ty := 30)
  have G0 := ((IsG.new (w := w) (x := (W : Int)) (y := (H : Int)) (v := .slice (some ⟨g, 0, none⟩) n cap)).alloc (.cells #[.int .i64 s.x, .int .i64 s.y, .int .i64 s.d.t, .int .i64 s.d.n, .int .i64 s.d.e, .int .i64 s.d.s, .int .i64 s.d.w, .int .i64 s.d.b] 30)).alloc (.cells #[.int .i64 0, .int .i64 0, .int .i64 0, .int .i64 0, .int .i64 0, .int .i64 0, .int .i64 0, .int .i64 0] 30)
  simp only [World.size_alloc] at R0
  clear hg hA hAL hx hy hc hh
  go_enter Tryd.func60, Tryd.ntmps60
  go_wp2_with fail
  refine (boRoll_yes (unlab l) W H n HG.out g cap s k _ HA.out HX.out HY.out HC.out).mono ?_
  rintro e w1 ⟨rfl, hb1⟩
  have R1 := isS_to hb1 R0 rfl
  have q1 := below_to hb1 q0 (by simp; omega) rfl rfl rfl rfl
  have AL1 := hide (bytesAt_to hb1 HAL.out rfl)
  have G1 := isG_to hb1 G0 rfl
  clear hb1 R0 G0 HA HAL
  generalize hr : rollT s k = r at HHIT HFL ⊢
  have HRR := hide hr
  clear hr
  have R2 := R1.alloc (.cells #[.int .i64 r.x, .int .i64 r.y, .int .i64 r.d.t, .int .i64 r.d.n, .int .i64 r.d.e, .int .i64 r.d.s, .int .i64 r.d.w, .int .i64 r.d.b] 30)
  have G2 := G1.alloc (.cells #[.int .i64 r.x, .int .i64 r.y, .int .i64 r.d.t, .int .i64 r.d.n, .int .i64 r.d.e, .int .i64 r.d.s, .int .i64 r.d.w, .int .i64 r.d.b] 30)
  have N2 := IsS.new (w := w1) (s := r) (ty := 30)
  have AL2 := hide (AL1.out.allocP (.cells #[.int .i64 r.x, .int .i64 r.y, .int .i64 r.d.t, .int .i64 r.d.n, .int .i64 r.d.e, .int .i64 r.d.s, .int .i64 r.d.w, .int .i64 r.d.b] 30))
  have q2 := q1.alloc q1.size (.cells #[.int .i64 r.x, .int .i64 r.y, .int .i64 r.d.t, .int .i64 r.d.n, .int .i64 r.d.e, .int .i64 r.d.s, .int .i64 r.d.w, .int .i64 r.d.b] 30)
  have hz := q1.size
  clear R1 q1 G1 AL1
  go_upto_region 2 with (fail)
  generalize w1.heap.size = b1 at N2 hz ⊢
  generalize w1.alloc (.cells #[.int .i64 r.x, .int .i64 r.y, .int .i64 r.d.t, .int .i64 r.d.n, .int .i64 r.d.e, .int .i64 r.d.s, .int .i64 r.d.w, .int .i64 r.d.b] 30) = w2 at R2 G2 N2 AL2 q2 ⊢
  obtain ⟨l0, ⟨a0, a1, a2⟩, -⟩ := G2.all
  obtain ⟨l1, ⟨c0, c1, c2, c3, c4, c5, c6, c7⟩, -⟩ := N2.all
  go_wp2_with fail
  clear a0 a1 a2 c0 c1 c2 c3 c4 c5 c6 c7 l0 l1
  refine (prMatch_any l W H n g cap gl capl HG.out r HFL.out _ AL2.out).mono ?_
  rintro e w3 ⟨rfl, hb3⟩
  rw [show hitB (cellI (splitP l) r.x r.y) r.d.t = false from HHIT.out]
  have R3 := isS_to hb3 R2 rfl
  have N3 := isS_to hb3 N2 rfl
  have q3 := below_to hb3 q2 q2.size rfl rfl rfl rfl
  clear hb3 R2 N2 G2 q2
  obtain ⟨l1, ⟨c0, c1, c2, c3, c4, c5, c6, c7⟩, f0, f1, f2, f3, f4, f5, f6, f7⟩ := R3.all
  obtain ⟨l2, ⟨d0, d1, d2, d3, d4, d5, d6, d7⟩, -⟩ := N3.all
  go_wp2
  refine bodyPost_ret (ret_state2 Tryd.results60 rfl rfl (R3.set8 ⟨0, 0, ⟨0, 0, 0, 0, 0, 0⟩⟩)) rfl ⟨rfl, ?_⟩
  exact below_set8 q3 (show w.heap.size ≤ w.heap.size + 1 + 1 from by omega) ⟨0, 0, ⟨0, 0, 0, 0, 0, 0⟩⟩
set_option maxHeartbeats 1600000 in
theorem prRoll_hit (l : List UInt8) (W H n g cap gl capl : Nat) (hg : GridOk (unlab l) W H n) (s : St) (k : Int) (w : World) (hA : BytesAt w g (splitP (unlab l)).flatten) (hAL : BytesAt w gl (splitP l).flatten) (hx : -100000 ≤ s.x ∧ s.x ≤ 100000) (hy : -100000 ≤ s.y ∧ s.y ≤ 100000) (hc : canT (unlab l) s k = true) (hh : hitAt l (rollT s k) = true) :
    Calls Tryd.prog 60 #[gridV W H n g cap, .slice (some ⟨gl, 0, none⟩) n capl, St.v s, .int .i64 k] w fun e w' => e = .returned (.tuple #[St.v (rollT s k), .bool true]) ∧ Below w.heap.size w w' := by
  have HG := hide hg
  have HX := hide hx
  have HY := hide hy
  have HC := hide hc
  have HHIT := hide hh
  have HFL := hide (show floorL (unlab l) (rollT s k).x (rollT s k).y = true from hc)
  have q0 : Below w.heap.size w (((w.alloc (.cells #[.int .i64 (W : Int), .int .i64 (H : Int), .slice (some ⟨g, 0, none⟩) n cap] 44)).alloc (.cells #[.int .i64 s.x, .int .i64 s.y, .int .i64 s.d.t, .int .i64 s.d.n, .int .i64 s.d.e, .int .i64 s.d.s, .int .i64 s.d.w, .int .i64 s.d.b] 30)).alloc (.cells #[.int .i64 0, .int .i64 0, .int .i64 0, .int .i64 0, .int .i64 0, .int .i64 0, .int .i64 0, .int .i64 0] 30)) := by go_grown
  have HA := hide (bytesAt_to q0 hA rfl)
  have HAL := hide (bytesAt_to q0 hAL rfl)
  have R0 := IsS.new (w := (w.alloc (.cells #[.int .i64 (W : Int), .int .i64 (H : Int), .slice (some ⟨g, 0, none⟩) n cap] 44)).alloc (.cells #[.int .i64 s.x, .int .i64 s.y, .int .i64 s.d.t, .int .i64 s.d.n, .int .i64 s.d.e, .int .i64 s.d.s, .int .i64 s.d.w, .int .i64 s.d.b] 30)) (s := ⟨0, 0, ⟨0, 0, 0, 0, 0, 0⟩⟩) (ty := 30)
  have G0 := ((IsG.new (w := w) (x := (W : Int)) (y := (H : Int)) (v := .slice (some ⟨g, 0, none⟩) n cap)).alloc (.cells #[.int .i64 s.x, .int .i64 s.y, .int .i64 s.d.t, .int .i64 s.d.n, .int .i64 s.d.e, .int .i64 s.d.s, .int .i64 s.d.w, .int .i64 s.d.b] 30)).alloc (.cells #[.int .i64 0, .int .i64 0, .int .i64 0, .int .i64 0, .int .i64 0, .int .i64 0, .int .i64 0, .int .i64 0] 30)
  simp only [World.size_alloc] at R0
  clear hg hA hAL hx hy hc hh
  go_enter Tryd.func60, Tryd.ntmps60
  go_wp2_with fail
  refine (boRoll_yes (unlab l) W H n HG.out g cap s k _ HA.out HX.out HY.out HC.out).mono ?_
  rintro e w1 ⟨rfl, hb1⟩
  have R1 := isS_to hb1 R0 rfl
  have q1 := below_to hb1 q0 (by simp; omega) rfl rfl rfl rfl
  have AL1 := hide (bytesAt_to hb1 HAL.out rfl)
  have G1 := isG_to hb1 G0 rfl
  clear hb1 R0 G0 HA HAL
  generalize hr : rollT s k = r at HHIT HFL ⊢
  have HRR := hide hr
  clear hr
  have R2 := R1.alloc (.cells #[.int .i64 r.x, .int .i64 r.y, .int .i64 r.d.t, .int .i64 r.d.n, .int .i64 r.d.e, .int .i64 r.d.s, .int .i64 r.d.w, .int .i64 r.d.b] 30)
  have G2 := G1.alloc (.cells #[.int .i64 r.x, .int .i64 r.y, .int .i64 r.d.t, .int .i64 r.d.n, .int .i64 r.d.e, .int .i64 r.d.s, .int .i64 r.d.w, .int .i64 r.d.b] 30)
  have N2 := IsS.new (w := w1) (s := r) (ty := 30)
  have AL2 := hide (AL1.out.allocP (.cells #[.int .i64 r.x, .int .i64 r.y, .int .i64 r.d.t, .int .i64 r.d.n, .int .i64 r.d.e, .int .i64 r.d.s, .int .i64 r.d.w, .int .i64 r.d.b] 30))
  have q2 := q1.alloc q1.size (.cells #[.int .i64 r.x, .int .i64 r.y, .int .i64 r.d.t, .int .i64 r.d.n, .int .i64 r.d.e, .int .i64 r.d.s, .int .i64 r.d.w, .int .i64 r.d.b] 30)
  have hz := q1.size
  clear R1 q1 G1 AL1
  go_upto_region 2 with (fail)
  generalize w1.heap.size = b1 at N2 hz ⊢
  generalize w1.alloc (.cells #[.int .i64 r.x, .int .i64 r.y, .int .i64 r.d.t, .int .i64 r.d.n, .int .i64 r.d.e, .int .i64 r.d.s, .int .i64 r.d.w, .int .i64 r.d.b] 30) = w2 at R2 G2 N2 AL2 q2 ⊢
  obtain ⟨l0, ⟨a0, a1, a2⟩, -⟩ := G2.all
  obtain ⟨l1, ⟨c0, c1, c2, c3, c4, c5, c6, c7⟩, -⟩ := N2.all
  go_wp2_with fail
  clear a0 a1 a2 c0 c1 c2 c3 c4 c5 c6 c7 l0 l1
  refine (prMatch_any l W H n g cap gl capl HG.out r HFL.out _ AL2.out).mono ?_
  rintro e w3 ⟨rfl, hb3⟩
  rw [show hitB (cellI (splitP l) r.x r.y) r.d.t = true from HHIT.out]
  have R3 := isS_to hb3 R2 rfl
  have N3 := isS_to hb3 N2 rfl
  have q3 := below_to hb3 q2 q2.size rfl rfl rfl rfl
  clear hb3 R2 N2 G2 q2
  obtain ⟨l1, ⟨c0, c1, c2, c3, c4, c5, c6, c7⟩, f0, f1, f2, f3, f4, f5, f6, f7⟩ := R3.all
  obtain ⟨l2, ⟨d0, d1, d2, d3, d4, d5, d6, d7⟩, -⟩ := N3.all
  go_wp2
  refine bodyPost_ret (ret_state2 Tryd.results60 rfl rfl (R3.set8 r)) rfl ⟨by rw [HRR.out], ?_⟩
  exact below_set8 q3 (show w.heap.size ≤ w.heap.size + 1 + 1 from by omega) r
theorem prRoll_no (l : List UInt8) (W H n g cap gl capl : Nat) (hg : GridOk (unlab l) W H n) (s : St) (k : Int) (w : World) (hA : BytesAt w g (splitP (unlab l)).flatten) (hAL : BytesAt w gl (splitP l).flatten) (hx : -100000 ≤ s.x ∧ s.x ≤ 100000) (hy : -100000 ≤ s.y ∧ s.y ≤ 100000) (hh : hitAt l (rollT s k) = false) :
    Calls Tryd.prog 60 #[gridV W H n g cap, .slice (some ⟨gl, 0, none⟩) n capl, St.v s, .int .i64 k] w fun e w' => e = .returned (.tuple #[St.v ⟨0, 0, ⟨0, 0, 0, 0, 0, 0⟩⟩, .bool false]) ∧ Below w.heap.size w w' := by
  cases hc : canT (unlab l) s k
  · exact prRoll_can l W H n g cap gl capl hg s k w hA hAL hx hy hc
  · exact prRoll_miss l W H n g cap gl capl hg s k w hA hAL hx hy hc hh
theorem prRoll_yes (l : List UInt8) (W H n g cap gl capl : Nat) (hg : GridOk (unlab l) W H n) (s : St) (k : Int) (w : World) (hA : BytesAt w g (splitP (unlab l)).flatten) (hAL : BytesAt w gl (splitP l).flatten) (hx : -100000 ≤ s.x ∧ s.x ≤ 100000) (hy : -100000 ≤ s.y ∧ s.y ≤ 100000) (h0 : 0 ≤ (rollT s k).d.t) (h9 : (rollT s k).d.t ≤ 9) (hh : hitAt l (rollT s k) = true) :
    Calls Tryd.prog 60 #[gridV W H n g cap, .slice (some ⟨gl, 0, none⟩) n capl, St.v s, .int .i64 k] w fun e w' => e = .returned (.tuple #[St.v (rollT s k), .bool true]) ∧ Below w.heap.size w w' :=
  prRoll_hit l W H n g cap gl capl hg s k w hA hAL hx hy (hit_floor h0 h9 hh) hh
end Go.Proofs.YtckajjocpheakaaDoor
