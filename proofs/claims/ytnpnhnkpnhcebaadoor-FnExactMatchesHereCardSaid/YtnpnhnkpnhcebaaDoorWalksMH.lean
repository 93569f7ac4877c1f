/- FnExactMatchesHere's walk. -/
import Derived.Test.YtnpnhnkpnhcebaaDoorUnder
namespace Go.Proofs.YtnpnhnkpnhcebaaDoor
set_option maxRecDepth 100000
set_option linter.all false
open Go.RowKit

/-- Is there a state on a labelled board? -/
def onL (l : List UInt8) (t : St) : Bool := isLab l && stL (unlab l) t
/-- Does a state match? -/
def mhB (l : List UInt8) (t : St) : Bool := onL l t && hitB (cellI (splitP l) t.x t.y) t.d.t
theorem st_floor {l : List UInt8} {t : St} (h : stL l t = true) : floorL l t.x t.y = true ∧ goodB t.d = true := by
  unfold stL at h
  rwa [Bool.and_eq_true] at h
theorem good_top {d : D} (h : goodB d = true) : 0 ≤ d.t ∧ d.t ≤ 9 := by
  unfold goodB at h
  have := of_decide_eq_true h
  exact ⟨this.1, this.2.1⟩
theorem onL_no {l : List UInt8} {t : St} (h : isLab l = false) : onL l t = false := by unfold onL; rw [h]; rfl
theorem onL_eq {l : List UInt8} {t : St} (h : isLab l = true) : onL l t = stL (unlab l) t := by unfold onL; rw [h]; rfl

set_option maxHeartbeats 1600000 in
theorem specMH_any (s : ByteArray) (t : St) (w : World) (_hs : s.size ≤ 1048576) : Calls Tryd.prog 14 #[.string s, St.v t] w fun e w' => e = .returned (.tuple #[.bool (mhB s.data.toList t), .bool (onL s.data.toList t)]) ∧ Below w.heap.size w w' := by
  cases hl : isLab s.data.toList
  · have HON := hide (onL_no (t := t) hl)
    have HM := hide (show mhB s.data.toList t = false from by unfold mhB; rw [HON.out]; rfl)
    have HLB := hide hl
    rw [HON.out, HM.out]
    clear hl
    go_enter Tryd.func14, Tryd.ntmps14
    go_wp2_with fail
    refine (prAsked_bad s t _ HLB.out).mono ?_
    rintro e w1 ⟨v1, rfl, hb1⟩
    have q1 : Below w.heap.size w w1 := below_after (by go_grown) hb1 (by simp)
    go_wp2
    go_returns
    exact ⟨rfl, q1.alloc q1.size _⟩
  · have HON := hide (onL_eq (t := t) hl)
    have HLB := hide hl
    rw [HON.out]
    clear hl
    cases hst : stL (unlab s.data.toList) t
    · have HM := hide (show mhB s.data.toList t = false from by unfold mhB; rw [HON.out, hst]; rfl)
      have HST := hide hst
      rw [HM.out]
      clear hst
      go_enter Tryd.func14, Tryd.ntmps14
      go_wp2_with fail
      refine (prAsked_in s t _ HLB.out).mono ?_
      rintro e w1 ⟨W, Hh, n, g, cap, gl, capl, hG, rfl, hA, hcp, hAL, hb1⟩
      rw [HST.out]
      have q1 : Below w.heap.size w w1 := below_after (by go_grown) hb1 (by simp)
      clear hA hcp hAL hG hb1
      go_wp2
      go_returns
      exact ⟨rfl, q1.alloc q1.size _⟩
    · have HM := hide (show mhB s.data.toList t = hitB (cellI (splitP s.data.toList) t.x t.y) t.d.t from by unfold mhB; rw [HON.out, hst]; rfl)
      have HF := hide (st_floor hst).1
      have HST := hide hst
      rw [HM.out]
      clear hst
      go_enter Tryd.func14, Tryd.ntmps14
      go_wp2_with fail
      refine (prAsked_in s t _ HLB.out).mono ?_
      rintro e w1 ⟨W, Hh, n, g, cap, gl, capl, hG, rfl, hA, hcp, hAL, hb1⟩
      rw [HST.out]
      have u1 := (isS_to hb1 (IsS.new (s := t) (ty := 33)) rfl).alloc (.cells #[.int .i64 (W : Int), .int .i64 (Hh : Int), .slice (some ⟨g, 0, none⟩) n cap] 38)
      have q1 : Below w.heap.size w w1 := below_after (by go_grown) hb1 (by simp)
      have q1a := q1.alloc q1.size (.cells #[.int .i64 (W : Int), .int .i64 (Hh : Int), .slice (some ⟨g, 0, none⟩) n cap] 38)
      have HA := hide (hAL.allocP (.cells #[.int .i64 (W : Int), .int .i64 (Hh : Int), .slice (some ⟨g, 0, none⟩) n cap] 38))
      have HGR := hide hG
      have G1 := IsG.new (w := w1) (x := (W : Int)) (y := (Hh : Int)) (v := .slice (some ⟨g, 0, none⟩) n cap)
      obtain ⟨l1, ⟨c0, c1, c2, c3, c4, c5, c6, c7⟩, -⟩ := u1.all
      obtain ⟨l2, ⟨e0, e1, e2⟩, -⟩ := G1.all
      clear hb1 u1 hA hcp hAL hG q1 G1
      go_upto_region 4 with (fail)
      generalize w1.heap.size = b1 at e0 e1 e2 l2 ⊢
      generalize w1.alloc (.cells #[.int .i64 (W : Int), .int .i64 (Hh : Int), .slice (some ⟨g, 0, none⟩) n cap] 38) = w2 at c0 c1 c2 c3 c4 c5 c6 c7 e0 e1 e2 l1 l2 q1a HA ⊢
      go_wp2_with fail
      clear c0 c1 c2 c3 c4 c5 c6 c7 e0 e1 e2 l1 l2
      refine (prMatch_any s.data.toList W Hh n g cap gl capl HGR.out t HF.out _ HA.out).mono ?_
      rintro e w3 ⟨rfl, hb3⟩
      have q3 := below_to hb3 q1a q1a.size rfl rfl rfl rfl
      go_wp2
      go_returns
      exact ⟨rfl, q3⟩
set_option maxHeartbeats 1600000 in
theorem implMH_any (s : ByteArray) (t : St) (w : World) (hs : s.size ≤ 1048576) (hg : Glob w) : Calls Tryd.prog 16 #[.string s, St.v t] w fun e w' => e = .returned (.tuple #[.bool (mhB s.data.toList t), .bool (onL s.data.toList t)]) ∧ Below w.heap.size w w' := by
  have HG := hide (show Glob (w.alloc (.cells #[.int .i64 t.x, .int .i64 t.y, .int .i64 t.d.t, .int .i64 t.d.n, .int .i64 t.d.e, .int .i64 t.d.s, .int .i64 t.d.w, .int .i64 t.d.b] 33)) from glob_to (w0 := w) ((Below.refl _ _).alloc (Nat.le_refl _) _) hg rfl)
  clear hg
  cases hon : onL s.data.toList t
  · have HM := hide (show mhB s.data.toList t = false from by unfold mhB; rw [hon]; rfl)
    have HON := hide hon
    rw [HM.out]
    clear hon
    go_enter Tryd.func16, Tryd.ntmps16
    go_wp2_with fail
    refine (labelsUnder_no s t _ hs HG.out HON.out).mono ?_
    rintro e w1 ⟨rfl, hb1⟩
    have q1 : Below w.heap.size w w1 := below_after (by go_grown) hb1 (by simp)
    go_wp2
    go_returns
    exact ⟨rfl, q1⟩
  · have HM := hide (show mhB s.data.toList t = hitB (cellI (splitP s.data.toList) t.x t.y) t.d.t from by unfold mhB; rw [hon]; rfl)
    have HON := hide hon
    have hst := hon
    unfold onL at hst
    rw [Bool.and_eq_true] at hst
    obtain ⟨h0, h9⟩ := good_top (st_floor hst.2).2
    rw [HM.out]
    clear hon hst
    go_enter Tryd.func16, Tryd.ntmps16
    go_wp2_with fail
    refine (labelsUnder_yes s t _ hs HG.out HON.out).mono ?_
    rintro e w1 ⟨W, Hh, n, h, g, cap, hG, rfl, hLA, hb1⟩
    have u1 := isS_to hb1 (IsS.new (s := t) (ty := 33)) rfl
    have q1 : Below w.heap.size w w1 := below_after (by go_grown) hb1 (by simp)
    obtain ⟨w0, w7, i0, i7, hn⟩ := grid_facts hG
    obtain ⟨he, hH, hfl⟩ := lab_facts hG
    have HE := hide he
    have HH := hide hH
    have HLA := hide hLA
    obtain ⟨l1, ⟨c0, c1, c2, c3, c4, c5, c6, c7⟩, -⟩ := u1.all
    clear hb1 u1 he hH hfl hLA hG hn
    go_wp2_with fail
    clear c0 c1 c2 c3 c4 c5 c6 c7 l1
    refine (matches_any s.data.toList W Hh h g cap HE.out HH.out w7 i7 t h0 h9 _ HLA.out).mono ?_
    rintro e w3 ⟨rfl, hb3⟩
    have q3 := below_to hb3 q1 q1.size rfl rfl rfl rfl
    go_wp2
    go_returns
    exact ⟨rfl, q3⟩

set_option maxHeartbeats 1600000 in
theorem walk_MatchesHere (v : ByteArray) (hv : v.size ≤ maxLen) (t : St) (htx : (Lit.int .i64 t.x).wf = true) (hty : (Lit.int .i64 t.y).wf = true) (w : World) (hg : Glob w) : Calls Tryd.prog 6 #[.string v, St.v t] w fun e w' => e = .returned (.bool true) ∧ Below w.heap.size w w' := by
  have HGL := hide hg
  clear hg
  by_cases h0 : v.size ≤ 1048576
  · have HS0 := hide h0
    go_enter Tryd.func6, Tryd.ntmps6
    go_wp2_with fail
    refine (toState_any t _).mono ?_
    rintro e w1 ⟨rfl, hb1⟩
    have u1 := isS_to hb1 (IsS.new (w := w) (s := t) (ty := 28)) rfl
    have q1 : Below w.heap.size w w1 := below_after (by go_grown) hb1 (by simp)
    clear hb1
    go_wp2_with fail
    refine (specMH_any v t _ HS0.out).mono ?_
    rintro e w2 ⟨rfl, hb2⟩
    have u2 := isS_to hb2 u1 rfl
    have q2 := below_to hb2 q1 q1.size rfl rfl rfl rfl
    clear hb2 u1 q1
    generalize hz0 : mhB v.data.toList t = z0
    have HZ0 := hide hz0
    clear hz0
    generalize hz1 : onL v.data.toList t = z1
    have HZ1 := hide hz1
    clear hz1
    obtain ⟨l1, ⟨c0, c1, c2, c3, c4, c5, c6, c7⟩, -⟩ := u2.all
    go_wp2_with fail
    clear c0 c1 c2 c3 c4 c5 c6 c7 l1
    refine (toState_any t _).mono ?_
    rintro e w3 ⟨rfl, hb3⟩
    have q3 := below_to hb3 q2 q2.size rfl rfl rfl rfl
    have hg3 := hide (show Glob w3 from by
      have hl := HGL.out.lt
      obtain ⟨m, hm⟩ := HGL.out
      exact ⟨m, (q3.cell (p := ⟨0, 0, none⟩) hl).trans hm⟩)
    clear hb3 u2 q2
    go_wp2_with fail
    refine (implMH_any v t _ HS0.out hg3.out).mono ?_
    rintro e w4 ⟨rfl, hb4⟩
    rw [HZ0.out, HZ1.out]
    have q4 := below_to hb4 q3 q3.size rfl rfl rfl rfl
    have e0 : (z0 != z0) = false := by simp
    have e1 : (z1 != z1) = false := by simp
    go_wp2
    go_returns
    exact ⟨rfl, q4⟩
  · go_enter Tryd.func6, Tryd.ntmps6
    go_wp2
    go_returns
    exact ⟨rfl, by go_grown⟩
end Go.Proofs.YtnpnhnkpnhcebaaDoor
