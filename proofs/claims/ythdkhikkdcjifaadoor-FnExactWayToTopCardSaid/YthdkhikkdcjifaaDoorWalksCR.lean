/- The walk of the law of CountReached. -/
import Derived.Test.YthdkhikkdcjifaaDoorWyA
import Derived.Test.YthdkhikkdcjifaaDoorRof
import Derived.Test.YthdkhikkdcjifaaDoorStateTo
import Derived.Test.YthdkhikkdcjifaaDoorCardKit
namespace Go.Proofs.YthdkhikkdcjifaaDoor
set_option maxRecDepth 100000
set_option linter.all false
open Go.RowKit Go.Maps Go.ChangeMaps

theorem boAsked_no (s : ByteArray) (t : St) (w : World) (hs : s.size ≤ 1048576) (h : askB s t = false) : Calls Tryd.prog 44 #[.string s, St.v t] w fun e w' => ∃ W H p m c, e = .returned (.tuple #[.agg #[.int .i64 W, .int .i64 H, .slice p m c], .bool false]) ∧ Below w.heap.size w w' := by
  cases h1 : isBd s.data.toList
  · refine (boAsked_bad s t w hs h1).mono ?_
    rintro e w' ⟨rfl, hb⟩
    exact ⟨0, 0, none, 0, 0, rfl, hb⟩
  · refine (boAsked_in s t w hs h1).mono ?_
    rintro e w' ⟨W, H, n, g, cap, _, rfl, _, hb⟩
    refine ⟨(W : Int), (H : Int), some ⟨g, 0, none⟩, n, cap, ?_, hb⟩
    unfold askB at h
    rw [h1, Bool.true_and] at h
    rw [h]
theorem boAsked_yes (s : ByteArray) (t : St) (w : World) (hs : s.size ≤ 1048576) (h : askB s t = true) : Calls Tryd.prog 44 #[.string s, St.v t] w fun e w' => ∃ W H n g cap, GridOk s.data.toList W H n ∧ e = .returned (.tuple #[gridV W H n g cap, .bool true]) ∧ BytesAt w' g (splitP s.data.toList).flatten ∧ Below w.heap.size w w' := by
  obtain ⟨h1, h2, _, _⟩ := ask_split h
  refine (boAsked_in s t w hs h1).mono ?_
  rintro e w' ⟨W, H, n, g, cap, hG, rfl, hA, hb⟩
  exact ⟨W, H, n, g, cap, hG, by rw [h2], hA, hb⟩
/-- All that is found from a state on a board. -/
def wysB (s : ByteArray) (t : St) : List Nd := wyL (flAt s.data.toList) t
theorem wysB_len {s : ByteArray} {t : St} (h : askB s t = true) : (wysB s t).length ≤ 900 := by
  obtain ⟨h1, _, h3, h4⟩ := ask_split h
  have := (fitOk_board h1 h3 h4).len 1000 0 (by omega)
  exact this
theorem wyAllB (s : ByteArray) (t : St) (h : askB s t = true) (W H n g cap : Nat) (hG : GridOk s.data.toList W H n) (w : World) (hA : BytesAt w g (splitP s.data.toList).flatten) :
    Calls Tryd.prog 45 #[gridV W H n g cap, St.v t] w (AllWy (flAt s.data.toList) t w) := by
  obtain ⟨_, _, h3, h4⟩ := ask_split h
  exact wyAll_any _ W H n hG g cap t h3 h4 w hA
def crV (s : ByteArray) (t : St) : Int := if askB s t = true then ((wysB s t).length : Int) else 0
set_option maxHeartbeats 1600000 in
theorem specCR_any (s : ByteArray) (t : St) (w : World) (hs : s.size ≤ 1048576) : Calls Tryd.prog 14 #[.string s, St.v t] w fun e w' => e = .returned (.tuple #[.int .i64 (crV s t), .bool (askB s t)]) ∧ Below w.heap.size w w' := by
  have S0 : IsS (w.alloc (.cells #[.int .i64 t.x, .int .i64 t.y, .int .i64 t.d.t, .int .i64 t.d.n, .int .i64 t.d.e, .int .i64 t.d.s, .int .i64 t.d.w, .int .i64 t.d.b] 30)) w.heap.size t 30 := IsS.new
  have q0 : Below w.heap.size w (w.alloc (.cells #[.int .i64 t.x, .int .i64 t.y, .int .i64 t.d.t, .int .i64 t.d.n, .int .i64 t.d.e, .int .i64 t.d.s, .int .i64 t.d.w, .int .i64 t.d.b] 30)) := by go_grown
  cases h : askB s t
  · have H := hide h
    have HX := hide (show crV s t = 0 from by unfold crV; rw [h]; rfl)
    rw [HX.out]
    clear h
    obtain ⟨l0, ⟨c0, c1, c2, c3, c4, c5, c6, c7⟩, -⟩ := S0.all
    go_enter Tryd.func14, Tryd.ntmps14
    go_wp2_with fail
    refine (boAsked_no s t _ hs H.out).mono ?_
    rintro e w1 ⟨W, Hh, p, m, c, rfl, hb1⟩
    have q1 := below_to hb1 q0 q0.size rfl rfl rfl rfl
    go_wp2
    go_returns
    exact ⟨rfl, q1.alloc q1.size _⟩
  · have H := hide h
    have HX := hide (show crV s t = ((wysB s t).length : Int) from by unfold crV; rw [h]; rfl)
    rw [HX.out]
    clear h
    obtain ⟨l0, ⟨c0, c1, c2, c3, c4, c5, c6, c7⟩, -⟩ := S0.all
    go_enter Tryd.func14, Tryd.ntmps14
    go_wp2_with fail
    refine (boAsked_yes s t _ hs H.out).mono ?_
    rintro e w1 ⟨W, Hh, n, g, cap, hG, rfl, hA, hb1⟩
    have HG := hide hG
    have q1 := below_to hb1 q0 q0.size rfl rfl rfl rfl
    have S1 := (isS_to hb1 S0 rfl).alloc (.cells #[.int .i64 (W : Int), .int .i64 (Hh : Int), .slice (some ⟨g, 0, none⟩) n cap] 59)
    have G1 := IsG.new (w := w1) (x := (W : Int)) (y := (Hh : Int)) (v := .slice (some ⟨g, 0, none⟩) n cap)
    have A1 : BytesAt (w1.alloc (.cells #[.int .i64 (W : Int), .int .i64 (Hh : Int), .slice (some ⟨g, 0, none⟩) n cap] 59)) g (splitP s.data.toList).flatten := bytesAt_to ((Below.refl _ _).alloc (Nat.le_refl _) _) hA rfl
    have q2 := q1.alloc q1.size (.cells #[.int .i64 (W : Int), .int .i64 (Hh : Int), .slice (some ⟨g, 0, none⟩) n cap] 59)
    have HA := hide A1
    clear hb1 S0 q0 q1 hA hG A1 c0 c1 c2 c3 c4 c5 c6 c7 l0
    obtain ⟨l0, ⟨c0, c1, c2, c3, c4, c5, c6, c7⟩, -⟩ := S1.all
    obtain ⟨l1, ⟨d0, d1, d2⟩, -⟩ := G1.all
    go_wp2_with fail
    refine (wyAllB s t H.out W Hh n g cap HG.out _ HA.out).mono ?_
    rintro e w3 ⟨v, L, rfl, hL, hown, hb3⟩
    have q3 := below_to hb3 q2 q2.size rfl rfl rfl rfl
    have hlen : L.length = (wysB s t).length := core_len hL
    have hpos : 0 < L.length := by
      rw [hlen]
      exact (List.getElem?_eq_some_iff.1 (runW_ok (flAt s.data.toList) t 1000).head).1
    obtain ⟨g1, c1, rfl, -, -⟩ := own_form hown hpos
    rw [hlen]
    clear hlen hpos hL hown hb3
    go_wp2
    go_returns
    exact ⟨rfl, q3⟩
set_option maxHeartbeats 1600000 in
theorem implCR_any (s : ByteArray) (t : St) (w : World) (hs : s.size ≤ 1048576) (hg : Glob w) : Calls Tryd.prog 16 #[.string s, St.v t] w fun e w' => e = .returned (.tuple #[.int .i64 (crV s t), .bool (askB s t)]) ∧ Below w.heap.size w w' := by
  have S0 : IsS (w.alloc (.cells #[.int .i64 t.x, .int .i64 t.y, .int .i64 t.d.t, .int .i64 t.d.n, .int .i64 t.d.e, .int .i64 t.d.s, .int .i64 t.d.w, .int .i64 t.d.b] 30)) w.heap.size t 30 := IsS.new
  have q0 : Below w.heap.size w (w.alloc (.cells #[.int .i64 t.x, .int .i64 t.y, .int .i64 t.d.t, .int .i64 t.d.n, .int .i64 t.d.e, .int .i64 t.d.s, .int .i64 t.d.w, .int .i64 t.d.b] 30)) := by go_grown
  have HG := hide (glob_to (w0 := w) q0 hg rfl)
  cases h : askB s t
  · have H := hide h
    have HX := hide (show crV s t = 0 from by unfold crV; rw [h]; rfl)
    rw [HX.out]
    clear h
    have hnl := fun (w : World) (ty : TypeId) => Maps.len_nil (P := Tryd.prog) (w := w) Tryd.underlying65 ty
    obtain ⟨l0, ⟨c0, c1, c2, c3, c4, c5, c6, c7⟩, -⟩ := S0.all
    go_enter Tryd.func16, Tryd.ntmps16
    go_wp2_with fail
    refine (routesFrom_no s t _ hs HG.out H.out).mono ?_
    rintro e w1 ⟨rfl, hb1⟩
    have q1 := below_to hb1 q0 q0.size rfl rfl rfl rfl
    go_wp2
    go_returns
    exact ⟨rfl, q1⟩
  · have H := hide h
    have HX := hide (show crV s t = ((wysB s t).length : Int) from by unfold crV; rw [h]; rfl)
    rw [HX.out]
    clear h
    obtain ⟨l0, ⟨c0, c1, c2, c3, c4, c5, c6, c7⟩, -⟩ := S0.all
    go_enter Tryd.func16, Tryd.ntmps16
    go_wp2_with fail
    refine (routesFrom_yes s t _ hs HG.out H.out).mono ?_
    rintro e w1 ⟨rb, rfl, hrb, hmap, hb1⟩
    have q1 := below_to hb1 q0 q0.size rfl rfl rfl rfl
    have hlen : (((seL (wyL (flAt s.data.toList) t)).length : Nat) : Int) = ((wysB s t).length : Int) := by rw [seL_len]; rfl
    have HLEN := hide hlen
    clear hlen
    go_wp2_with (at_len; refine wpList_len_S rfl _ rfl rb _ _ rfl hmap ?_; rw [HLEN.out])
    go_returns
    exact ⟨rfl, q1⟩

set_option maxHeartbeats 3200000 in
theorem walk_CountReached (v0 : ByteArray) (hv0 : v0.size ≤ maxLen) (t0 : St) (hxt0 : (Lit.int .i64 t0.x).wf = true) (hyt0 : (Lit.int .i64 t0.y).wf = true)  (w : World) (hg : Glob w) : Calls Tryd.prog 3 #[.string v0, St.v t0] w fun e w' => e = .returned (.bool true) ∧ Below w.heap.size w w' := by
  have HGL := hide hg
  clear hg
  by_cases h0 : v0.size ≤ 1048576
  · have HS0 := hide h0
    obtain ⟨z0, hz0⟩ : ∃ z, z = crV v0 t0 := ⟨_, rfl⟩
    have HZ0 := hide hz0
    clear hz0
    have e0 : (z0 != z0) = false := by simp
    obtain ⟨z1, hz1⟩ : ∃ z, z = askB v0 t0 := ⟨_, rfl⟩
    have HZ1 := hide hz1
    clear hz1
    have e1 : (z1 != z1) = false := by simp
    have B0 : IsS (w.alloc (.cells #[.int .i64 t0.x, .int .i64 t0.y, .int .i64 t0.d.t, .int .i64 t0.d.n, .int .i64 t0.d.e, .int .i64 t0.d.s, .int .i64 t0.d.w, .int .i64 t0.d.b] 25)) w.heap.size t0 25 := IsS.new (s := t0)
    skip
    have q0 : Below w.heap.size w (w.alloc (.cells #[.int .i64 t0.x, .int .i64 t0.y, .int .i64 t0.d.t, .int .i64 t0.d.n, .int .i64 t0.d.e, .int .i64 t0.d.s, .int .i64 t0.d.w, .int .i64 t0.d.b] 25)) := by go_grown
    go_enter Tryd.func3, Tryd.ntmps3
    go_upto_region 3 with (fail)
    generalize (w.alloc (.cells #[.int .i64 t0.x, .int .i64 t0.y, .int .i64 t0.d.t, .int .i64 t0.d.n, .int .i64 t0.d.e, .int .i64 t0.d.s, .int .i64 t0.d.w, .int .i64 t0.d.b] 25)) = w0 at B0 q0 ⊢
    obtain ⟨l0, ⟨c0, c1, c2, c3, c4, c5, c6, c7⟩, -⟩ := B0.all
    go_wp2_with fail
    clear c0 c1 c2 c3 c4 c5 c6 c7 l0
    refine (toState_any t0 _).mono ?_
    rintro e w1 ⟨rfl, hb1⟩
    have b0 := isS_to hb1 B0 rfl
    have q1 := below_to hb1 q0 q0.size rfl rfl rfl rfl
    have hgl := hide (glob_to q1 HGL.out rfl)
    clear hb1 B0 q0
    go_wp2_with fail
    refine (specCR_any v0 t0 _ HS0.out).mono ?_
    rintro e w2 ⟨rfl, hb2⟩
    rw [← HZ0.out, ← HZ1.out]
    have B0 := isS_to hb2 b0 rfl
    have q0 := below_to hb2 q1 q1.size rfl rfl rfl rfl
    clear hb2 b0 q1 hgl
    obtain ⟨l0, ⟨c0, c1, c2, c3, c4, c5, c6, c7⟩, -⟩ := B0.all
    go_wp2_with fail
    clear c0 c1 c2 c3 c4 c5 c6 c7 l0
    refine (toState_any t0 _).mono ?_
    rintro e w1 ⟨rfl, hb1⟩
    have b0 := isS_to hb1 B0 rfl
    have q1 := below_to hb1 q0 q0.size rfl rfl rfl rfl
    have hgl := hide (glob_to q1 HGL.out rfl)
    clear hb1 B0 q0
    go_wp2_with fail
    refine (implCR_any v0 t0 _ HS0.out hgl.out).mono ?_
    rintro e w2 ⟨rfl, hb2⟩
    rw [← HZ0.out, ← HZ1.out]
    have B0 := isS_to hb2 b0 rfl
    have q0 := below_to hb2 q1 q1.size rfl rfl rfl rfl
    clear hb2 b0 q1 hgl
    go_wp2
    go_returns
    exact ⟨rfl, q0⟩
  · go_enter Tryd.func3, Tryd.ntmps3
    go_wp2
    go_returns
    exact ⟨rfl, by go_grown⟩
end Go.Proofs.YthdkhikkdcjifaaDoor
