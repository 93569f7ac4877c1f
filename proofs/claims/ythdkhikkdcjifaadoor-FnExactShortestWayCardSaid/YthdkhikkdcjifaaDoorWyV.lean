/- The contract of impl.routeTo. -/
import Derived.Test.YthdkhikkdcjifaaDoorWyU
namespace Go.Proofs.YthdkhikkdcjifaaDoor
set_option maxRecDepth 100000
set_option linter.all false
open Go.RowKit Go.Maps Go.ChangeMaps

theorem ir_ask {s : ByteArray} {t u : St} (h : irB s t u = true) : askB s t = true := by
  unfold irB at h
  rw [Bool.and_eq_true] at h
  exact h.1
set_option maxHeartbeats 3200000 in
theorem routeTo_any (s : ByteArray) (t u : St) (hw : wfS u) (w : World) (hs : s.size ≤ 1048576) (hg : Glob w) : Calls Tryd.prog 51 #[.string s, St.v t, St.v u, (.func (.func 48) #[] #[])] w fun e w' => e = .returned (.tuple #[Rt.v ((ndB s t u).elim zeroR rtOf), .bool (ndB s t u).isSome]) ∧ Below w.heap.size w w' := by
  have S0 : IsS (((w.alloc (.cells #[.int .i64 t.x, .int .i64 t.y, .int .i64 t.d.t, .int .i64 t.d.n, .int .i64 t.d.e, .int .i64 t.d.s, .int .i64 t.d.w, .int .i64 t.d.b] 30)).alloc (.cells #[.int .i64 u.x, .int .i64 u.y, .int .i64 u.d.t, .int .i64 u.d.n, .int .i64 u.d.e, .int .i64 u.d.s, .int .i64 u.d.w, .int .i64 u.d.b] 30)).alloc (.cells #[.string ⟨#[]⟩, .int .i64 0, .int .i64 0] 73)) w.heap.size t 30 := ((IsS.new (s := t)).alloc _).alloc _
  have T0 : IsS (((w.alloc (.cells #[.int .i64 t.x, .int .i64 t.y, .int .i64 t.d.t, .int .i64 t.d.n, .int .i64 t.d.e, .int .i64 t.d.s, .int .i64 t.d.w, .int .i64 t.d.b] 30)).alloc (.cells #[.int .i64 u.x, .int .i64 u.y, .int .i64 u.d.t, .int .i64 u.d.n, .int .i64 u.d.e, .int .i64 u.d.s, .int .i64 u.d.w, .int .i64 u.d.b] 30)).alloc (.cells #[.string ⟨#[]⟩, .int .i64 0, .int .i64 0] 73)) (w.alloc (.cells #[.int .i64 t.x, .int .i64 t.y, .int .i64 t.d.t, .int .i64 t.d.n, .int .i64 t.d.e, .int .i64 t.d.s, .int .i64 t.d.w, .int .i64 t.d.b] 30)).heap.size u 30 := (IsS.new (s := u)).alloc _
  have Z0 : IsR (((w.alloc (.cells #[.int .i64 t.x, .int .i64 t.y, .int .i64 t.d.t, .int .i64 t.d.n, .int .i64 t.d.e, .int .i64 t.d.s, .int .i64 t.d.w, .int .i64 t.d.b] 30)).alloc (.cells #[.int .i64 u.x, .int .i64 u.y, .int .i64 u.d.t, .int .i64 u.d.n, .int .i64 u.d.e, .int .i64 u.d.s, .int .i64 u.d.w, .int .i64 u.d.b] 30)).alloc (.cells #[.string ⟨#[]⟩, .int .i64 0, .int .i64 0] 73)) ((w.alloc (.cells #[.int .i64 t.x, .int .i64 t.y, .int .i64 t.d.t, .int .i64 t.d.n, .int .i64 t.d.e, .int .i64 t.d.s, .int .i64 t.d.w, .int .i64 t.d.b] 30)).alloc (.cells #[.int .i64 u.x, .int .i64 u.y, .int .i64 u.d.t, .int .i64 u.d.n, .int .i64 u.d.e, .int .i64 u.d.s, .int .i64 u.d.w, .int .i64 u.d.b] 30)).heap.size zeroR := IsR.new (r := zeroR)
  simp only [World.size_alloc] at T0 Z0
  have q0 : Below w.heap.size w (((w.alloc (.cells #[.int .i64 t.x, .int .i64 t.y, .int .i64 t.d.t, .int .i64 t.d.n, .int .i64 t.d.e, .int .i64 t.d.s, .int .i64 t.d.w, .int .i64 t.d.b] 30)).alloc (.cells #[.int .i64 u.x, .int .i64 u.y, .int .i64 u.d.t, .int .i64 u.d.n, .int .i64 u.d.e, .int .i64 u.d.s, .int .i64 u.d.w, .int .i64 u.d.b] 30)).alloc (.cells #[.string ⟨#[]⟩, .int .i64 0, .int .i64 0] 73)) := by go_grown
  have HG := hide (glob_to (w0 := w) q0 hg rfl)
  cases ha : askB s t
  · have H := hide ha
    have HN := hide (show ndB s t u = none from by unfold ndB; rw [ha, if_neg (by simp)])
    rw [HN.out]
    show Calls _ _ _ _ fun e w' => e = .returned (.tuple #[Rt.v zeroR, .bool false]) ∧ Below w.heap.size w w'
    have hlk := fun wx => lookS_nil hw wx
    clear ha hg
    obtain ⟨l0, ⟨c0, c1, c2, c3, c4, c5, c6, c7⟩, -⟩ := S0.all
    go_enter Tryd.func51, Tryd.ntmps51
    go_wp2_with fail
    generalize ((w.alloc (.cells #[.int .i64 t.x, .int .i64 t.y, .int .i64 t.d.t, .int .i64 t.d.n, .int .i64 t.d.e, .int .i64 t.d.s, .int .i64 t.d.w, .int .i64 t.d.b] 30)).alloc (.cells #[.int .i64 u.x, .int .i64 u.y, .int .i64 u.d.t, .int .i64 u.d.n, .int .i64 u.d.e, .int .i64 u.d.s, .int .i64 u.d.w, .int .i64 u.d.b] 30)).alloc (.cells #[.string ⟨#[]⟩, .int .i64 0, .int .i64 0] 73) = w0 at S0 T0 Z0 q0 HG l0 c0 c1 c2 c3 c4 c5 c6 c7 ⊢
    refine (routesFrom_no s t _ hs HG.out H.out).mono ?_
    rintro e w1 ⟨rfl, hb1⟩
    have q1 := below_to hb1 q0 q0.size rfl rfl rfl rfl
    have T1 := isS_to hb1 T0 rfl
    have Z1 := isR_to hb1 Z0 rfl
    clear hb1 l0 c0 c1 c2 c3 c4 c5 c6 c7 S0 T0 Z0 q0
    obtain ⟨m0, ⟨d0, d1, d2, d3, d4, d5, d6, d7⟩, -⟩ := T1.all
    have hz1 := Z1.lt
    go_upto_region 3 with (fail)
    have Y1 : IsR (w1.alloc (.cells #[.string ⟨zeroR.word.toArray⟩, .int .i64 zeroR.cost, .int .i64 zeroR.count] 73)) w1.heap.size zeroR := IsR.new (r := zeroR)
    have Z2 := Z1.alloc (.cells #[.string ⟨zeroR.word.toArray⟩, .int .i64 zeroR.cost, .int .i64 zeroR.count] 73)
    have q2 := q1.alloc q1.size (.cells #[.string ⟨zeroR.word.toArray⟩, .int .i64 zeroR.cost, .int .i64 zeroR.count] 73)
    generalize hw2 : w1.alloc (.cells #[.string ⟨zeroR.word.toArray⟩, .int .i64 zeroR.cost, .int .i64 zeroR.count] 73) = w2 at Y1 Z2 q2 ⊢
    obtain ⟨l0, ⟨a0, a1, a2⟩, -⟩ := Y1.all
    obtain ⟨l1, ⟨b0, b1, b2⟩, f0, f1, f2⟩ := Z2.all
    go_wp2
    refine bodyPost_ret (ret_route2 Tryd.results51 rfl rfl (Z2.set3 zeroR)) rfl ⟨rfl, ?_⟩
    exact bSet3 q2 (by omega) _ _ _
  · have H := hide ha
    have HN := hide (show ndB s t u = (findI (wysB s t) u).bind (fun i => (wysB s t)[i]?) from by unfold ndB; rw [ha, if_pos rfl])
    have HLK := hide (fun (rb : Nat) (wx : World) (hm : MapR wx rb (seL (wysB s t)) (wysB s t).length) => lookS_wy (wysB_nodup s t) (wysB_okS ha) hw hm)
    have HIS := hide (show (ndB s t u).isSome = (findI (wysB s t) u).isSome from by
      rw [HN.out]
      cases hf : findI (wysB s t) u with
      | none => rfl
      | some i =>
        obtain ⟨q, hq, _⟩ := findI_some hf
        simp [hq])
    rw [HIS.out]
    rw [← HN.out] at HLK
    obtain ⟨rv, hrv⟩ : ∃ rv, rv = (ndB s t u).elim zeroR rtOf := ⟨_, rfl⟩
    rw [← hrv] at HLK ⊢
    generalize (findI (wysB s t) u).isSome = fd at HLK ⊢
    clear ha hg hrv HIS HN
    obtain ⟨l0, ⟨c0, c1, c2, c3, c4, c5, c6, c7⟩, -⟩ := S0.all
    go_enter Tryd.func51, Tryd.ntmps51
    go_wp2_with fail
    generalize ((w.alloc (.cells #[.int .i64 t.x, .int .i64 t.y, .int .i64 t.d.t, .int .i64 t.d.n, .int .i64 t.d.e, .int .i64 t.d.s, .int .i64 t.d.w, .int .i64 t.d.b] 30)).alloc (.cells #[.int .i64 u.x, .int .i64 u.y, .int .i64 u.d.t, .int .i64 u.d.n, .int .i64 u.d.e, .int .i64 u.d.s, .int .i64 u.d.w, .int .i64 u.d.b] 30)).alloc (.cells #[.string ⟨#[]⟩, .int .i64 0, .int .i64 0] 73) = w0 at S0 T0 Z0 q0 HG l0 c0 c1 c2 c3 c4 c5 c6 c7 ⊢
    refine (routesFrom_yes s t _ hs HG.out H.out).mono ?_
    rintro e w1 ⟨rb, rfl, hrb, hmap, hb1⟩
    have q1 := below_to hb1 q0 q0.size rfl rfl rfl rfl
    have T1 := isS_to hb1 T0 rfl
    have Z1 := isR_to hb1 Z0 rfl
    have HMAP := hide (show MapR w1 rb (seL (wysB s t)) (wysB s t).length from hmap)
    clear hb1 l0 c0 c1 c2 c3 c4 c5 c6 c7 S0 T0 Z0 q0 hmap
    obtain ⟨m0, ⟨d0, d1, d2, d3, d4, d5, d6, d7⟩, -⟩ := T1.all
    have hz1 := Z1.lt
    go_upto_region 3 with (at_lookup; refine wpList_look_S rfl _ _ true rfl rb u (.tuple #[Rt.v rv, .bool fd]) rfl rfl (HLK.out rb _ HMAP.out) ?_)
    have Y1 : IsR (w1.alloc (.cells #[.string ⟨rv.word.toArray⟩, .int .i64 rv.cost, .int .i64 rv.count] 73)) w1.heap.size rv := IsR.new
    have Z2 := Z1.alloc (.cells #[.string ⟨rv.word.toArray⟩, .int .i64 rv.cost, .int .i64 rv.count] 73)
    have q2 := q1.alloc q1.size (.cells #[.string ⟨rv.word.toArray⟩, .int .i64 rv.cost, .int .i64 rv.count] 73)
    generalize hw2 : w1.alloc (.cells #[.string ⟨rv.word.toArray⟩, .int .i64 rv.cost, .int .i64 rv.count] 73) = w2 at Y1 Z2 q2 ⊢
    obtain ⟨l0, ⟨a0, a1, a2⟩, -⟩ := Y1.all
    obtain ⟨l1, ⟨b0, b1, b2⟩, f0, f1, f2⟩ := Z2.all
    go_wp2
    refine bodyPost_ret (ret_route2 Tryd.results51 rfl rfl (Z2.set3 rv)) rfl ⟨rfl, ?_⟩
    exact bSet3 q2 (by omega) _ _ _
end Go.Proofs.YthdkhikkdcjifaaDoor
