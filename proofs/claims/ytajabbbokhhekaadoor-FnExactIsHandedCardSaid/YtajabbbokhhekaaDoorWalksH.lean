/- The walk of the law of IsHanded. -/
import Derived.Test.YtajabbbokhhekaaDoorWalksG
import Derived.Test.YtajabbbokhhekaaDoorWalksB
namespace Go.Proofs.YtajabbbokhhekaaDoor
set_option maxRecDepth 100000
set_option linter.all false
open Go.RowKit Go.Maps

theorem good_mirror (d : D) : goodB (mirrorD d) = goodB d := by
  unfold goodB mirrorD
  exact decide_eq_decide.2 ⟨fun ⟨a, b, c, f, g, h, i, j, k, l, m, n⟩ => ⟨a, b, c, f, k, l, i, j, g, h, m, n⟩, fun ⟨a, b, c, f, g, h, i, j, k, l, m, n⟩ => ⟨a, b, c, f, k, l, i, j, g, h, m, n⟩⟩

set_option maxHeartbeats 800000 in
theorem specHanded_no (d : D) (w : World) (h : goodB d = false) : Calls Tryd.prog 27 #[D.v d] w fun e w' => e = .returned (.tuple #[.bool false, .bool false]) ∧ Below w.heap.size w w' := by
  have H := hide h
  clear h
  go_enter Tryd.func27, Tryd.ntmps27
  go_wp2_with fail
  refine (diGood_any d _).mono ?_
  rintro e w1 ⟨rfl, hb1⟩
  rw [H.out]
  have q1 : Below w.heap.size w w1 := below_after (by go_grown) hb1 (by simp)
  clear hb1
  go_wp2
  go_returns
  exact ⟨rfl, q1⟩

set_option maxHeartbeats 800000 in
theorem specHanded_yes (d : D) (w : World) (h : goodB d = true) : Calls Tryd.prog 27 #[D.v d] w fun e w' => e = .returned (.tuple #[.bool (!known (bfs d) (mirrorD d)), .bool true]) ∧ Below w.heap.size w w' := by
  have H := hide h
  clear h
  go_enter Tryd.func27, Tryd.ntmps27
  go_wp2_with fail
  refine (diGood_any d _).mono ?_
  rintro e w1 ⟨rfl, hb1⟩
  rw [H.out]
  have g1 := isD_to hb1 (IsD.new (w := w) (d := d)) rfl
  have q1 : Below w.heap.size w w1 := below_after (by go_grown) hb1 (by simp)
  clear hb1
  obtain ⟨l1, ⟨c0, c1, c2, c3, c4, c5⟩, -⟩ := g1.all
  generalize hk : known (bfs d) (mirrorD d) = k
  have HK := hide hk
  clear hk
  generalize hwo : wordOf (bfs d) (mirrorD d) = wo
  have HWO := hide hwo
  clear hwo
  go_wp2_with fail
  go_region_held3 (fun w' => w'.cell? ⟨w.heap.size, 0, none⟩ = some (.int .i64 d.t) ∧ w'.cell? ⟨w.heap.size, 1, none⟩ = some (.int .i64 d.n) ∧ w'.cell? ⟨w.heap.size, 2, none⟩ = some (.int .i64 d.e) ∧ w'.cell? ⟨w.heap.size, 3, none⟩ = some (.int .i64 d.s) ∧ w'.cell? ⟨w.heap.size, 4, none⟩ = some (.int .i64 d.w) ∧ w'.cell? ⟨w.heap.size, 5, none⟩ = some (.int .i64 d.b)) (first | (refine ⟨?_, ?_, ?_, ?_, ?_, ?_⟩ <;> assumption))
    (first
      | (go_at_call 43; (with_reducible refine (diMirror_any d _).mono ?_); rintro e w2 ⟨rfl, hb2⟩; have g2 := isD_to hb2 g1 rfl; have q2 := below_to hb2 q1 q1.size rfl rfl rfl rfl; obtain ⟨l2, ⟨d0, d1, d2, d3, d4, d5⟩, -⟩ := g2.all; clear hb2)
      | (go_at_call 30; refine (diWordTo_any d (mirrorD d) _).mono ?_; rintro e w3 ⟨rfl, hb3⟩; have g3 := isD_to hb3 g2 rfl; have q3 := below_to hb3 q2 q2.size rfl rfl rfl rfl; obtain ⟨l3, ⟨e0, e1, e2, e3, e4, e5⟩, -⟩ := g3.all; rw [HK.out, HWO.out]; clear hb3))
  clear c0 c1 c2 c3 c4 c5 d0 d1 d2 d3 d4 d5 l1 l2
  go_wp2
  go_returns
  exact ⟨by first | rfl | (rw [HK.out]; rfl), q3⟩

set_option maxHeartbeats 800000 in
theorem implHanded_no (d : D) (w : World) (h : goodB d = false) : Calls Tryd.prog 28 #[D.v d] w fun e w' => e = .returned (.tuple #[.bool false, .bool false]) ∧ Below w.heap.size w w' := by
  have H := hide h
  clear h
  go_enter Tryd.func28, Tryd.ntmps28
  go_wp2_with fail
  refine (implMirror_any d _).mono ?_
  rintro e w1 ⟨rfl, hb1⟩
  rw [H.out]
  have q1 : Below w.heap.size w w1 := below_after (by go_grown) hb1 (by simp)
  clear hb1
  have q2 := q1.alloc q1.size (.cells #[.int .i64 (mirS d).t, .int .i64 (mirS d).n, .int .i64 (mirS d).e, .int .i64 (mirS d).s, .int .i64 (mirS d).w, .int .i64 (mirS d).b] 30)
  go_wp2
  go_returns
  exact ⟨rfl, q2⟩

set_option maxHeartbeats 800000 in
theorem implHanded_yes (d : D) (w : World) (h : goodB d = true) : Calls Tryd.prog 28 #[D.v d] w fun e w' => e = .returned (.tuple #[.bool (!known (bfs d) (mirrorD d)), .bool true]) ∧ Below w.heap.size w w' := by
  have hgx := (good_mirror d).trans h
  have hms : mirS d = mirrorD d := by simp [mirS, h]
  generalize hx : mirrorD d = x at hgx hms ⊢
  clear hx
  have HG := hide hgx
  have H := hide h
  clear h hgx
  have HB := hide (bfs_good d)
  generalize hk : known (bfs d) x = k
  have HK := hide hk
  clear hk
  generalize hwo : wordOf (bfs d) x = wo
  have HWO := hide hwo
  clear hwo
  go_enter Tryd.func28, Tryd.ntmps28
  go_wp2_with fail
  refine (implMirror_any d _).mono ?_
  rintro e w1 ⟨rfl, hb1⟩
  rw [H.out, hms]
  clear hms
  have g1 := isD_to hb1 (IsD.new (w := w) (d := d)) rfl
  have q1 : Below w.heap.size w w1 := below_after (by go_grown) hb1 (by simp)
  clear hb1
  go_wp2_with fail
  have g2 : IsD (w1.alloc (.cells #[.int .i64 x.t, .int .i64 x.n, .int .i64 x.e, .int .i64 x.s, .int .i64 x.w, .int .i64 x.b] 30)) w1.heap.size x 30 := IsD.new (d := x)
  have g1 := g1.alloc (.cells #[.int .i64 x.t, .int .i64 x.n, .int .i64 x.e, .int .i64 x.s, .int .i64 x.w, .int .i64 x.b] 30)
  have q1 := q1.alloc q1.size (.cells #[.int .i64 x.t, .int .i64 x.n, .int .i64 x.e, .int .i64 x.s, .int .i64 x.w, .int .i64 x.b] 30)
  generalize hB : w1.heap.size = B at g2 ⊢
  generalize w1.alloc (.cells #[.int .i64 x.t, .int .i64 x.n, .int .i64 x.e, .int .i64 x.s, .int .i64 x.w, .int .i64 x.b] 30) = W at g1 g2 q1 ⊢
  clear hB
  obtain ⟨l1, ⟨c0, c1, c2, c3, c4, c5⟩, -⟩ := g1.all
  obtain ⟨l2, ⟨d0, d1, d2, d3, d4, d5⟩, -⟩ := g2.all
  go_region_held3 (fun w' => w'.cell? ⟨w.heap.size, 0, none⟩ = some (.int .i64 d.t) ∧ w'.cell? ⟨w.heap.size, 1, none⟩ = some (.int .i64 d.n) ∧ w'.cell? ⟨w.heap.size, 2, none⟩ = some (.int .i64 d.e) ∧ w'.cell? ⟨w.heap.size, 3, none⟩ = some (.int .i64 d.s) ∧ w'.cell? ⟨w.heap.size, 4, none⟩ = some (.int .i64 d.w) ∧ w'.cell? ⟨w.heap.size, 5, none⟩ = some (.int .i64 d.b) ∧ w'.cell? ⟨B, 0, none⟩ = some (.int .i64 x.t) ∧ w'.cell? ⟨B, 1, none⟩ = some (.int .i64 x.n) ∧ w'.cell? ⟨B, 2, none⟩ = some (.int .i64 x.e) ∧ w'.cell? ⟨B, 3, none⟩ = some (.int .i64 x.s) ∧ w'.cell? ⟨B, 4, none⟩ = some (.int .i64 x.w) ∧ w'.cell? ⟨B, 5, none⟩ = some (.int .i64 x.b)) (go_keep)
    (first | (go_at_call 35; refine (firstWords_any d _ H.out).mono ?_; rintro e w3 ⟨mb, rfl, hmb, hm, hb3⟩; have hlk := look_exact H.out HB.out HG.out (b := mb) hm; rw [HK.out, HWO.out] at hlk; have j1 := isD_to hb3 g1 rfl; have j2 := isD_to hb3 g2 rfl; have q3 := below_to hb3 q1 q1.size rfl rfl rfl rfl; obtain ⟨l4, ⟨f0, f1, f2, f3, f4, f5⟩, -⟩ := j1.all; obtain ⟨l5, ⟨k0, k1, k2, k3, k4, k5⟩, -⟩ := j2.all; clear hm hb3))
  go_wp2
  go_returns
  exact ⟨rfl, q3⟩

theorem specHanded_any (d : D) (w : World) : Calls Tryd.prog 27 #[D.v d] w fun e w' => e = .returned (.tuple #[.bool (goodB d && !known (bfs d) (mirrorD d)), .bool (goodB d)]) ∧ Below w.heap.size w w' := by
  cases h : goodB d
  · simpa using specHanded_no d w h
  · simpa using specHanded_yes d w h
theorem implHanded_any (d : D) (w : World) : Calls Tryd.prog 28 #[D.v d] w fun e w' => e = .returned (.tuple #[.bool (goodB d && !known (bfs d) (mirrorD d)), .bool (goodB d)]) ∧ Below w.heap.size w w' := by
  cases h : goodB d
  · simpa using implHanded_no d w h
  · simpa using implHanded_yes d w h

set_option maxHeartbeats 800000 in
theorem walk_IsHanded (d : D) (w : World) (_ : Glob w) : Calls Tryd.prog 9 #[D.v d] w fun e w' => e = .returned (.bool true) ∧ Below w.heap.size w w' := by
  generalize hx : (goodB d && !known (bfs d) (mirrorD d)) = x
  generalize hg : goodB d = g
  have HX := hide hx
  have HG := hide hg
  clear hx hg
  go_enter Tryd.func9, Tryd.ntmps9
  go_wp2_with fail
  refine (toDie_any d _).mono ?_
  rintro e w1 ⟨rfl, hb1⟩
  have g1 := isD_to hb1 (IsD.new (w := w) (d := d)) rfl
  have q1 : Below w.heap.size w w1 := below_after (by go_grown) hb1 (by simp)
  clear hb1
  go_wp2_with fail
  refine (specHanded_any d _).mono ?_
  rintro e w2 ⟨rfl, hb2⟩
  rw [HX.out, HG.out]
  have g2 := isD_to hb2 g1 rfl
  have q2 := below_to hb2 q1 q1.size rfl rfl rfl rfl
  clear hb2 q1 g1
  obtain ⟨l1, ⟨c0, c1, c2, c3, c4, c5⟩, -⟩ := g2.all
  go_wp2_with fail
  clear c0 c1 c2 c3 c4 c5
  refine (toDie_any d _).mono ?_
  rintro e w3 ⟨rfl, hb3⟩
  have q3 := below_to hb3 q2 q2.size rfl rfl rfl rfl
  clear hb3 q2 g2 l1
  go_wp2_with fail
  refine (implHanded_any d _).mono ?_
  rintro e w4 ⟨rfl, hb4⟩
  have q4 := below_to hb4 q3 q3.size rfl rfl rfl rfl
  rw [HX.out, HG.out]
  have e1 : (x != x) = false := by simp
  have e2 : (g != g) = false := by simp
  go_wp2
  go_returns
  exact ⟨rfl, q4⟩
end Go.Proofs.YtajabbbokhhekaaDoor
