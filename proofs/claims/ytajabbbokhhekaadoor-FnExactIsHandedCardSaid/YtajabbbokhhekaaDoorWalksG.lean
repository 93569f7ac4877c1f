/- The walks of the laws of IsTurned and RollsBetween. -/
import Derived.Test.YtajabbbokhhekaaDoorSwD
import Derived.Test.YtajabbbokhhekaaDoorRowsOf
import Derived.Test.YtajabbbokhhekaaDoorGood
namespace Go.Proofs.YtajabbbokhhekaaDoor
set_option maxRecDepth 100000
set_option linter.all false
open Go.RowKit Go.Maps

theorem ret_bb {a b c d : Bool} (h : a = c) (h2 : b = d) : Ending.returned (.tuple #[.bool a, .bool b]) = .returned (.tuple #[.bool c, .bool d]) := by rw [h, h2]

set_option maxHeartbeats 800000 in
theorem specIsTurned_no1 (d x : D) (w : World) (h : goodB d = false) : Calls Tryd.prog 20 #[D.v d, D.v x] w fun e w' => e = .returned (.tuple #[.bool false, .bool false]) ∧ Below w.heap.size w w' := by
  have H := hide h
  clear h
  go_enter Tryd.func20, Tryd.ntmps20
  go_wp2_with fail
  refine (diGood_any d _).mono ?_
  rintro e w1 ⟨rfl, hb1⟩
  rw [H.out]
  have g1 := ((IsD.new (d := d)).alloc _).below rfl hb1
  have g2 := (IsD.new2 (d := x)).below rfl hb1
  have q1 : Below w.heap.size w w1 := below_after (by go_grown) hb1 (by simp; omega)
  clear hb1
  go_wp2
  go_returns
  exact ⟨rfl, q1⟩

set_option maxHeartbeats 800000 in
theorem specIsTurned_no2 (d x : D) (w : World) (h : goodB d = true) (hx : goodB x = false) : Calls Tryd.prog 20 #[D.v d, D.v x] w fun e w' => e = .returned (.tuple #[.bool false, .bool false]) ∧ Below w.heap.size w w' := by
  have H := hide h
  have HX := hide hx
  clear h hx
  go_enter Tryd.func20, Tryd.ntmps20
  go_wp2_with fail
  refine (diGood_any d _).mono ?_
  rintro e w1 ⟨rfl, hb1⟩
  rw [H.out]
  have g1 := ((IsD.new (d := d)).alloc _).below rfl hb1
  have g2 := (IsD.new2 (d := x)).below rfl hb1
  have q1 : Below w.heap.size w w1 := below_after (by go_grown) hb1 (by simp; omega)
  clear hb1
  obtain ⟨l2, ⟨d0, d1, d2, d3, d4, d5⟩, -⟩ := g2.all
  go_wp2_with fail
  clear d0 d1 d2 d3 d4 d5
  refine (diGood_any x _).mono ?_
  rintro e w2 ⟨rfl, hb2⟩
  rw [HX.out]
  have i1 := isD_to hb2 g1 rfl
  have i2 := isD_to hb2 g2 rfl
  have q2 := below_to hb2 q1 q1.size rfl rfl rfl rfl
  clear hb2 g1 g2 q1 l2
  go_wp2
  go_returns
  exact ⟨rfl, q2⟩

set_option maxHeartbeats 800000 in
theorem specIsTurned_yes (d x : D) (w : World) (h : goodB d = true) (hx : goodB x = true) : Calls Tryd.prog 20 #[D.v d, D.v x] w fun e w' => e = .returned (.tuple #[.bool (known (bfs d) x), .bool true]) ∧ Below w.heap.size w w' := by
  have H := hide h
  have HX := hide hx
  clear h hx
  go_enter Tryd.func20, Tryd.ntmps20
  go_wp2_with fail
  refine (diGood_any d _).mono ?_
  rintro e w1 ⟨rfl, hb1⟩
  rw [H.out]
  have g1 := ((IsD.new (d := d)).alloc _).below rfl hb1
  have g2 := (IsD.new2 (d := x)).below rfl hb1
  have q1 : Below w.heap.size w w1 := below_after (by go_grown) hb1 (by simp; omega)
  clear hb1
  obtain ⟨l2, ⟨d0, d1, d2, d3, d4, d5⟩, -⟩ := g2.all
  go_wp2_with fail
  clear d0 d1 d2 d3 d4 d5
  refine (diGood_any x _).mono ?_
  rintro e w2 ⟨rfl, hb2⟩
  rw [HX.out]
  have i1 := isD_to hb2 g1 rfl
  have i2 := isD_to hb2 g2 rfl
  have q2 := below_to hb2 q1 q1.size rfl rfl rfl rfl
  clear hb2 g1 g2 q1 l2
  obtain ⟨l1, ⟨c0, c1, c2, c3, c4, c5⟩, -⟩ := i1.all
  obtain ⟨l3, ⟨e0, e1, e2, e3, e4, e5⟩, -⟩ := i2.all
  go_wp2_with fail
  clear c0 c1 c2 c3 c4 c5 e0 e1 e2 e3 e4 e5 l1 l3
  refine (diWordTo_any d x _).mono ?_
  rintro e w3 ⟨rfl, hb3⟩
  have q3 := below_to hb3 q2 q2.size rfl rfl rfl rfl
  clear hb3 q2 i1 i2
  generalize hk : known (bfs d) x = k
  have HK := hide hk
  clear hk
  generalize hwo : wordOf (bfs d) x = wo
  have HWO := hide hwo
  clear hwo
  go_wp2
  go_returns
  exact ⟨ret_bb HK.out.symm rfl, q3⟩

set_option maxHeartbeats 800000 in
theorem implIsTurned_no1 (d x : D) (w : World) (h : goodB d = false) : Calls Tryd.prog 21 #[D.v d, D.v x] w fun e w' => e = .returned (.tuple #[.bool false, .bool false]) ∧ Below w.heap.size w w' := by
  have H := hide h
  clear h
  go_enter Tryd.func21, Tryd.ntmps21
  go_wp2_with fail
  refine (isDie_any d _).mono ?_
  rintro e w1 ⟨rfl, hb1⟩
  rw [H.out]
  have g1 := ((IsD.new (d := d)).alloc _).below rfl hb1
  have g2 := (IsD.new2 (d := x)).below rfl hb1
  have q1 : Below w.heap.size w w1 := below_after (by go_grown) hb1 (by simp; omega)
  clear hb1
  go_wp2
  go_returns
  exact ⟨rfl, q1⟩

set_option maxHeartbeats 800000 in
theorem implIsTurned_no2 (d x : D) (w : World) (h : goodB d = true) (hx : goodB x = false) : Calls Tryd.prog 21 #[D.v d, D.v x] w fun e w' => e = .returned (.tuple #[.bool false, .bool false]) ∧ Below w.heap.size w w' := by
  have H := hide h
  have HX := hide hx
  clear h hx
  go_enter Tryd.func21, Tryd.ntmps21
  go_wp2_with fail
  refine (isDie_any d _).mono ?_
  rintro e w1 ⟨rfl, hb1⟩
  rw [H.out]
  have g1 := ((IsD.new (d := d)).alloc _).below rfl hb1
  have g2 := (IsD.new2 (d := x)).below rfl hb1
  have q1 : Below w.heap.size w w1 := below_after (by go_grown) hb1 (by simp; omega)
  clear hb1
  obtain ⟨l2, ⟨d0, d1, d2, d3, d4, d5⟩, -⟩ := g2.all
  go_wp2_with fail
  clear d0 d1 d2 d3 d4 d5
  refine (isDie_any x _).mono ?_
  rintro e w2 ⟨rfl, hb2⟩
  rw [HX.out]
  have i1 := isD_to hb2 g1 rfl
  have i2 := isD_to hb2 g2 rfl
  have q2 := below_to hb2 q1 q1.size rfl rfl rfl rfl
  clear hb2 g1 g2 q1 l2
  go_wp2
  go_returns
  exact ⟨rfl, q2⟩

set_option maxHeartbeats 800000 in
theorem implIsTurned_yes (d x : D) (w : World) (h : goodB d = true) (hx : goodB x = true) : Calls Tryd.prog 21 #[D.v d, D.v x] w fun e w' => e = .returned (.tuple #[.bool (known (bfs d) x), .bool true]) ∧ Below w.heap.size w w' := by
  have H := hide h
  have HX := hide hx
  clear h hx
  go_enter Tryd.func21, Tryd.ntmps21
  go_wp2_with fail
  refine (isDie_any d _).mono ?_
  rintro e w1 ⟨rfl, hb1⟩
  rw [H.out]
  have g1 := ((IsD.new (d := d)).alloc _).below rfl hb1
  have g2 := (IsD.new2 (d := x)).below rfl hb1
  have q1 : Below w.heap.size w w1 := below_after (by go_grown) hb1 (by simp; omega)
  clear hb1
  obtain ⟨l2, ⟨d0, d1, d2, d3, d4, d5⟩, -⟩ := g2.all
  go_wp2_with fail
  clear d0 d1 d2 d3 d4 d5
  refine (isDie_any x _).mono ?_
  rintro e w2 ⟨rfl, hb2⟩
  rw [HX.out]
  have i1 := isD_to hb2 g1 rfl
  have i2 := isD_to hb2 g2 rfl
  have q2 := below_to hb2 q1 q1.size rfl rfl rfl rfl
  clear hb2 g1 g2 q1 l2
  obtain ⟨l1, ⟨c0, c1, c2, c3, c4, c5⟩, -⟩ := i1.all
  obtain ⟨l3, ⟨e0, e1, e2, e3, e4, e5⟩, -⟩ := i2.all
  have hG := hide (bfs_good d)
  generalize hk : known (bfs d) x = k
  have HK := hide hk
  clear hk
  generalize hwo : wordOf (bfs d) x = wo
  have HWO := hide hwo
  clear hwo
  go_wp2_with fail
  go_region_held3 (fun w' => w'.cell? ⟨w.heap.size, 0, none⟩ = some (.int .i64 d.t) ∧ w'.cell? ⟨w.heap.size, 1, none⟩ = some (.int .i64 d.n) ∧ w'.cell? ⟨w.heap.size, 2, none⟩ = some (.int .i64 d.e) ∧ w'.cell? ⟨w.heap.size, 3, none⟩ = some (.int .i64 d.s) ∧ w'.cell? ⟨w.heap.size, 4, none⟩ = some (.int .i64 d.w) ∧ w'.cell? ⟨w.heap.size, 5, none⟩ = some (.int .i64 d.b) ∧ w'.cell? ⟨w.heap.size + 1, 0, none⟩ = some (.int .i64 x.t) ∧ w'.cell? ⟨w.heap.size + 1, 1, none⟩ = some (.int .i64 x.n) ∧ w'.cell? ⟨w.heap.size + 1, 2, none⟩ = some (.int .i64 x.e) ∧ w'.cell? ⟨w.heap.size + 1, 3, none⟩ = some (.int .i64 x.s) ∧ w'.cell? ⟨w.heap.size + 1, 4, none⟩ = some (.int .i64 x.w) ∧ w'.cell? ⟨w.heap.size + 1, 5, none⟩ = some (.int .i64 x.b)) (go_keep)
    (first | (go_at_call 35; refine (firstWords_any d _ H.out).mono ?_; rintro e w3 ⟨mb, rfl, hmb, hm, hb3⟩; have hlk := look_exact H.out hG.out HX.out (b := mb) hm; rw [HK.out, HWO.out] at hlk; have j1 := isD_to hb3 i1 rfl; have j2 := isD_to hb3 i2 rfl; have q3 := below_to hb3 q2 q2.size rfl rfl rfl rfl; obtain ⟨l4, ⟨f0, f1, f2, f3, f4, f5⟩, -⟩ := j1.all; obtain ⟨l5, ⟨k0, k1, k2, k3, k4, k5⟩, -⟩ := j2.all; clear hm hb3))
  go_wp2
  go_returns
  exact ⟨ret_bb HK.out.symm rfl, q3⟩

/-- What both say. -/
def itS (d x : D) : Bool := if goodB d = true ∧ goodB x = true then known (bfs d) x else false
def itF (d x : D) : Bool := goodB d && goodB x
theorem specIsTurned_any (d x : D) (w : World) : Calls Tryd.prog 20 #[D.v d, D.v x] w fun e w' => e = .returned (.tuple #[.bool (itS d x), .bool (itF d x)]) ∧ Below w.heap.size w w' := by
  cases h : goodB d
  · simpa [itS, itF, h] using specIsTurned_no1 d x w h
  · cases h2 : goodB x
    · simpa [itS, itF, h, h2] using specIsTurned_no2 d x w h h2
    · simpa [itS, itF, h, h2] using specIsTurned_yes d x w h h2
theorem implIsTurned_any (d x : D) (w : World) : Calls Tryd.prog 21 #[D.v d, D.v x] w fun e w' => e = .returned (.tuple #[.bool (itS d x), .bool (itF d x)]) ∧ Below w.heap.size w w' := by
  cases h : goodB d
  · simpa [itS, itF, h] using implIsTurned_no1 d x w h
  · cases h2 : goodB x
    · simpa [itS, itF, h, h2] using implIsTurned_no2 d x w h h2
    · simpa [itS, itF, h, h2] using implIsTurned_yes d x w h h2

set_option maxHeartbeats 2000000 in
theorem walk_IsTurned (d x : D) (w : World) (_ : Glob w) : Calls Tryd.prog 6 #[D.v d, D.v x] w fun e w' => e = .returned (.bool true) ∧ Below w.heap.size w w' := by
  generalize hy : itS d x = y
  generalize hg : itF d x = g
  have HY := hide hy
  have HG := hide hg
  clear hy hg
  have hs : (y != y) = false := by simp
  have hf : (g != g) = false := by simp
  go_enter Tryd.func6, Tryd.ntmps6
  go_wp2_with fail
  go_region_held3 (fun w' => w'.cell? ⟨w.heap.size, 0, none⟩ = some (.int .i64 d.t) ∧ w'.cell? ⟨w.heap.size, 1, none⟩ = some (.int .i64 d.n) ∧ w'.cell? ⟨w.heap.size, 2, none⟩ = some (.int .i64 d.e) ∧ w'.cell? ⟨w.heap.size, 3, none⟩ = some (.int .i64 d.s) ∧ w'.cell? ⟨w.heap.size, 4, none⟩ = some (.int .i64 d.w) ∧ w'.cell? ⟨w.heap.size, 5, none⟩ = some (.int .i64 d.b) ∧ w'.cell? ⟨w.heap.size + 1, 0, none⟩ = some (.int .i64 x.t) ∧ w'.cell? ⟨w.heap.size + 1, 1, none⟩ = some (.int .i64 x.n) ∧ w'.cell? ⟨w.heap.size + 1, 2, none⟩ = some (.int .i64 x.e) ∧ w'.cell? ⟨w.heap.size + 1, 3, none⟩ = some (.int .i64 x.s) ∧ w'.cell? ⟨w.heap.size + 1, 4, none⟩ = some (.int .i64 x.w) ∧ w'.cell? ⟨w.heap.size + 1, 5, none⟩ = some (.int .i64 x.b)) (first | (refine ⟨?_, ?_, ?_, ?_, ?_, ?_, ?_, ?_, ?_, ?_, ?_, ?_⟩ <;> assumption) | (simp [go_sem, World.cell?_alloc_past]))
    (first
      | (go_at_call 13; (with_reducible refine (toDie_any d _).mono ?_); rintro e w1 ⟨rfl, hb1⟩; have Ic1 := isD_to hb1 ((IsD.new (w := w) (d := d)).alloc _) rfl; have Ie1 := isD_to hb1 (IsD.new2 (w := w) (d := x)) rfl; have Q1 : Below w.heap.size w w1 := below_after (by go_grown) hb1 (by simp; omega); obtain ⟨lc1, ⟨c01, c11, c21, c31, c41, c51⟩, -⟩ := Ic1.all; obtain ⟨le1, ⟨e01, e11, e21, e31, e41, e51⟩, -⟩ := Ie1.all; clear hb1)
      | (go_at_call 13; (with_reducible refine (toDie_any x _).mono ?_); rintro e w2 ⟨rfl, hb2⟩; have Ic2 := isD_to hb2 Ic1 rfl; have Ie2 := isD_to hb2 Ie1 rfl; have Q2 := below_to hb2 Q1 Q1.size rfl rfl rfl rfl; obtain ⟨lc2, ⟨c02, c12, c22, c32, c42, c52⟩, -⟩ := Ic2.all; obtain ⟨le2, ⟨e02, e12, e22, e32, e42, e52⟩, -⟩ := Ie2.all; clear hb2)
      | (go_at_call 20; (refine (specIsTurned_any d x _).mono ?_); rintro e w3 ⟨rfl, hb3⟩; have Ic3 := isD_to hb3 Ic2 rfl; have Ie3 := isD_to hb3 Ie2 rfl; have Q3 := below_to hb3 Q2 Q2.size rfl rfl rfl rfl; obtain ⟨lc3, ⟨c03, c13, c23, c33, c43, c53⟩, -⟩ := Ic3.all; obtain ⟨le3, ⟨e03, e13, e23, e33, e43, e53⟩, -⟩ := Ie3.all; clear hb3))
  rw [HY.out, HG.out]
  clear c01 c11 c21 c31 c41 c51 e01 e11 e21 e31 e41 e51 c02 c12 c22 c32 c42 c52 e02 e12 e22 e32 e42 e52 lc1 le1 lc2 le2
  go_wp2_with fail
  go_region_held3 (fun w' => w'.cell? ⟨w.heap.size, 0, none⟩ = some (.int .i64 d.t) ∧ w'.cell? ⟨w.heap.size, 1, none⟩ = some (.int .i64 d.n) ∧ w'.cell? ⟨w.heap.size, 2, none⟩ = some (.int .i64 d.e) ∧ w'.cell? ⟨w.heap.size, 3, none⟩ = some (.int .i64 d.s) ∧ w'.cell? ⟨w.heap.size, 4, none⟩ = some (.int .i64 d.w) ∧ w'.cell? ⟨w.heap.size, 5, none⟩ = some (.int .i64 d.b) ∧ w'.cell? ⟨w.heap.size + 1, 0, none⟩ = some (.int .i64 x.t) ∧ w'.cell? ⟨w.heap.size + 1, 1, none⟩ = some (.int .i64 x.n) ∧ w'.cell? ⟨w.heap.size + 1, 2, none⟩ = some (.int .i64 x.e) ∧ w'.cell? ⟨w.heap.size + 1, 3, none⟩ = some (.int .i64 x.s) ∧ w'.cell? ⟨w.heap.size + 1, 4, none⟩ = some (.int .i64 x.w) ∧ w'.cell? ⟨w.heap.size + 1, 5, none⟩ = some (.int .i64 x.b)) (first | (refine ⟨?_, ?_, ?_, ?_, ?_, ?_, ?_, ?_, ?_, ?_, ?_, ?_⟩ <;> assumption) | (simp [go_sem, World.cell?_alloc_past]))
    (first
      | (go_at_call 13; (with_reducible refine (toDie_any d _).mono ?_); rintro e w4 ⟨rfl, hb4⟩; have Ic4 := isD_to hb4 Ic3 rfl; have Ie4 := isD_to hb4 Ie3 rfl; have Q4 := below_to hb4 Q3 Q3.size rfl rfl rfl rfl; obtain ⟨lc4, ⟨c04, c14, c24, c34, c44, c54⟩, -⟩ := Ic4.all; obtain ⟨le4, ⟨e04, e14, e24, e34, e44, e54⟩, -⟩ := Ie4.all; clear hb4)
      | (go_at_call 13; (with_reducible refine (toDie_any x _).mono ?_); rintro e w5 ⟨rfl, hb5⟩; have Ic5 := isD_to hb5 Ic4 rfl; have Ie5 := isD_to hb5 Ie4 rfl; have Q5 := below_to hb5 Q4 Q4.size rfl rfl rfl rfl; obtain ⟨lc5, ⟨c05, c15, c25, c35, c45, c55⟩, -⟩ := Ic5.all; obtain ⟨le5, ⟨e05, e15, e25, e35, e45, e55⟩, -⟩ := Ie5.all; clear hb5)
      | (go_at_call 21; (refine (implIsTurned_any d x _).mono ?_); rintro e w6 ⟨rfl, hb6⟩; have Ic6 := isD_to hb6 Ic5 rfl; have Ie6 := isD_to hb6 Ie5 rfl; have Q6 := below_to hb6 Q5 Q5.size rfl rfl rfl rfl; obtain ⟨lc6, ⟨c06, c16, c26, c36, c46, c56⟩, -⟩ := Ic6.all; obtain ⟨le6, ⟨e06, e16, e26, e36, e46, e56⟩, -⟩ := Ie6.all; clear hb6))
  rw [HY.out, HG.out]
  clear c03 c13 c23 c33 c43 c53 e03 e13 e23 e33 e43 e53 c04 c14 c24 c34 c44 c54 e04 e14 e24 e34 e44 e54 lc3 le3 lc4 le4
  go_wp2
  go_returns
  exact ⟨rfl, Q6⟩

set_option maxHeartbeats 800000 in
theorem specRollsBetween_no1 (d x : D) (w : World) (h : goodB d = false) : Calls Tryd.prog 22 #[D.v d, D.v x] w fun e w' => e = .returned (.tuple #[.string ⟨#[]⟩, .bool false]) ∧ Below w.heap.size w w' := by
  have H := hide h
  clear h
  go_enter Tryd.func22, Tryd.ntmps22
  go_wp2_with fail
  refine (diGood_any d _).mono ?_
  rintro e w1 ⟨rfl, hb1⟩
  rw [H.out]
  have g1 := ((IsD.new (d := d)).alloc _).below rfl hb1
  have g2 := (IsD.new2 (d := x)).below rfl hb1
  have q1 : Below w.heap.size w w1 := below_after (by go_grown) hb1 (by simp; omega)
  clear hb1
  go_wp2
  go_returns
  exact ⟨rfl, q1⟩

set_option maxHeartbeats 800000 in
theorem specRollsBetween_no2 (d x : D) (w : World) (h : goodB d = true) (hx : goodB x = false) : Calls Tryd.prog 22 #[D.v d, D.v x] w fun e w' => e = .returned (.tuple #[.string ⟨#[]⟩, .bool false]) ∧ Below w.heap.size w w' := by
  have H := hide h
  have HX := hide hx
  clear h hx
  go_enter Tryd.func22, Tryd.ntmps22
  go_wp2_with fail
  refine (diGood_any d _).mono ?_
  rintro e w1 ⟨rfl, hb1⟩
  rw [H.out]
  have g1 := ((IsD.new (d := d)).alloc _).below rfl hb1
  have g2 := (IsD.new2 (d := x)).below rfl hb1
  have q1 : Below w.heap.size w w1 := below_after (by go_grown) hb1 (by simp; omega)
  clear hb1
  obtain ⟨l2, ⟨d0, d1, d2, d3, d4, d5⟩, -⟩ := g2.all
  go_wp2_with fail
  clear d0 d1 d2 d3 d4 d5
  refine (diGood_any x _).mono ?_
  rintro e w2 ⟨rfl, hb2⟩
  rw [HX.out]
  have i1 := isD_to hb2 g1 rfl
  have i2 := isD_to hb2 g2 rfl
  have q2 := below_to hb2 q1 q1.size rfl rfl rfl rfl
  clear hb2 g1 g2 q1 l2
  go_wp2
  go_returns
  exact ⟨rfl, q2⟩

set_option maxHeartbeats 800000 in
theorem specRollsBetween_yes (d x : D) (w : World) (h : goodB d = true) (hx : goodB x = true) : Calls Tryd.prog 22 #[D.v d, D.v x] w fun e w' => e = .returned (.tuple #[.string (wordOf (bfs d) x), .bool (known (bfs d) x)]) ∧ Below w.heap.size w w' := by
  have H := hide h
  have HX := hide hx
  clear h hx
  go_enter Tryd.func22, Tryd.ntmps22
  go_wp2_with fail
  refine (diGood_any d _).mono ?_
  rintro e w1 ⟨rfl, hb1⟩
  rw [H.out]
  have g1 := ((IsD.new (d := d)).alloc _).below rfl hb1
  have g2 := (IsD.new2 (d := x)).below rfl hb1
  have q1 : Below w.heap.size w w1 := below_after (by go_grown) hb1 (by simp; omega)
  clear hb1
  obtain ⟨l2, ⟨d0, d1, d2, d3, d4, d5⟩, -⟩ := g2.all
  go_wp2_with fail
  clear d0 d1 d2 d3 d4 d5
  refine (diGood_any x _).mono ?_
  rintro e w2 ⟨rfl, hb2⟩
  rw [HX.out]
  have i1 := isD_to hb2 g1 rfl
  have i2 := isD_to hb2 g2 rfl
  have q2 := below_to hb2 q1 q1.size rfl rfl rfl rfl
  clear hb2 g1 g2 q1 l2
  obtain ⟨l1, ⟨c0, c1, c2, c3, c4, c5⟩, -⟩ := i1.all
  obtain ⟨l3, ⟨e0, e1, e2, e3, e4, e5⟩, -⟩ := i2.all
  go_wp2_with fail
  clear c0 c1 c2 c3 c4 c5 e0 e1 e2 e3 e4 e5 l1 l3
  refine (diWordTo_any d x _).mono ?_
  rintro e w3 ⟨rfl, hb3⟩
  have q3 := below_to hb3 q2 q2.size rfl rfl rfl rfl
  clear hb3 q2 i1 i2
  generalize hk : known (bfs d) x = k
  have HK := hide hk
  clear hk
  generalize hwo : wordOf (bfs d) x = wo
  have HWO := hide hwo
  clear hwo
  go_wp2
  go_returns
  exact ⟨ret_sb HWO.out.symm HK.out.symm, q3⟩

set_option maxHeartbeats 800000 in
theorem implRollsBetween_no1 (d x : D) (w : World) (h : goodB d = false) : Calls Tryd.prog 23 #[D.v d, D.v x] w fun e w' => e = .returned (.tuple #[.string ⟨#[]⟩, .bool false]) ∧ Below w.heap.size w w' := by
  have H := hide h
  clear h
  go_enter Tryd.func23, Tryd.ntmps23
  go_wp2_with fail
  refine (isDie_any d _).mono ?_
  rintro e w1 ⟨rfl, hb1⟩
  rw [H.out]
  have g1 := ((IsD.new (d := d)).alloc _).below rfl hb1
  have g2 := (IsD.new2 (d := x)).below rfl hb1
  have q1 : Below w.heap.size w w1 := below_after (by go_grown) hb1 (by simp; omega)
  clear hb1
  go_wp2
  go_returns
  exact ⟨rfl, q1⟩

set_option maxHeartbeats 800000 in
theorem implRollsBetween_no2 (d x : D) (w : World) (h : goodB d = true) (hx : goodB x = false) : Calls Tryd.prog 23 #[D.v d, D.v x] w fun e w' => e = .returned (.tuple #[.string ⟨#[]⟩, .bool false]) ∧ Below w.heap.size w w' := by
  have H := hide h
  have HX := hide hx
  clear h hx
  go_enter Tryd.func23, Tryd.ntmps23
  go_wp2_with fail
  refine (isDie_any d _).mono ?_
  rintro e w1 ⟨rfl, hb1⟩
  rw [H.out]
  have g1 := ((IsD.new (d := d)).alloc _).below rfl hb1
  have g2 := (IsD.new2 (d := x)).below rfl hb1
  have q1 : Below w.heap.size w w1 := below_after (by go_grown) hb1 (by simp; omega)
  clear hb1
  obtain ⟨l2, ⟨d0, d1, d2, d3, d4, d5⟩, -⟩ := g2.all
  go_wp2_with fail
  clear d0 d1 d2 d3 d4 d5
  refine (isDie_any x _).mono ?_
  rintro e w2 ⟨rfl, hb2⟩
  rw [HX.out]
  have i1 := isD_to hb2 g1 rfl
  have i2 := isD_to hb2 g2 rfl
  have q2 := below_to hb2 q1 q1.size rfl rfl rfl rfl
  clear hb2 g1 g2 q1 l2
  go_wp2
  go_returns
  exact ⟨rfl, q2⟩

set_option maxHeartbeats 800000 in
theorem implRollsBetween_yes (d x : D) (w : World) (h : goodB d = true) (hx : goodB x = true) : Calls Tryd.prog 23 #[D.v d, D.v x] w fun e w' => e = .returned (.tuple #[.string (wordOf (bfs d) x), .bool (known (bfs d) x)]) ∧ Below w.heap.size w w' := by
  have H := hide h
  have HX := hide hx
  clear h hx
  go_enter Tryd.func23, Tryd.ntmps23
  go_wp2_with fail
  refine (isDie_any d _).mono ?_
  rintro e w1 ⟨rfl, hb1⟩
  rw [H.out]
  have g1 := ((IsD.new (d := d)).alloc _).below rfl hb1
  have g2 := (IsD.new2 (d := x)).below rfl hb1
  have q1 : Below w.heap.size w w1 := below_after (by go_grown) hb1 (by simp; omega)
  clear hb1
  obtain ⟨l2, ⟨d0, d1, d2, d3, d4, d5⟩, -⟩ := g2.all
  go_wp2_with fail
  clear d0 d1 d2 d3 d4 d5
  refine (isDie_any x _).mono ?_
  rintro e w2 ⟨rfl, hb2⟩
  rw [HX.out]
  have i1 := isD_to hb2 g1 rfl
  have i2 := isD_to hb2 g2 rfl
  have q2 := below_to hb2 q1 q1.size rfl rfl rfl rfl
  clear hb2 g1 g2 q1 l2
  obtain ⟨l1, ⟨c0, c1, c2, c3, c4, c5⟩, -⟩ := i1.all
  obtain ⟨l3, ⟨e0, e1, e2, e3, e4, e5⟩, -⟩ := i2.all
  have hG := hide (bfs_good d)
  generalize hk : known (bfs d) x = k
  have HK := hide hk
  clear hk
  generalize hwo : wordOf (bfs d) x = wo
  have HWO := hide hwo
  clear hwo
  go_wp2_with fail
  go_region_held3 (fun w' => w'.cell? ⟨w.heap.size, 0, none⟩ = some (.int .i64 d.t) ∧ w'.cell? ⟨w.heap.size, 1, none⟩ = some (.int .i64 d.n) ∧ w'.cell? ⟨w.heap.size, 2, none⟩ = some (.int .i64 d.e) ∧ w'.cell? ⟨w.heap.size, 3, none⟩ = some (.int .i64 d.s) ∧ w'.cell? ⟨w.heap.size, 4, none⟩ = some (.int .i64 d.w) ∧ w'.cell? ⟨w.heap.size, 5, none⟩ = some (.int .i64 d.b) ∧ w'.cell? ⟨w.heap.size + 1, 0, none⟩ = some (.int .i64 x.t) ∧ w'.cell? ⟨w.heap.size + 1, 1, none⟩ = some (.int .i64 x.n) ∧ w'.cell? ⟨w.heap.size + 1, 2, none⟩ = some (.int .i64 x.e) ∧ w'.cell? ⟨w.heap.size + 1, 3, none⟩ = some (.int .i64 x.s) ∧ w'.cell? ⟨w.heap.size + 1, 4, none⟩ = some (.int .i64 x.w) ∧ w'.cell? ⟨w.heap.size + 1, 5, none⟩ = some (.int .i64 x.b)) (go_keep)
    (first | (go_at_call 35; refine (firstWords_any d _ H.out).mono ?_; rintro e w3 ⟨mb, rfl, hmb, hm, hb3⟩; have hlk := look_exact H.out hG.out HX.out (b := mb) hm; rw [HK.out, HWO.out] at hlk; have j1 := isD_to hb3 i1 rfl; have j2 := isD_to hb3 i2 rfl; have q3 := below_to hb3 q2 q2.size rfl rfl rfl rfl; obtain ⟨l4, ⟨f0, f1, f2, f3, f4, f5⟩, -⟩ := j1.all; obtain ⟨l5, ⟨k0, k1, k2, k3, k4, k5⟩, -⟩ := j2.all; clear hm hb3))
  go_wp2
  go_returns
  exact ⟨ret_sb HWO.out.symm HK.out.symm, q3⟩

/-- What both say. -/
def rbS (d x : D) : ByteArray := if goodB d = true ∧ goodB x = true then wordOf (bfs d) x else ⟨#[]⟩
def rbF (d x : D) : Bool := if goodB d = true ∧ goodB x = true then known (bfs d) x else false
theorem specRollsBetween_any (d x : D) (w : World) : Calls Tryd.prog 22 #[D.v d, D.v x] w fun e w' => e = .returned (.tuple #[.string (rbS d x), .bool (rbF d x)]) ∧ Below w.heap.size w w' := by
  cases h : goodB d
  · simpa [rbS, rbF, h] using specRollsBetween_no1 d x w h
  · cases h2 : goodB x
    · simpa [rbS, rbF, h, h2] using specRollsBetween_no2 d x w h h2
    · simpa [rbS, rbF, h, h2] using specRollsBetween_yes d x w h h2
theorem implRollsBetween_any (d x : D) (w : World) : Calls Tryd.prog 23 #[D.v d, D.v x] w fun e w' => e = .returned (.tuple #[.string (rbS d x), .bool (rbF d x)]) ∧ Below w.heap.size w w' := by
  cases h : goodB d
  · simpa [rbS, rbF, h] using implRollsBetween_no1 d x w h
  · cases h2 : goodB x
    · simpa [rbS, rbF, h, h2] using implRollsBetween_no2 d x w h h2
    · simpa [rbS, rbF, h, h2] using implRollsBetween_yes d x w h h2

set_option maxHeartbeats 2000000 in
theorem walk_RollsBetween (d x : D) (w : World) (_ : Glob w) : Calls Tryd.prog 7 #[D.v d, D.v x] w fun e w' => e = .returned (.bool true) ∧ Below w.heap.size w w' := by
  generalize hy : rbS d x = y
  generalize hg : rbF d x = g
  have HY := hide hy
  have HG := hide hg
  clear hy hg
  have hs : (y.toList != y.toList) = false := by simp
  have hf : (g != g) = false := by simp
  go_enter Tryd.func7, Tryd.ntmps7
  go_wp2_with fail
  go_region_held3 (fun w' => w'.cell? ⟨w.heap.size, 0, none⟩ = some (.int .i64 d.t) ∧ w'.cell? ⟨w.heap.size, 1, none⟩ = some (.int .i64 d.n) ∧ w'.cell? ⟨w.heap.size, 2, none⟩ = some (.int .i64 d.e) ∧ w'.cell? ⟨w.heap.size, 3, none⟩ = some (.int .i64 d.s) ∧ w'.cell? ⟨w.heap.size, 4, none⟩ = some (.int .i64 d.w) ∧ w'.cell? ⟨w.heap.size, 5, none⟩ = some (.int .i64 d.b) ∧ w'.cell? ⟨w.heap.size + 1, 0, none⟩ = some (.int .i64 x.t) ∧ w'.cell? ⟨w.heap.size + 1, 1, none⟩ = some (.int .i64 x.n) ∧ w'.cell? ⟨w.heap.size + 1, 2, none⟩ = some (.int .i64 x.e) ∧ w'.cell? ⟨w.heap.size + 1, 3, none⟩ = some (.int .i64 x.s) ∧ w'.cell? ⟨w.heap.size + 1, 4, none⟩ = some (.int .i64 x.w) ∧ w'.cell? ⟨w.heap.size + 1, 5, none⟩ = some (.int .i64 x.b)) (first | (refine ⟨?_, ?_, ?_, ?_, ?_, ?_, ?_, ?_, ?_, ?_, ?_, ?_⟩ <;> assumption) | (simp [go_sem, World.cell?_alloc_past]))
    (first
      | (go_at_call 13; (with_reducible refine (toDie_any d _).mono ?_); rintro e w1 ⟨rfl, hb1⟩; have Ic1 := isD_to hb1 ((IsD.new (w := w) (d := d)).alloc _) rfl; have Ie1 := isD_to hb1 (IsD.new2 (w := w) (d := x)) rfl; have Q1 : Below w.heap.size w w1 := below_after (by go_grown) hb1 (by simp; omega); obtain ⟨lc1, ⟨c01, c11, c21, c31, c41, c51⟩, -⟩ := Ic1.all; obtain ⟨le1, ⟨e01, e11, e21, e31, e41, e51⟩, -⟩ := Ie1.all; clear hb1)
      | (go_at_call 13; (with_reducible refine (toDie_any x _).mono ?_); rintro e w2 ⟨rfl, hb2⟩; have Ic2 := isD_to hb2 Ic1 rfl; have Ie2 := isD_to hb2 Ie1 rfl; have Q2 := below_to hb2 Q1 Q1.size rfl rfl rfl rfl; obtain ⟨lc2, ⟨c02, c12, c22, c32, c42, c52⟩, -⟩ := Ic2.all; obtain ⟨le2, ⟨e02, e12, e22, e32, e42, e52⟩, -⟩ := Ie2.all; clear hb2)
      | (go_at_call 22; (refine (specRollsBetween_any d x _).mono ?_); rintro e w3 ⟨rfl, hb3⟩; have Ic3 := isD_to hb3 Ic2 rfl; have Ie3 := isD_to hb3 Ie2 rfl; have Q3 := below_to hb3 Q2 Q2.size rfl rfl rfl rfl; obtain ⟨lc3, ⟨c03, c13, c23, c33, c43, c53⟩, -⟩ := Ic3.all; obtain ⟨le3, ⟨e03, e13, e23, e33, e43, e53⟩, -⟩ := Ie3.all; clear hb3))
  rw [HY.out, HG.out]
  clear c01 c11 c21 c31 c41 c51 e01 e11 e21 e31 e41 e51 c02 c12 c22 c32 c42 c52 e02 e12 e22 e32 e42 e52 lc1 le1 lc2 le2
  go_wp2_with fail
  go_region_held3 (fun w' => w'.cell? ⟨w.heap.size, 0, none⟩ = some (.int .i64 d.t) ∧ w'.cell? ⟨w.heap.size, 1, none⟩ = some (.int .i64 d.n) ∧ w'.cell? ⟨w.heap.size, 2, none⟩ = some (.int .i64 d.e) ∧ w'.cell? ⟨w.heap.size, 3, none⟩ = some (.int .i64 d.s) ∧ w'.cell? ⟨w.heap.size, 4, none⟩ = some (.int .i64 d.w) ∧ w'.cell? ⟨w.heap.size, 5, none⟩ = some (.int .i64 d.b) ∧ w'.cell? ⟨w.heap.size + 1, 0, none⟩ = some (.int .i64 x.t) ∧ w'.cell? ⟨w.heap.size + 1, 1, none⟩ = some (.int .i64 x.n) ∧ w'.cell? ⟨w.heap.size + 1, 2, none⟩ = some (.int .i64 x.e) ∧ w'.cell? ⟨w.heap.size + 1, 3, none⟩ = some (.int .i64 x.s) ∧ w'.cell? ⟨w.heap.size + 1, 4, none⟩ = some (.int .i64 x.w) ∧ w'.cell? ⟨w.heap.size + 1, 5, none⟩ = some (.int .i64 x.b)) (first | (refine ⟨?_, ?_, ?_, ?_, ?_, ?_, ?_, ?_, ?_, ?_, ?_, ?_⟩ <;> assumption) | (simp [go_sem, World.cell?_alloc_past]))
    (first
      | (go_at_call 13; (with_reducible refine (toDie_any d _).mono ?_); rintro e w4 ⟨rfl, hb4⟩; have Ic4 := isD_to hb4 Ic3 rfl; have Ie4 := isD_to hb4 Ie3 rfl; have Q4 := below_to hb4 Q3 Q3.size rfl rfl rfl rfl; obtain ⟨lc4, ⟨c04, c14, c24, c34, c44, c54⟩, -⟩ := Ic4.all; obtain ⟨le4, ⟨e04, e14, e24, e34, e44, e54⟩, -⟩ := Ie4.all; clear hb4)
      | (go_at_call 13; (with_reducible refine (toDie_any x _).mono ?_); rintro e w5 ⟨rfl, hb5⟩; have Ic5 := isD_to hb5 Ic4 rfl; have Ie5 := isD_to hb5 Ie4 rfl; have Q5 := below_to hb5 Q4 Q4.size rfl rfl rfl rfl; obtain ⟨lc5, ⟨c05, c15, c25, c35, c45, c55⟩, -⟩ := Ic5.all; obtain ⟨le5, ⟨e05, e15, e25, e35, e45, e55⟩, -⟩ := Ie5.all; clear hb5)
      | (go_at_call 23; (refine (implRollsBetween_any d x _).mono ?_); rintro e w6 ⟨rfl, hb6⟩; have Ic6 := isD_to hb6 Ic5 rfl; have Ie6 := isD_to hb6 Ie5 rfl; have Q6 := below_to hb6 Q5 Q5.size rfl rfl rfl rfl; obtain ⟨lc6, ⟨c06, c16, c26, c36, c46, c56⟩, -⟩ := Ic6.all; obtain ⟨le6, ⟨e06, e16, e26, e36, e46, e56⟩, -⟩ := Ie6.all; clear hb6))
  rw [HY.out, HG.out]
  clear c03 c13 c23 c33 c43 c53 e03 e13 e23 e33 e43 e53 c04 c14 c24 c34 c44 c54 e04 e14 e24 e34 e44 e54 lc3 le3 lc4 le4
  go_wp2
  go_returns
  exact ⟨rfl, Q6⟩

end Go.Proofs.YtajabbbokhhekaaDoor
