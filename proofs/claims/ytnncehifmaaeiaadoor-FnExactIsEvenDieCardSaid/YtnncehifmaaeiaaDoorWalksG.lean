/- The walks of the laws of IsTurned and RollsBetween. -/
import Derived.Test.YtnncehifmaaeiaaDoorSwD
import Derived.Test.YtnncehifmaaeiaaDoorRowsOf
import Derived.Test.YtnncehifmaaeiaaDoorGood
namespace Go.Proofs.YtnncehifmaaeiaaDoor
set_option maxRecDepth 100000
set_option linter.all false
open Go.RowKit Go.Maps

theorem ret_bb {a b c d : Bool} (h : a = c) (h2 : b = d) : Ending.returned (.tuple #[.bool a, .bool b]) = .returned (.tuple #[.bool c, .bool d]) := by rw [h, h2]

/-- What both say. -/
def itS (d x : D) : Bool := if goodB d = true ∧ goodB x = true then known (bfs d) x else false
def itF (d x : D) : Bool := goodB d && goodB x
set_option maxHeartbeats 800000 in
theorem implRollsBetween_no1 (d x : D) (w : World) (h : goodB d = false) : Calls Tryd.prog 23 #[D.v d, D.v x] w fun e w' => e = .returned (.tuple #[.string ⟨#[]⟩, .bool false]) ∧ Below w.heap.size w w' := by
  have H := hide h
  clear h
  go_enter Tryd.func23, Tryd.ntmps23
  go_wp2_with fail
  refine (isDie_any d _).mono ?_
  rintro e w1 ⟨rfl, hb1⟩
  rw [H.out]
  have g1 := ((IsD.new (d := d)).alloc _).below rfl hb1
  have g2 := (IsD.new2 (d := x)).below rfl hb1
  have q1 : Below w.heap.size w w1 := below_after (by go_grown) hb1 (by simp; omega)
  clear hb1
  go_wp2
  go_returns
  exact ⟨rfl, q1⟩

set_option maxHeartbeats 800000 in
theorem implRollsBetween_no2 (d x : D) (w : World) (h : goodB d = true) (hx : goodB x = false) : Calls Tryd.prog 23 #[D.v d, D.v x] w fun e w' => e = .returned (.tuple #[.string ⟨#[]⟩, .bool false]) ∧ Below w.heap.size w w' := by
  have H := hide h
  have HX := hide hx
  clear h hx
  go_enter Tryd.func23, Tryd.ntmps23
  go_wp2_with fail
  refine (isDie_any d _).mono ?_
  rintro e w1 ⟨rfl, hb1⟩
  rw [H.out]
  have g1 := ((IsD.new (d := d)).alloc _).below rfl hb1
  have g2 := (IsD.new2 (d := x)).below rfl hb1
  have q1 : Below w.heap.size w w1 := below_after (by go_grown) hb1 (by simp; omega)
  clear hb1
  obtain ⟨l2, ⟨d0, d1, d2, d3, d4, d5⟩, -⟩ := g2.all
  go_wp2_with fail
  clear d0 d1 d2 d3 d4 d5
  refine (isDie_any x _).mono ?_
  rintro e w2 ⟨rfl, hb2⟩
  rw [HX.out]
  have i1 := isD_to hb2 g1 rfl
  have i2 := isD_to hb2 g2 rfl
  have q2 := below_to hb2 q1 q1.size rfl rfl rfl rfl
  clear hb2 g1 g2 q1 l2
  go_wp2
  go_returns
  exact ⟨rfl, q2⟩

set_option maxHeartbeats 800000 in
theorem implRollsBetween_yes (d x : D) (w : World) (h : goodB d = true) (hx : goodB x = true) : Calls Tryd.prog 23 #[D.v d, D.v x] w fun e w' => e = .returned (.tuple #[.string (wordOf (bfs d) x), .bool (known (bfs d) x)]) ∧ Below w.heap.size w w' := by
  have H := hide h
  have HX := hide hx
  clear h hx
  go_enter Tryd.func23, Tryd.ntmps23
  go_wp2_with fail
  refine (isDie_any d _).mono ?_
  rintro e w1 ⟨rfl, hb1⟩
  rw [H.out]
  have g1 := ((IsD.new (d := d)).alloc _).below rfl hb1
  have g2 := (IsD.new2 (d := x)).below rfl hb1
  have q1 : Below w.heap.size w w1 := below_after (by go_grown) hb1 (by simp; omega)
  clear hb1
  obtain ⟨l2, ⟨d0, d1, d2, d3, d4, d5⟩, -⟩ := g2.all
  go_wp2_with fail
  clear d0 d1 d2 d3 d4 d5
  refine (isDie_any x _).mono ?_
  rintro e w2 ⟨rfl, hb2⟩
  rw [HX.out]
  have i1 := isD_to hb2 g1 rfl
  have i2 := isD_to hb2 g2 rfl
  have q2 := below_to hb2 q1 q1.size rfl rfl rfl rfl
  clear hb2 g1 g2 q1 l2
  obtain ⟨l1, ⟨c0, c1, c2, c3, c4, c5⟩, -⟩ := i1.all
  obtain ⟨l3, ⟨e0, e1, e2, e3, e4, e5⟩, -⟩ := i2.all
  have hG := hide (bfs_good d)
  generalize hk : known (bfs d) x = k
  have HK := hide hk
  clear hk
  generalize hwo : wordOf (bfs d) x = wo
  have HWO := hide hwo
  clear hwo
  go_wp2_with fail
  go_region_held3 (fun w' => w'.cell? ⟨w.heap.size, 0, none⟩ = some (.int .i64 d.t) ∧ w'.cell? ⟨w.heap.size, 1, none⟩ = some (.int .i64 d.n) ∧ w'.cell? ⟨w.heap.size, 2, none⟩ = some (.int .i64 d.e) ∧ w'.cell? ⟨w.heap.size, 3, none⟩ = some (.int .i64 d.s) ∧ w'.cell? ⟨w.heap.size, 4, none⟩ = some (.int .i64 d.w) ∧ w'.cell? ⟨w.heap.size, 5, none⟩ = some (.int .i64 d.b) ∧ w'.cell? ⟨w.heap.size + 1, 0, none⟩ = some (.int .i64 x.t) ∧ w'.cell? ⟨w.heap.size + 1, 1, none⟩ = some (.int .i64 x.n) ∧ w'.cell? ⟨w.heap.size + 1, 2, none⟩ = some (.int .i64 x.e) ∧ w'.cell? ⟨w.heap.size + 1, 3, none⟩ = some (.int .i64 x.s) ∧ w'.cell? ⟨w.heap.size + 1, 4, none⟩ = some (.int .i64 x.w) ∧ w'.cell? ⟨w.heap.size + 1, 5, none⟩ = some (.int .i64 x.b)) (go_keep)
    (first | (go_at_call 34; refine (firstWords_any d _ H.out).mono ?_; rintro e w3 ⟨mb, rfl, hmb, hm, hb3⟩; have hlk := look_exact H.out hG.out HX.out (b := mb) hm; rw [HK.out, HWO.out] at hlk; have j1 := isD_to hb3 i1 rfl; have j2 := isD_to hb3 i2 rfl; have q3 := below_to hb3 q2 q2.size rfl rfl rfl rfl; obtain ⟨l4, ⟨f0, f1, f2, f3, f4, f5⟩, -⟩ := j1.all; obtain ⟨l5, ⟨k0, k1, k2, k3, k4, k5⟩, -⟩ := j2.all; clear hm hb3))
  go_wp2
  go_returns
  exact ⟨ret_sb HWO.out.symm HK.out.symm, q3⟩

/-- What both say. -/
def rbS (d x : D) : ByteArray := if goodB d = true ∧ goodB x = true then wordOf (bfs d) x else ⟨#[]⟩
def rbF (d x : D) : Bool := if goodB d = true ∧ goodB x = true then known (bfs d) x else false
theorem implRollsBetween_any (d x : D) (w : World) : Calls Tryd.prog 23 #[D.v d, D.v x] w fun e w' => e = .returned (.tuple #[.string (rbS d x), .bool (rbF d x)]) ∧ Below w.heap.size w w' := by
  cases h : goodB d
  · simpa [rbS, rbF, h] using implRollsBetween_no1 d x w h
  · cases h2 : goodB x
    · simpa [rbS, rbF, h, h2] using implRollsBetween_no2 d x w h h2
    · simpa [rbS, rbF, h, h2] using implRollsBetween_yes d x w h h2

end Go.Proofs.YtnncehifmaaeiaaDoor
