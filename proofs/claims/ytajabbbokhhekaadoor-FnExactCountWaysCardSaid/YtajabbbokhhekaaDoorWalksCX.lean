/- The walks of the law of CountWays. -/
import Derived.Test.YtajabbbokhhekaaDoorWalksCW
import Derived.Test.YtajabbbokhhekaaDoorSwD
import Derived.Test.YtajabbbokhhekaaDoorRowsOf
import Derived.Test.YtajabbbokhhekaaDoorFirst
namespace Go.Proofs.YtajabbbokhhekaaDoor
set_option maxRecDepth 100000
set_option linter.all false
open Go.RowKit

def cwV (d : D) : Int := if goodB d = true then ((bfs d).length : Int) else 0

set_option maxHeartbeats 800000 in
theorem specCW_no (d : D) (w : World) (h : goodB d = false) : Calls Tryd.prog 18 #[D.v d] w fun e w' => e = .returned (.tuple #[.int .i64 0, .bool false]) ∧ Below w.heap.size w w' := by
  have H := hide h
  clear h
  go_enter Tryd.func18, Tryd.ntmps18
  go_wp2_with fail
  refine (diGood_any d _).mono ?_
  rintro e w1 ⟨rfl, hb1⟩
  rw [H.out]
  have q1 : Below w.heap.size w w1 := below_after (by go_grown) hb1 (by simp)
  clear hb1
  go_wp2
  go_returns
  exact ⟨rfl, q1⟩

set_option maxHeartbeats 800000 in
theorem specCW_yes (d : D) (w : World) (h : goodB d = true) : Calls Tryd.prog 18 #[D.v d] w fun e w' => e = .returned (.tuple #[.int .i64 ((bfs d).length : Int), .bool true]) ∧ Below w.heap.size w w' := by
  have H := hide h
  have hpos := bfs_pos d
  have HW := hide (fun wx => diWays_any d wx)
  generalize bfs d = L at HW hpos ⊢
  clear h
  go_enter Tryd.func18, Tryd.ntmps18
  go_wp2_with fail
  refine (diGood_any d _).mono ?_
  rintro e w1 ⟨rfl, hb1⟩
  rw [H.out]
  have I1 := isD_to hb1 (IsD.new (w := w) (d := d) (ty := 30)) rfl
  have q1 : Below w.heap.size w w1 := below_after (by go_grown) hb1 (by simp)
  clear hb1
  obtain ⟨l1, ⟨a0, a1, a2, a3, a4, a5⟩, -⟩ := I1.all
  go_wp2_with fail
  clear a0 a1 a2 a3 a4 a5 l1 I1
  refine (HW.out _).mono ?_
  rintro e w2 ⟨v, rfl, O2, hb2⟩
  have q2 := below_to hb2 q1 q1.size rfl rfl rfl rfl
  obtain ⟨g, c, rfl, -, -, -⟩ := own_formW O2 hpos
  clear O2 hb2 q1
  go_wp2
  go_returns
  exact ⟨rfl, q2⟩

set_option maxHeartbeats 800000 in
theorem implCW_no (d : D) (w : World) (h : goodB d = false) : Calls Tryd.prog 19 #[D.v d] w fun e w' => e = .returned (.tuple #[.int .i64 0, .bool false]) ∧ Below w.heap.size w w' := by
  have H := hide h
  clear h
  go_enter Tryd.func19, Tryd.ntmps19
  go_wp2_with fail
  refine (isDie_any d _).mono ?_
  rintro e w1 ⟨rfl, hb1⟩
  rw [H.out]
  have q1 : Below w.heap.size w w1 := below_after (by go_grown) hb1 (by simp)
  clear hb1
  go_wp2
  go_returns
  exact ⟨rfl, q1⟩

set_option maxHeartbeats 800000 in
theorem implCW_yes (d : D) (w : World) (h : goodB d = true) : Calls Tryd.prog 19 #[D.v d] w fun e w' => e = .returned (.tuple #[.int .i64 ((bfs d).length : Int), .bool true]) ∧ Below w.heap.size w w' := by
  have H := hide h
  have hpos := bfs_pos d
  have HW := hide (fun wx => firstWords_any d wx h)
  generalize bfs d = L at HW hpos ⊢
  clear h
  go_enter Tryd.func19, Tryd.ntmps19
  go_wp2_with fail
  refine (isDie_any d _).mono ?_
  rintro e w1 ⟨rfl, hb1⟩
  rw [H.out]
  have I1 := isD_to hb1 (IsD.new (w := w) (d := d) (ty := 30)) rfl
  have q1 : Below w.heap.size w w1 := below_after (by go_grown) hb1 (by simp)
  clear hb1
  obtain ⟨l1, ⟨a0, a1, a2, a3, a4, a5⟩, -⟩ := I1.all
  go_wp2_with fail
  clear a0 a1 a2 a3 a4 a5 l1 I1
  refine (HW.out _).mono ?_
  rintro e w2 ⟨mb, rfl, hmb, hm, hb2⟩
  have q2 := below_to hb2 q1 q1.size rfl rfl rfl rfl
  have hsz : (entries L).toArray.size = L.length := by simp [entries]
  unfold MapIs at hm
  generalize (entries L).toArray = es at hm hsz
  have HSZ := hide (show ((L.length : Nat) : Int) = ((es.size : Nat) : Int) from by rw [hsz])
  have hmk : Tryd.prog.underlying 47 = some (.map (Tryd.prog.mapKeyOf 47) (Tryd.prog.mapElemOf 47)) := by kernel_rfl
  have hln := fun ty => run_len_map (P := Tryd.prog) (w := w2) 47 ty _ es L.length hmk hm
  clear hb2 q1 hsz
  go_wp2
  go_returns
  exact ⟨by rw [HSZ.out]; rfl, q2⟩
theorem specCW_any (d : D) (w : World) : Calls Tryd.prog 18 #[D.v d] w fun e w' => e = .returned (.tuple #[.int .i64 (cwV d), .bool (goodB d)]) ∧ Below w.heap.size w w' := by
  unfold cwV
  cases h : goodB d
  · rw [if_neg (by decide)]
    exact specCW_no d w h
  · rw [if_pos rfl]
    exact specCW_yes d w h
theorem implCW_any (d : D) (w : World) : Calls Tryd.prog 19 #[D.v d] w fun e w' => e = .returned (.tuple #[.int .i64 (cwV d), .bool (goodB d)]) ∧ Below w.heap.size w w' := by
  unfold cwV
  cases h : goodB d
  · rw [if_neg (by decide)]
    exact implCW_no d w h
  · rw [if_pos rfl]
    exact implCW_yes d w h

set_option maxHeartbeats 800000 in
theorem walk_CountWays (d : D) (w : World) (_ : Glob w) : Calls Tryd.prog 5 #[D.v d] w fun e w' => e = .returned (.bool true) ∧ Below w.heap.size w w' := by
  generalize hx : cwV d = x
  generalize hg : goodB d = g
  have HX := hide hx
  have HG := hide hg
  clear hx hg
  go_enter Tryd.func5, Tryd.ntmps5
  go_wp2_with fail
  refine (toDie_any d _).mono ?_
  rintro e w1 ⟨rfl, hb1⟩
  have g1 := isD_to hb1 (IsD.new (w := w) (d := d)) rfl
  have q1 : Below w.heap.size w w1 := below_after (by go_grown) hb1 (by simp)
  clear hb1
  go_wp2_with fail
  refine (specCW_any d _).mono ?_
  rintro e w2 ⟨rfl, hb2⟩
  rw [HX.out, HG.out]
  have g2 := isD_to hb2 g1 rfl
  have q2 := below_to hb2 q1 q1.size rfl rfl rfl rfl
  clear hb2 q1 g1
  obtain ⟨l1, ⟨c0, c1, c2, c3, c4, c5⟩, -⟩ := g2.all
  go_wp2_with fail
  clear c0 c1 c2 c3 c4 c5
  refine (toDie_any d _).mono ?_
  rintro e w3 ⟨rfl, hb3⟩
  have q3 := below_to hb3 q2 q2.size rfl rfl rfl rfl
  clear hb3 q2 g2 l1
  go_wp2_with fail
  refine (implCW_any d _).mono ?_
  rintro e w4 ⟨rfl, hb4⟩
  have q4 := below_to hb4 q3 q3.size rfl rfl rfl rfl
  rw [HX.out, HG.out]
  have e2 : (g != g) = false := by simp
  go_wp2
  go_returns
  exact ⟨rfl, q4⟩
end Go.Proofs.YtajabbbokhhekaaDoor
