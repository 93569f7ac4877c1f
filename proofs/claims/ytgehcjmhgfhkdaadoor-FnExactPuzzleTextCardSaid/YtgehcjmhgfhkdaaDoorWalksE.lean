/- The walk of the law of TurnDie. -/
import Derived.Test.YtgehcjmhgfhkdaaDoorGood
import Derived.Test.YtgehcjmhgfhkdaaDoorFaces
namespace Go.Proofs.YtgehcjmhgfhkdaaDoor
set_option maxRecDepth 100000
set_option linter.all false
open Go.RowKit

def turnN : Nat → D → D
  | 0, d => d
  | j + 1, d => turnD (turnN j d)

set_option maxHeartbeats 400000 in
theorem implTurnDie_no1 (d : D) (k : Int) (w : World) (h : goodB d = false) : Calls Tryd.prog 76 #[D.v d, .int .i64 k] w fun e w' => e = .returned (.tuple #[D.v zeroD, .bool false]) ∧ Below w.heap.size w w' := by
  have H := hide h
  clear h
  go_enter Tryd.func76, Tryd.ntmps76
  go_wp2_with fail
  refine (isDie_any d _).mono ?_
  rintro e w1 ⟨rfl, hb1⟩
  rw [H.out]
  have g1 := ((IsD.new (d := d)).alloc _).below rfl hb1
  have g2 := (IsD.new2 (d := zeroD)).below rfl hb1
  have q1 : Below w.heap.size w w1 := below_after (by go_grown) hb1 (by simp; omega)
  clear hb1
  obtain ⟨l2, ⟨d0, d1, d2, d3, d4, d5⟩, e0, e1, e2, e3, e4, e5⟩ := g2.all
  go_wp2
  refine bodyPost_ret (ret_die2 Tryd.results76 rfl rfl (g2.set6 ⟨0, 0, 0, 0, 0, 0⟩)) rfl ⟨rfl, ?_⟩
  exact below_set6 q1 (by simp) ⟨0, 0, 0, 0, 0, 0⟩

set_option maxHeartbeats 400000 in
theorem implTurnDie_no2 (d : D) (k : Int) (w : World) (h : goodB d = true) (hk : k < 0 ∨ 3 < k) : Calls Tryd.prog 76 #[D.v d, .int .i64 k] w fun e w' => e = .returned (.tuple #[D.v zeroD, .bool false]) ∧ Below w.heap.size w w' := by
  have H := hide h
  clear h
  rcases hk with hk | hk
  · go_enter Tryd.func76, Tryd.ntmps76
    go_wp2_with fail
    refine (isDie_any d _).mono ?_
    rintro e w1 ⟨rfl, hb1⟩
    rw [H.out]
    have g1 := ((IsD.new (d := d)).alloc _).below rfl hb1
    have g2 := (IsD.new2 (d := zeroD)).below rfl hb1
    have q1 : Below w.heap.size w w1 := below_after (by go_grown) hb1 (by simp; omega)
    clear hb1
    obtain ⟨l2, ⟨d0, d1, d2, d3, d4, d5⟩, e0, e1, e2, e3, e4, e5⟩ := g2.all
    go_wp2
    refine bodyPost_ret (ret_die2 Tryd.results76 rfl rfl (g2.set6 ⟨0, 0, 0, 0, 0, 0⟩)) rfl ⟨rfl, ?_⟩
    exact below_set6 q1 (by simp) ⟨0, 0, 0, 0, 0, 0⟩
  · have hk0 : 0 ≤ k := by omega
    go_enter Tryd.func76, Tryd.ntmps76
    go_wp2_with fail
    refine (isDie_any d _).mono ?_
    rintro e w1 ⟨rfl, hb1⟩
    rw [H.out]
    have g1 := ((IsD.new (d := d)).alloc _).below rfl hb1
    have g2 := (IsD.new2 (d := zeroD)).below rfl hb1
    have q1 : Below w.heap.size w w1 := below_after (by go_grown) hb1 (by simp; omega)
    clear hb1
    obtain ⟨l2, ⟨d0, d1, d2, d3, d4, d5⟩, e0, e1, e2, e3, e4, e5⟩ := g2.all
    go_wp2
    refine bodyPost_ret (ret_die2 Tryd.results76 rfl rfl (g2.set6 ⟨0, 0, 0, 0, 0, 0⟩)) rfl ⟨rfl, ?_⟩
    exact below_set6 q1 (by simp) ⟨0, 0, 0, 0, 0, 0⟩

set_option maxHeartbeats 400000 in
theorem implTurnDie_yes (d : D) (k : Nat) (w : World) (h : goodB d = true) (hk : k ≤ 3) : Calls Tryd.prog 76 #[D.v d, .int .i64 (k : Int)] w fun e w' => e = .returned (.tuple #[D.v (turnN k d), .bool true]) ∧ Below w.heap.size w w' := by
  have H := hide h
  clear h
  go_enter Tryd.func76, Tryd.ntmps76
  go_wp2_with fail
  refine (isDie_any d _).mono ?_
  rintro e w1 ⟨rfl, hb1⟩
  rw [H.out]
  have g1 := ((IsD.new (d := d)).alloc _).below rfl hb1
  have g2 := (IsD.new2 (d := zeroD)).below rfl hb1
  have q1 : Below w.heap.size w w1 := below_after (by go_grown) hb1 (by simp; omega)
  clear hb1
  have hk3 : (k : Int) ≤ 3 := by omega
  have hk0 : 0 ≤ (k : Int) := by omega
  go_wp2
  go_loopw [19] (fun i wr => ∃ j : Nat, j ≤ k ∧ i = .int .i64 (j : Int) ∧ IsD wr w.heap.size (turnN j d) 30 ∧ IsD wr (w.heap.size + 1) zeroD 30 ∧ Below w.heap.size w wr) (fun i _ => k - (intOf i).toNat)
  case atStart => exact ⟨0, Nat.zero_le _, rfl, g1, g2, q1⟩
  case round =>
    obtain ⟨j, hj, rfl, h1, h2, hb⟩ := hrel
    by_cases hlt : j < k
    · obtain ⟨l1, ⟨c0, c1, c2, c3, c4, c5⟩, f0, f1, f2, f3, f4, f5⟩ := h1.all
      go_wp2
      go_roundw
      case rel =>
        refine ⟨j + 1, by omega, by go_num, ?_, ?_, ?_⟩
        · have m1 := cells_set h1 1 (by simp) (.int .i64 (turnN j d).w)
          have m2 := cells_set m1 2 (by simp) (.int .i64 (turnN j d).n)
          have m3 := cells_set m2 3 (by simp) (.int .i64 (turnN j d).e)
          have m4 := cells_set m3 4 (by simp) (.int .i64 (turnN j d).s)
          simpa [IsD, turnN, turnD] using m4
        · exact (((h2.other (by simp) _).other (by simp) _).other (by simp) _).other (by simp) _
        · exact (((hb.setCell (by simp) _).setCell (by simp) _).setCell (by simp) _).setCell (by simp) _
      case measure => simp [intOf]; omega
    · obtain rfl : j = k := by omega
      obtain ⟨l1, ⟨c0, c1, c2, c3, c4, c5⟩, -⟩ := h1.all
      obtain ⟨l2, ⟨d0, d1, d2, d3, d4, d5⟩, e0, e1, e2, e3, e4, e5⟩ := h2.all
      go_wp2
      refine bodyPost_ret (ret_die2 Tryd.results76 rfl rfl (h2.set6 (turnN j d))) rfl ⟨rfl, ?_⟩
      exact below_set6 hb (by simp) (turnN j d)

/-- What both say. -/
def tdS (d : D) (k : Int) : D := if goodB d = true ∧ 0 ≤ k ∧ k ≤ 3 then turnN k.toNat d else zeroD
def tdF (d : D) (k : Int) : Bool := goodB d && decide (0 ≤ k ∧ k ≤ 3)
theorem implTurnDie_any (d : D) (k : Int) (w : World) : Calls Tryd.prog 76 #[D.v d, .int .i64 k] w fun e w' => e = .returned (.tuple #[D.v (tdS d k), .bool (tdF d k)]) ∧ Below w.heap.size w w' := by
  cases h : goodB d
  · simpa [tdS, tdF, h] using implTurnDie_no1 d k w h
  · by_cases h2 : 0 ≤ k ∧ k ≤ 3
    · obtain ⟨n, rfl⟩ := Int.eq_ofNat_of_zero_le h2.1
      have h3 : n ≤ 3 := by omega
      simpa [tdS, tdF, h, h2, h3] using implTurnDie_yes d n w h h3
    · simpa [tdS, tdF, h, h2] using implTurnDie_no2 d k w h (by omega)

end Go.Proofs.YtgehcjmhgfhkdaaDoor
