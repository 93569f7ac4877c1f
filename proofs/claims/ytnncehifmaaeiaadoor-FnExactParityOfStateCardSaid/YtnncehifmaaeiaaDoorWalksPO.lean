/- The walks of the law of ParityOfState. -/
import Derived.Test.YtnncehifmaaeiaaDoorWalksEV
import Derived.Test.YtnncehifmaaeiaaDoorStateTo
namespace Go.Proofs.YtnncehifmaaeiaaDoor
set_option maxRecDepth 100000
set_option linter.all false
open Go.RowKit

/-- What ParityOfState answers. -/
def inS (n : Int) : Bool := decide (0 ≤ n ∧ n ≤ 6)
def poF (t : St) (d : D) : Bool := inS t.x && (inS t.y && evF d t.d)
def poV (t : St) (d : D) : Int := if poF t d = true then (t.x + t.y + odV d t.d) % 2 else 0
theorem odV_near (d x : D) : 0 ≤ odV d x ∧ odV d x ≤ 1 := by
  unfold odV
  split <;> omega
theorem odV_even {d x : D} (h : evF d x = true) : odV d x = if evB d x = true then 0 else 1 := by
  unfold odV evB
  rw [if_pos h, h]
  by_cases hz : (wordOf (bfs d) x).size % 2 = 0
  · simp [hz]
  · have : (wordOf (bfs d) x).size % 2 = 1 := by omega
    simp [this]
theorem isOnSide_any (n : Int) (w : World) : Calls Tryd.prog 25 #[.int .i64 n] w fun e w' => e = .returned (.bool (inS n)) ∧ w = w' := by
  unfold inS
  by_cases h1 : 0 ≤ n
  · by_cases h2 : n < 7
    · have e : decide (0 ≤ n ∧ n ≤ 6) = true := decide_eq_true (by omega)
      rw [e]
      go_enter Tryd.func25, Tryd.ntmps25
      go_wp2
      go_returns
      exact ⟨rfl, rfl⟩
    · have e : decide (0 ≤ n ∧ n ≤ 6) = false := decide_eq_false (by omega)
      rw [e]
      go_enter Tryd.func25, Tryd.ntmps25
      go_wp2
      go_returns
      exact ⟨rfl, rfl⟩
  · have e : decide (0 ≤ n ∧ n ≤ 6) = false := decide_eq_false (by omega)
    rw [e]
    go_enter Tryd.func25, Tryd.ntmps25
    go_wp2
    go_returns
    exact ⟨rfl, rfl⟩
theorem l1InS_any (n : Int) (w : World) : Calls Tryd.prog 24 #[.int .i64 n, .int .i64 0, .int .i64 6] w fun e w' => e = .returned (.bool (inS n)) ∧ w = w' := l1In_any n 0 6 w

set_option maxHeartbeats 1600000 in
theorem specPO_no1 (t : St) (d : D) (w : World) (h1 : evF d t.d = false) : Calls Tryd.prog 11 #[St.v t, D.v d] w fun e w' => e = .returned (.tuple #[.int .i64 0, .bool false]) ∧ Below w.heap.size w w' := by
  have H1 := hide h1
  clear h1
  have I1 := (IsS.new (w := w) (s := t) (ty := 37)).alloc (.cells #[.int .i64 d.t, .int .i64 d.n, .int .i64 d.e, .int .i64 d.s, .int .i64 d.w, .int .i64 d.b] 29)
  have J1 := IsD.new2 (w := w) (o := (.cells #[.int .i64 t.x, .int .i64 t.y, .int .i64 t.d.t, .int .i64 t.d.n, .int .i64 t.d.e, .int .i64 t.d.s, .int .i64 t.d.w, .int .i64 t.d.b] 37)) (d := d) (ty := 29)
  have Q1 : Below w.heap.size w ((w.alloc (.cells #[.int .i64 t.x, .int .i64 t.y, .int .i64 t.d.t, .int .i64 t.d.n, .int .i64 t.d.e, .int .i64 t.d.s, .int .i64 t.d.w, .int .i64 t.d.b] 37)).alloc (.cells #[.int .i64 d.t, .int .i64 d.n, .int .i64 d.e, .int .i64 d.s, .int .i64 d.w, .int .i64 d.b] 29)) := by go_grown
  go_enter Tryd.func11, Tryd.ntmps11
  go_wp2_with fail
  generalize (w.alloc (.cells #[.int .i64 t.x, .int .i64 t.y, .int .i64 t.d.t, .int .i64 t.d.n, .int .i64 t.d.e, .int .i64 t.d.s, .int .i64 t.d.w, .int .i64 t.d.b] 37)).alloc (.cells #[.int .i64 d.t, .int .i64 d.n, .int .i64 d.e, .int .i64 d.s, .int .i64 d.w, .int .i64 d.b] 29) = w1 at I1 J1 Q1 ⊢
  refine (boOdd_any d t.d _).mono ?_
  rintro e w2 ⟨rfl, hb2⟩
  rw [H1.out]
  have I2 := isS_to hb2 I1 rfl
  have J2 := isD_to hb2 J1 rfl
  have Q2 := below_to hb2 Q1 Q1.size rfl rfl rfl rfl
  clear hb2 I1 J1 Q1
  generalize odV d t.d = o
  go_wp2
  go_returns
  exact ⟨rfl, Q2⟩

set_option maxHeartbeats 1600000 in
theorem specPO_no2 (t : St) (d : D) (w : World) (h1 : evF d t.d = true) (h2 : inS t.x = false) : Calls Tryd.prog 11 #[St.v t, D.v d] w fun e w' => e = .returned (.tuple #[.int .i64 0, .bool false]) ∧ Below w.heap.size w w' := by
  have H1 := hide h1
  have H2 := hide h2
  clear h1 h2
  have I1 := (IsS.new (w := w) (s := t) (ty := 37)).alloc (.cells #[.int .i64 d.t, .int .i64 d.n, .int .i64 d.e, .int .i64 d.s, .int .i64 d.w, .int .i64 d.b] 29)
  have J1 := IsD.new2 (w := w) (o := (.cells #[.int .i64 t.x, .int .i64 t.y, .int .i64 t.d.t, .int .i64 t.d.n, .int .i64 t.d.e, .int .i64 t.d.s, .int .i64 t.d.w, .int .i64 t.d.b] 37)) (d := d) (ty := 29)
  have Q1 : Below w.heap.size w ((w.alloc (.cells #[.int .i64 t.x, .int .i64 t.y, .int .i64 t.d.t, .int .i64 t.d.n, .int .i64 t.d.e, .int .i64 t.d.s, .int .i64 t.d.w, .int .i64 t.d.b] 37)).alloc (.cells #[.int .i64 d.t, .int .i64 d.n, .int .i64 d.e, .int .i64 d.s, .int .i64 d.w, .int .i64 d.b] 29)) := by go_grown
  go_enter Tryd.func11, Tryd.ntmps11
  go_wp2_with fail
  generalize (w.alloc (.cells #[.int .i64 t.x, .int .i64 t.y, .int .i64 t.d.t, .int .i64 t.d.n, .int .i64 t.d.e, .int .i64 t.d.s, .int .i64 t.d.w, .int .i64 t.d.b] 37)).alloc (.cells #[.int .i64 d.t, .int .i64 d.n, .int .i64 d.e, .int .i64 d.s, .int .i64 d.w, .int .i64 d.b] 29) = w1 at I1 J1 Q1 ⊢
  refine (boOdd_any d t.d _).mono ?_
  rintro e w2 ⟨rfl, hb2⟩
  rw [H1.out]
  have I2 := isS_to hb2 I1 rfl
  have J2 := isD_to hb2 J1 rfl
  have Q2 := below_to hb2 Q1 Q1.size rfl rfl rfl rfl
  clear hb2 I1 J1 Q1
  obtain ⟨l2, ⟨a0, a1, a2, a3, a4, a5, a6, a7⟩, -⟩ := I2.all
  obtain ⟨m2, ⟨b0, b1, b2, b3, b4, b5⟩, -⟩ := J2.all
  generalize odV d t.d = o
  go_wp2_with fail
  clear a0 a1 a2 a3 a4 a5 a6 a7 b0 b1 b2 b3 b4 b5 l2 m2
  refine (l1InS_any t.x _).mono ?_
  rintro e w3 ⟨rfl, rfl⟩
  rw [H2.out]
  have I3 := I2
  have J3 := J2
  have Q3 := Q2
  clear I2 J2 Q2
  go_wp2
  go_returns
  exact ⟨rfl, Q3⟩

set_option maxHeartbeats 1600000 in
theorem specPO_no3 (t : St) (d : D) (w : World) (h1 : evF d t.d = true) (h2 : inS t.x = true) (h3 : inS t.y = false) : Calls Tryd.prog 11 #[St.v t, D.v d] w fun e w' => e = .returned (.tuple #[.int .i64 0, .bool false]) ∧ Below w.heap.size w w' := by
  have H1 := hide h1
  have H2 := hide h2
  have H3 := hide h3
  clear h1 h2 h3
  have I1 := (IsS.new (w := w) (s := t) (ty := 37)).alloc (.cells #[.int .i64 d.t, .int .i64 d.n, .int .i64 d.e, .int .i64 d.s, .int .i64 d.w, .int .i64 d.b] 29)
  have J1 := IsD.new2 (w := w) (o := (.cells #[.int .i64 t.x, .int .i64 t.y, .int .i64 t.d.t, .int .i64 t.d.n, .int .i64 t.d.e, .int .i64 t.d.s, .int .i64 t.d.w, .int .i64 t.d.b] 37)) (d := d) (ty := 29)
  have Q1 : Below w.heap.size w ((w.alloc (.cells #[.int .i64 t.x, .int .i64 t.y, .int .i64 t.d.t, .int .i64 t.d.n, .int .i64 t.d.e, .int .i64 t.d.s, .int .i64 t.d.w, .int .i64 t.d.b] 37)).alloc (.cells #[.int .i64 d.t, .int .i64 d.n, .int .i64 d.e, .int .i64 d.s, .int .i64 d.w, .int .i64 d.b] 29)) := by go_grown
  go_enter Tryd.func11, Tryd.ntmps11
  go_wp2_with fail
  generalize (w.alloc (.cells #[.int .i64 t.x, .int .i64 t.y, .int .i64 t.d.t, .int .i64 t.d.n, .int .i64 t.d.e, .int .i64 t.d.s, .int .i64 t.d.w, .int .i64 t.d.b] 37)).alloc (.cells #[.int .i64 d.t, .int .i64 d.n, .int .i64 d.e, .int .i64 d.s, .int .i64 d.w, .int .i64 d.b] 29) = w1 at I1 J1 Q1 ⊢
  refine (boOdd_any d t.d _).mono ?_
  rintro e w2 ⟨rfl, hb2⟩
  rw [H1.out]
  have I2 := isS_to hb2 I1 rfl
  have J2 := isD_to hb2 J1 rfl
  have Q2 := below_to hb2 Q1 Q1.size rfl rfl rfl rfl
  clear hb2 I1 J1 Q1
  obtain ⟨l2, ⟨a0, a1, a2, a3, a4, a5, a6, a7⟩, -⟩ := I2.all
  obtain ⟨m2, ⟨b0, b1, b2, b3, b4, b5⟩, -⟩ := J2.all
  generalize odV d t.d = o
  go_wp2_with fail
  clear a0 a1 a2 a3 a4 a5 a6 a7 b0 b1 b2 b3 b4 b5 l2 m2
  refine (l1InS_any t.x _).mono ?_
  rintro e w3 ⟨rfl, rfl⟩
  rw [H2.out]
  have I3 := I2
  have J3 := J2
  have Q3 := Q2
  clear I2 J2 Q2
  obtain ⟨l3, ⟨a0, a1, a2, a3, a4, a5, a6, a7⟩, -⟩ := I3.all
  obtain ⟨m3, ⟨b0, b1, b2, b3, b4, b5⟩, -⟩ := J3.all
  go_wp2_with fail
  clear a0 a1 a2 a3 a4 a5 a6 a7 b0 b1 b2 b3 b4 b5 l3 m3
  refine (l1InS_any t.y _).mono ?_
  rintro e w4 ⟨rfl, rfl⟩
  rw [H3.out]
  have I4 := I3
  have J4 := J3
  have Q4 := Q3
  clear I3 J3 Q3
  go_wp2
  go_returns
  exact ⟨rfl, Q4⟩

set_option maxHeartbeats 1600000 in
theorem specPO_yes (t : St) (d : D) (w : World) (h1 : evF d t.d = true) (h2 : inS t.x = true) (h3 : inS t.y = true) : Calls Tryd.prog 11 #[St.v t, D.v d] w fun e w' => e = .returned (.tuple #[.int .i64 ((t.x + t.y + odV d t.d) % 2), .bool true]) ∧ Below w.heap.size w w' := by
  have ho := odV_near d t.d
  have hx := of_decide_eq_true h2
  have hy := of_decide_eq_true h3
  have H1 := hide h1
  have H2 := hide h2
  have H3 := hide h3
  clear h1 h2 h3
  generalize ho2 : odV d t.d = o at ho ⊢
  have HO := hide ho2
  clear ho2
  have w1q : IntKind.i64.wrap (t.x + t.y) = t.x + t.y := IntWalk.i64_in _ (by omega)
  have w2q : IntKind.i64.wrap (t.x + t.y + o) = t.x + t.y + o := IntWalk.i64_in _ (by omega)
  have I1 := (IsS.new (w := w) (s := t) (ty := 37)).alloc (.cells #[.int .i64 d.t, .int .i64 d.n, .int .i64 d.e, .int .i64 d.s, .int .i64 d.w, .int .i64 d.b] 29)
  have J1 := IsD.new2 (w := w) (o := (.cells #[.int .i64 t.x, .int .i64 t.y, .int .i64 t.d.t, .int .i64 t.d.n, .int .i64 t.d.e, .int .i64 t.d.s, .int .i64 t.d.w, .int .i64 t.d.b] 37)) (d := d) (ty := 29)
  have Q1 : Below w.heap.size w ((w.alloc (.cells #[.int .i64 t.x, .int .i64 t.y, .int .i64 t.d.t, .int .i64 t.d.n, .int .i64 t.d.e, .int .i64 t.d.s, .int .i64 t.d.w, .int .i64 t.d.b] 37)).alloc (.cells #[.int .i64 d.t, .int .i64 d.n, .int .i64 d.e, .int .i64 d.s, .int .i64 d.w, .int .i64 d.b] 29)) := by go_grown
  go_enter Tryd.func11, Tryd.ntmps11
  go_wp2_with fail
  generalize (w.alloc (.cells #[.int .i64 t.x, .int .i64 t.y, .int .i64 t.d.t, .int .i64 t.d.n, .int .i64 t.d.e, .int .i64 t.d.s, .int .i64 t.d.w, .int .i64 t.d.b] 37)).alloc (.cells #[.int .i64 d.t, .int .i64 d.n, .int .i64 d.e, .int .i64 d.s, .int .i64 d.w, .int .i64 d.b] 29) = w1 at I1 J1 Q1 ⊢
  refine (boOdd_any d t.d _).mono ?_
  rintro e w2 ⟨rfl, hb2⟩
  rw [H1.out, HO.out]
  have I2 := isS_to hb2 I1 rfl
  have J2 := isD_to hb2 J1 rfl
  have Q2 := below_to hb2 Q1 Q1.size rfl rfl rfl rfl
  clear hb2 I1 J1 Q1
  obtain ⟨l2, ⟨a0, a1, a2, a3, a4, a5, a6, a7⟩, -⟩ := I2.all
  obtain ⟨m2, ⟨b0, b1, b2, b3, b4, b5⟩, -⟩ := J2.all
  go_wp2_with fail
  clear a0 a1 a2 a3 a4 a5 a6 a7 b0 b1 b2 b3 b4 b5 l2 m2
  refine (l1InS_any t.x _).mono ?_
  rintro e w3 ⟨rfl, rfl⟩
  rw [H2.out]
  have I3 := I2
  have J3 := J2
  have Q3 := Q2
  clear I2 J2 Q2
  obtain ⟨l3, ⟨a0, a1, a2, a3, a4, a5, a6, a7⟩, -⟩ := I3.all
  obtain ⟨m3, ⟨b0, b1, b2, b3, b4, b5⟩, -⟩ := J3.all
  go_wp2_with fail
  clear a0 a1 a2 a3 a4 a5 a6 a7 b0 b1 b2 b3 b4 b5 l3 m3
  refine (l1InS_any t.y _).mono ?_
  rintro e w4 ⟨rfl, rfl⟩
  rw [H3.out]
  have I4 := I3
  have J4 := J3
  have Q4 := Q3
  clear I3 J3 Q3
  obtain ⟨l4, ⟨a0, a1, a2, a3, a4, a5, a6, a7⟩, -⟩ := I4.all
  obtain ⟨m4, ⟨b0, b1, b2, b3, b4, b5⟩, -⟩ := J4.all
  go_wp2
  go_returns
  exact ⟨rfl, Q4⟩

set_option maxHeartbeats 1600000 in
theorem implPO_no1 (t : St) (d : D) (w : World) (h1 : inS t.x = false) : Calls Tryd.prog 13 #[St.v t, D.v d] w fun e w' => e = .returned (.tuple #[.int .i64 0, .bool false]) ∧ Below w.heap.size w w' := by
  have H1 := hide h1
  clear h1
  have I1 := (IsS.new (w := w) (s := t) (ty := 37)).alloc (.cells #[.int .i64 d.t, .int .i64 d.n, .int .i64 d.e, .int .i64 d.s, .int .i64 d.w, .int .i64 d.b] 29)
  have J1 := IsD.new2 (w := w) (o := (.cells #[.int .i64 t.x, .int .i64 t.y, .int .i64 t.d.t, .int .i64 t.d.n, .int .i64 t.d.e, .int .i64 t.d.s, .int .i64 t.d.w, .int .i64 t.d.b] 37)) (d := d) (ty := 29)
  have Q1 : Below w.heap.size w ((w.alloc (.cells #[.int .i64 t.x, .int .i64 t.y, .int .i64 t.d.t, .int .i64 t.d.n, .int .i64 t.d.e, .int .i64 t.d.s, .int .i64 t.d.w, .int .i64 t.d.b] 37)).alloc (.cells #[.int .i64 d.t, .int .i64 d.n, .int .i64 d.e, .int .i64 d.s, .int .i64 d.w, .int .i64 d.b] 29)) := by go_grown
  go_enter Tryd.func13, Tryd.ntmps13
  go_wp2_with fail
  generalize (w.alloc (.cells #[.int .i64 t.x, .int .i64 t.y, .int .i64 t.d.t, .int .i64 t.d.n, .int .i64 t.d.e, .int .i64 t.d.s, .int .i64 t.d.w, .int .i64 t.d.b] 37)).alloc (.cells #[.int .i64 d.t, .int .i64 d.n, .int .i64 d.e, .int .i64 d.s, .int .i64 d.w, .int .i64 d.b] 29) = w1 at I1 J1 Q1 ⊢
  refine (isOnSide_any t.x _).mono ?_
  rintro e w2 ⟨rfl, rfl⟩
  rw [H1.out]
  have I2 := I1
  have J2 := J1
  have Q2 := Q1
  clear I1 J1 Q1
  go_wp2
  go_returns
  exact ⟨rfl, Q2⟩

set_option maxHeartbeats 1600000 in
theorem implPO_no2 (t : St) (d : D) (w : World) (h1 : inS t.x = true) (h2 : inS t.y = false) : Calls Tryd.prog 13 #[St.v t, D.v d] w fun e w' => e = .returned (.tuple #[.int .i64 0, .bool false]) ∧ Below w.heap.size w w' := by
  have H1 := hide h1
  have H2 := hide h2
  clear h1 h2
  have I1 := (IsS.new (w := w) (s := t) (ty := 37)).alloc (.cells #[.int .i64 d.t, .int .i64 d.n, .int .i64 d.e, .int .i64 d.s, .int .i64 d.w, .int .i64 d.b] 29)
  have J1 := IsD.new2 (w := w) (o := (.cells #[.int .i64 t.x, .int .i64 t.y, .int .i64 t.d.t, .int .i64 t.d.n, .int .i64 t.d.e, .int .i64 t.d.s, .int .i64 t.d.w, .int .i64 t.d.b] 37)) (d := d) (ty := 29)
  have Q1 : Below w.heap.size w ((w.alloc (.cells #[.int .i64 t.x, .int .i64 t.y, .int .i64 t.d.t, .int .i64 t.d.n, .int .i64 t.d.e, .int .i64 t.d.s, .int .i64 t.d.w, .int .i64 t.d.b] 37)).alloc (.cells #[.int .i64 d.t, .int .i64 d.n, .int .i64 d.e, .int .i64 d.s, .int .i64 d.w, .int .i64 d.b] 29)) := by go_grown
  go_enter Tryd.func13, Tryd.ntmps13
  go_wp2_with fail
  generalize (w.alloc (.cells #[.int .i64 t.x, .int .i64 t.y, .int .i64 t.d.t, .int .i64 t.d.n, .int .i64 t.d.e, .int .i64 t.d.s, .int .i64 t.d.w, .int .i64 t.d.b] 37)).alloc (.cells #[.int .i64 d.t, .int .i64 d.n, .int .i64 d.e, .int .i64 d.s, .int .i64 d.w, .int .i64 d.b] 29) = w1 at I1 J1 Q1 ⊢
  refine (isOnSide_any t.x _).mono ?_
  rintro e w2 ⟨rfl, rfl⟩
  rw [H1.out]
  have I2 := I1
  have J2 := J1
  have Q2 := Q1
  clear I1 J1 Q1
  obtain ⟨l2, ⟨a0, a1, a2, a3, a4, a5, a6, a7⟩, -⟩ := I2.all
  obtain ⟨m2, ⟨b0, b1, b2, b3, b4, b5⟩, -⟩ := J2.all
  go_wp2_with fail
  clear a0 a1 a2 a3 a4 a5 a6 a7 b0 b1 b2 b3 b4 b5 l2 m2
  refine (isOnSide_any t.y _).mono ?_
  rintro e w3 ⟨rfl, rfl⟩
  rw [H2.out]
  have I3 := I2
  have J3 := J2
  have Q3 := Q2
  clear I2 J2 Q2
  go_wp2
  go_returns
  exact ⟨rfl, Q3⟩

set_option maxHeartbeats 1600000 in
theorem implPO_no3 (t : St) (d : D) (w : World) (h1 : inS t.x = true) (h2 : inS t.y = true) (h3 : evF d t.d = false) : Calls Tryd.prog 13 #[St.v t, D.v d] w fun e w' => e = .returned (.tuple #[.int .i64 0, .bool false]) ∧ Below w.heap.size w w' := by
  have he : evB d t.d = false := by unfold evB; rw [h3]; rfl
  have HE := hide he
  clear he
  have H1 := hide h1
  have H2 := hide h2
  have H3 := hide h3
  clear h1 h2 h3
  have I1 := (IsS.new (w := w) (s := t) (ty := 37)).alloc (.cells #[.int .i64 d.t, .int .i64 d.n, .int .i64 d.e, .int .i64 d.s, .int .i64 d.w, .int .i64 d.b] 29)
  have J1 := IsD.new2 (w := w) (o := (.cells #[.int .i64 t.x, .int .i64 t.y, .int .i64 t.d.t, .int .i64 t.d.n, .int .i64 t.d.e, .int .i64 t.d.s, .int .i64 t.d.w, .int .i64 t.d.b] 37)) (d := d) (ty := 29)
  have Q1 : Below w.heap.size w ((w.alloc (.cells #[.int .i64 t.x, .int .i64 t.y, .int .i64 t.d.t, .int .i64 t.d.n, .int .i64 t.d.e, .int .i64 t.d.s, .int .i64 t.d.w, .int .i64 t.d.b] 37)).alloc (.cells #[.int .i64 d.t, .int .i64 d.n, .int .i64 d.e, .int .i64 d.s, .int .i64 d.w, .int .i64 d.b] 29)) := by go_grown
  go_enter Tryd.func13, Tryd.ntmps13
  go_wp2_with fail
  generalize (w.alloc (.cells #[.int .i64 t.x, .int .i64 t.y, .int .i64 t.d.t, .int .i64 t.d.n, .int .i64 t.d.e, .int .i64 t.d.s, .int .i64 t.d.w, .int .i64 t.d.b] 37)).alloc (.cells #[.int .i64 d.t, .int .i64 d.n, .int .i64 d.e, .int .i64 d.s, .int .i64 d.w, .int .i64 d.b] 29) = w1 at I1 J1 Q1 ⊢
  refine (isOnSide_any t.x _).mono ?_
  rintro e w2 ⟨rfl, rfl⟩
  rw [H1.out]
  have I2 := I1
  have J2 := J1
  have Q2 := Q1
  clear I1 J1 Q1
  obtain ⟨l2, ⟨a0, a1, a2, a3, a4, a5, a6, a7⟩, -⟩ := I2.all
  obtain ⟨m2, ⟨b0, b1, b2, b3, b4, b5⟩, -⟩ := J2.all
  go_wp2_with fail
  clear a0 a1 a2 a3 a4 a5 a6 a7 b0 b1 b2 b3 b4 b5 l2 m2
  refine (isOnSide_any t.y _).mono ?_
  rintro e w3 ⟨rfl, rfl⟩
  rw [H2.out]
  have I3 := I2
  have J3 := J2
  have Q3 := Q2
  clear I2 J2 Q2
  obtain ⟨l3, ⟨a0, a1, a2, a3, a4, a5, a6, a7⟩, -⟩ := I3.all
  obtain ⟨m3, ⟨b0, b1, b2, b3, b4, b5⟩, -⟩ := J3.all
  go_wp2_with fail
  clear a0 a1 a2 a3 a4 a5 a6 a7 b0 b1 b2 b3 b4 b5 l3 m3
  refine (implEV_any d t.d _).mono ?_
  rintro e w4 ⟨rfl, hb4⟩
  rw [H3.out, HE.out]
  have I4 := isS_to hb4 I3 rfl
  have J4 := isD_to hb4 J3 rfl
  have Q4 := below_to hb4 Q3 Q3.size rfl rfl rfl rfl
  clear hb4 I3 J3 Q3
  go_wp2
  go_returns
  exact ⟨rfl, Q4⟩

set_option maxHeartbeats 1600000 in
theorem implPO_even (t : St) (d : D) (w : World) (h1 : inS t.x = true) (h2 : inS t.y = true) (h3 : evF d t.d = true) (h4 : evB d t.d = true) : Calls Tryd.prog 13 #[St.v t, D.v d] w fun e w' => e = .returned (.tuple #[.int .i64 ((t.x + t.y) % 2), .bool true]) ∧ Below w.heap.size w w' := by
  have hx := of_decide_eq_true h1
  have hy := of_decide_eq_true h2
  have H1 := hide h1
  have H2 := hide h2
  have H3 := hide h3
  have H4 := hide h4
  clear h1 h2 h3 h4
  have w1q : IntKind.i64.wrap (t.x + t.y) = t.x + t.y := IntWalk.i64_in _ (by omega)
  have w2q : IntKind.i64.wrap (t.x + t.y + 1) = t.x + t.y + 1 := IntWalk.i64_in _ (by omega)
  have I1 := (IsS.new (w := w) (s := t) (ty := 37)).alloc (.cells #[.int .i64 d.t, .int .i64 d.n, .int .i64 d.e, .int .i64 d.s, .int .i64 d.w, .int .i64 d.b] 29)
  have J1 := IsD.new2 (w := w) (o := (.cells #[.int .i64 t.x, .int .i64 t.y, .int .i64 t.d.t, .int .i64 t.d.n, .int .i64 t.d.e, .int .i64 t.d.s, .int .i64 t.d.w, .int .i64 t.d.b] 37)) (d := d) (ty := 29)
  have Q1 : Below w.heap.size w ((w.alloc (.cells #[.int .i64 t.x, .int .i64 t.y, .int .i64 t.d.t, .int .i64 t.d.n, .int .i64 t.d.e, .int .i64 t.d.s, .int .i64 t.d.w, .int .i64 t.d.b] 37)).alloc (.cells #[.int .i64 d.t, .int .i64 d.n, .int .i64 d.e, .int .i64 d.s, .int .i64 d.w, .int .i64 d.b] 29)) := by go_grown
  go_enter Tryd.func13, Tryd.ntmps13
  go_wp2_with fail
  generalize (w.alloc (.cells #[.int .i64 t.x, .int .i64 t.y, .int .i64 t.d.t, .int .i64 t.d.n, .int .i64 t.d.e, .int .i64 t.d.s, .int .i64 t.d.w, .int .i64 t.d.b] 37)).alloc (.cells #[.int .i64 d.t, .int .i64 d.n, .int .i64 d.e, .int .i64 d.s, .int .i64 d.w, .int .i64 d.b] 29) = w1 at I1 J1 Q1 ⊢
  refine (isOnSide_any t.x _).mono ?_
  rintro e w2 ⟨rfl, rfl⟩
  rw [H1.out]
  have I2 := I1
  have J2 := J1
  have Q2 := Q1
  clear I1 J1 Q1
  obtain ⟨l2, ⟨a0, a1, a2, a3, a4, a5, a6, a7⟩, -⟩ := I2.all
  obtain ⟨m2, ⟨b0, b1, b2, b3, b4, b5⟩, -⟩ := J2.all
  go_wp2_with fail
  clear a0 a1 a2 a3 a4 a5 a6 a7 b0 b1 b2 b3 b4 b5 l2 m2
  refine (isOnSide_any t.y _).mono ?_
  rintro e w3 ⟨rfl, rfl⟩
  rw [H2.out]
  have I3 := I2
  have J3 := J2
  have Q3 := Q2
  clear I2 J2 Q2
  obtain ⟨l3, ⟨a0, a1, a2, a3, a4, a5, a6, a7⟩, -⟩ := I3.all
  obtain ⟨m3, ⟨b0, b1, b2, b3, b4, b5⟩, -⟩ := J3.all
  go_wp2_with fail
  clear a0 a1 a2 a3 a4 a5 a6 a7 b0 b1 b2 b3 b4 b5 l3 m3
  refine (implEV_any d t.d _).mono ?_
  rintro e w4 ⟨rfl, hb4⟩
  rw [H3.out, H4.out]
  have I4 := isS_to hb4 I3 rfl
  have J4 := isD_to hb4 J3 rfl
  have Q4 := below_to hb4 Q3 Q3.size rfl rfl rfl rfl
  clear hb4 I3 J3 Q3
  obtain ⟨l4, ⟨a0, a1, a2, a3, a4, a5, a6, a7⟩, -⟩ := I4.all
  obtain ⟨m4, ⟨b0, b1, b2, b3, b4, b5⟩, -⟩ := J4.all
  go_wp2
  go_returns
  exact ⟨rfl, Q4⟩

set_option maxHeartbeats 1600000 in
theorem implPO_odd (t : St) (d : D) (w : World) (h1 : inS t.x = true) (h2 : inS t.y = true) (h3 : evF d t.d = true) (h4 : evB d t.d = false) : Calls Tryd.prog 13 #[St.v t, D.v d] w fun e w' => e = .returned (.tuple #[.int .i64 ((t.x + t.y + 1) % 2), .bool true]) ∧ Below w.heap.size w w' := by
  have hx := of_decide_eq_true h1
  have hy := of_decide_eq_true h2
  have H1 := hide h1
  have H2 := hide h2
  have H3 := hide h3
  have H4 := hide h4
  clear h1 h2 h3 h4
  have w1q : IntKind.i64.wrap (t.x + t.y) = t.x + t.y := IntWalk.i64_in _ (by omega)
  have w2q : IntKind.i64.wrap (t.x + t.y + 1) = t.x + t.y + 1 := IntWalk.i64_in _ (by omega)
  have I1 := (IsS.new (w := w) (s := t) (ty := 37)).alloc (.cells #[.int .i64 d.t, .int .i64 d.n, .int .i64 d.e, .int .i64 d.s, .int .i64 d.w, .int .i64 d.b] 29)
  have J1 := IsD.new2 (w := w) (o := (.cells #[.int .i64 t.x, .int .i64 t.y, .int .i64 t.d.t, .int .i64 t.d.n, .int .i64 t.d.e, .int .i64 t.d.s, .int .i64 t.d.w, .int .i64 t.d.b] 37)) (d := d) (ty := 29)
  have Q1 : Below w.heap.size w ((w.alloc (.cells #[.int .i64 t.x, .int .i64 t.y, .int .i64 t.d.t, .int .i64 t.d.n, .int .i64 t.d.e, .int .i64 t.d.s, .int .i64 t.d.w, .int .i64 t.d.b] 37)).alloc (.cells #[.int .i64 d.t, .int .i64 d.n, .int .i64 d.e, .int .i64 d.s, .int .i64 d.w, .int .i64 d.b] 29)) := by go_grown
  go_enter Tryd.func13, Tryd.ntmps13
  go_wp2_with fail
  generalize (w.alloc (.cells #[.int .i64 t.x, .int .i64 t.y, .int .i64 t.d.t, .int .i64 t.d.n, .int .i64 t.d.e, .int .i64 t.d.s, .int .i64 t.d.w, .int .i64 t.d.b] 37)).alloc (.cells #[.int .i64 d.t, .int .i64 d.n, .int .i64 d.e, .int .i64 d.s, .int .i64 d.w, .int .i64 d.b] 29) = w1 at I1 J1 Q1 ⊢
  refine (isOnSide_any t.x _).mono ?_
  rintro e w2 ⟨rfl, rfl⟩
  rw [H1.out]
  have I2 := I1
  have J2 := J1
  have Q2 := Q1
  clear I1 J1 Q1
  obtain ⟨l2, ⟨a0, a1, a2, a3, a4, a5, a6, a7⟩, -⟩ := I2.all
  obtain ⟨m2, ⟨b0, b1, b2, b3, b4, b5⟩, -⟩ := J2.all
  go_wp2_with fail
  clear a0 a1 a2 a3 a4 a5 a6 a7 b0 b1 b2 b3 b4 b5 l2 m2
  refine (isOnSide_any t.y _).mono ?_
  rintro e w3 ⟨rfl, rfl⟩
  rw [H2.out]
  have I3 := I2
  have J3 := J2
  have Q3 := Q2
  clear I2 J2 Q2
  obtain ⟨l3, ⟨a0, a1, a2, a3, a4, a5, a6, a7⟩, -⟩ := I3.all
  obtain ⟨m3, ⟨b0, b1, b2, b3, b4, b5⟩, -⟩ := J3.all
  go_wp2_with fail
  clear a0 a1 a2 a3 a4 a5 a6 a7 b0 b1 b2 b3 b4 b5 l3 m3
  refine (implEV_any d t.d _).mono ?_
  rintro e w4 ⟨rfl, hb4⟩
  rw [H3.out, H4.out]
  have I4 := isS_to hb4 I3 rfl
  have J4 := isD_to hb4 J3 rfl
  have Q4 := below_to hb4 Q3 Q3.size rfl rfl rfl rfl
  clear hb4 I3 J3 Q3
  obtain ⟨l4, ⟨a0, a1, a2, a3, a4, a5, a6, a7⟩, -⟩ := I4.all
  obtain ⟨m4, ⟨b0, b1, b2, b3, b4, b5⟩, -⟩ := J4.all
  go_wp2
  go_returns
  exact ⟨rfl, Q4⟩

theorem specPO_any (t : St) (d : D) (w : World) : Calls Tryd.prog 11 #[St.v t, D.v d] w fun e w' => e = .returned (.tuple #[.int .i64 (poV t d), .bool (poF t d)]) ∧ Below w.heap.size w w' := by
  unfold poV
  cases h1 : evF d t.d
  · have e : poF t d = false := by simp [poF, h1]
    rw [e, if_neg (by decide)]
    exact specPO_no1 t d w h1
  · cases h2 : inS t.x
    · have e : poF t d = false := by simp [poF, h2]
      rw [e, if_neg (by decide)]
      exact specPO_no2 t d w h1 h2
    · cases h3 : inS t.y
      · have e : poF t d = false := by simp [poF, h3]
        rw [e, if_neg (by decide)]
        exact specPO_no3 t d w h1 h2 h3
      · have e : poF t d = true := by simp [poF, h1, h2, h3]
        rw [e, if_pos rfl]
        exact specPO_yes t d w h1 h2 h3
theorem implPO_any (t : St) (d : D) (w : World) : Calls Tryd.prog 13 #[St.v t, D.v d] w fun e w' => e = .returned (.tuple #[.int .i64 (poV t d), .bool (poF t d)]) ∧ Below w.heap.size w w' := by
  unfold poV
  cases h2 : inS t.x
  · have e : poF t d = false := by simp [poF, h2]
    rw [e, if_neg (by decide)]
    exact implPO_no1 t d w h2
  · cases h3 : inS t.y
    · have e : poF t d = false := by simp [poF, h3]
      rw [e, if_neg (by decide)]
      exact implPO_no2 t d w h2 h3
    · cases h1 : evF d t.d
      · have e : poF t d = false := by simp [poF, h1]
        rw [e, if_neg (by decide)]
        exact implPO_no3 t d w h2 h3 h1
      · have e : poF t d = true := by simp [poF, h1, h2, h3]
        rw [e, if_pos rfl, odV_even h1]
        cases h4 : evB d t.d
        · rw [if_neg (by decide)]
          exact implPO_odd t d w h2 h3 h1 h4
        · rw [if_pos rfl, Int.add_zero]
          exact implPO_even t d w h2 h3 h1 h4

set_option maxHeartbeats 3200000 in
theorem walk_ParityOfState (t : St) (d : D) (w : World) (_ : Glob w) : Calls Tryd.prog 5 #[St.v t, D.v d] w fun e w' => e = .returned (.bool true) ∧ Below w.heap.size w w' := by
  generalize hy : poV t d = y
  generalize hg : poF t d = g
  have HY := hide hy
  have HG := hide hg
  clear hy hg
  have hf : (g != g) = false := by simp
  go_enter Tryd.func5, Tryd.ntmps5
  go_wp2_with fail
  go_region_held3 (fun w' => w'.cell? ⟨w.heap.size, 0, none⟩ = some (.int .i64 t.x) ∧ w'.cell? ⟨w.heap.size, 1, none⟩ = some (.int .i64 t.y) ∧ w'.cell? ⟨w.heap.size, 2, none⟩ = some (.int .i64 t.d.t) ∧ w'.cell? ⟨w.heap.size, 3, none⟩ = some (.int .i64 t.d.n) ∧ w'.cell? ⟨w.heap.size, 4, none⟩ = some (.int .i64 t.d.e) ∧ w'.cell? ⟨w.heap.size, 5, none⟩ = some (.int .i64 t.d.s) ∧ w'.cell? ⟨w.heap.size, 6, none⟩ = some (.int .i64 t.d.w) ∧ w'.cell? ⟨w.heap.size, 7, none⟩ = some (.int .i64 t.d.b) ∧ w'.cell? ⟨w.heap.size + 1, 0, none⟩ = some (.int .i64 d.t) ∧ w'.cell? ⟨w.heap.size + 1, 1, none⟩ = some (.int .i64 d.n) ∧ w'.cell? ⟨w.heap.size + 1, 2, none⟩ = some (.int .i64 d.e) ∧ w'.cell? ⟨w.heap.size + 1, 3, none⟩ = some (.int .i64 d.s) ∧ w'.cell? ⟨w.heap.size + 1, 4, none⟩ = some (.int .i64 d.w) ∧ w'.cell? ⟨w.heap.size + 1, 5, none⟩ = some (.int .i64 d.b)) (first | (refine ⟨?_, ?_, ?_, ?_, ?_, ?_, ?_, ?_, ?_, ?_, ?_, ?_, ?_, ?_⟩ <;> with_reducible assumption) | (refine ⟨?_, ?_, ?_, ?_, ?_, ?_, ?_, ?_, ?_, ?_, ?_, ?_, ?_, ?_⟩ <;> assumption) | (simp [go_sem, World.cell?_alloc_past]))
    (first
      | (go_at_call 12; (with_reducible refine (toState_any t _).mono ?_); rintro e w1 ⟨rfl, hb1⟩; have Ic1 := isS_to hb1 ((IsS.new (w := w) (s := t) (ty := 33)).alloc _) rfl; have Ie1 := isD_to hb1 (IsD.new2 (w := w) (d := d) (ty := 26)) rfl; have Q1 : Below w.heap.size w w1 := below_after (by go_grown) hb1 (by simp; omega); obtain ⟨lc1, ⟨c01, c11, c21, c31, c41, c51, c61, c71⟩, -⟩ := Ic1.all; obtain ⟨le1, ⟨e01, e11, e21, e31, e41, e51⟩, -⟩ := Ie1.all; clear hb1)
      | (go_at_call 9; (with_reducible refine (toDie_any d _).mono ?_); rintro e w2 ⟨rfl, hb2⟩; have Ic2 := isS_to hb2 Ic1 rfl; have Ie2 := isD_to hb2 Ie1 rfl; have Q2 := below_to hb2 Q1 Q1.size rfl rfl rfl rfl; obtain ⟨lc2, ⟨c02, c12, c22, c32, c42, c52, c62, c72⟩, -⟩ := Ic2.all; obtain ⟨le2, ⟨e02, e12, e22, e32, e42, e52⟩, -⟩ := Ie2.all; clear hb2)
      | (go_at_call 11; (refine (specPO_any t d _).mono ?_); rintro e w3 ⟨rfl, hb3⟩; have Ic3 := isS_to hb3 Ic2 rfl; have Ie3 := isD_to hb3 Ie2 rfl; have Q3 := below_to hb3 Q2 Q2.size rfl rfl rfl rfl; obtain ⟨lc3, ⟨c03, c13, c23, c33, c43, c53, c63, c73⟩, -⟩ := Ic3.all; obtain ⟨le3, ⟨e03, e13, e23, e33, e43, e53⟩, -⟩ := Ie3.all; clear hb3))
  rw [HY.out, HG.out]
  clear c01 c11 c21 c31 c41 c51 c61 c71 e01 e11 e21 e31 e41 e51 c02 c12 c22 c32 c42 c52 c62 c72 e02 e12 e22 e32 e42 e52 lc1 le1 lc2 le2
  go_wp2_with fail
  go_region_held3 (fun w' => w'.cell? ⟨w.heap.size, 0, none⟩ = some (.int .i64 t.x) ∧ w'.cell? ⟨w.heap.size, 1, none⟩ = some (.int .i64 t.y) ∧ w'.cell? ⟨w.heap.size, 2, none⟩ = some (.int .i64 t.d.t) ∧ w'.cell? ⟨w.heap.size, 3, none⟩ = some (.int .i64 t.d.n) ∧ w'.cell? ⟨w.heap.size, 4, none⟩ = some (.int .i64 t.d.e) ∧ w'.cell? ⟨w.heap.size, 5, none⟩ = some (.int .i64 t.d.s) ∧ w'.cell? ⟨w.heap.size, 6, none⟩ = some (.int .i64 t.d.w) ∧ w'.cell? ⟨w.heap.size, 7, none⟩ = some (.int .i64 t.d.b) ∧ w'.cell? ⟨w.heap.size + 1, 0, none⟩ = some (.int .i64 d.t) ∧ w'.cell? ⟨w.heap.size + 1, 1, none⟩ = some (.int .i64 d.n) ∧ w'.cell? ⟨w.heap.size + 1, 2, none⟩ = some (.int .i64 d.e) ∧ w'.cell? ⟨w.heap.size + 1, 3, none⟩ = some (.int .i64 d.s) ∧ w'.cell? ⟨w.heap.size + 1, 4, none⟩ = some (.int .i64 d.w) ∧ w'.cell? ⟨w.heap.size + 1, 5, none⟩ = some (.int .i64 d.b)) (first | (refine ⟨?_, ?_, ?_, ?_, ?_, ?_, ?_, ?_, ?_, ?_, ?_, ?_, ?_, ?_⟩ <;> with_reducible assumption) | (refine ⟨?_, ?_, ?_, ?_, ?_, ?_, ?_, ?_, ?_, ?_, ?_, ?_, ?_, ?_⟩ <;> assumption) | (simp [go_sem, World.cell?_alloc_past]))
    (first
      | (go_at_call 12; (with_reducible refine (toState_any t _).mono ?_); rintro e w4 ⟨rfl, hb4⟩; have Ic4 := isS_to hb4 Ic3 rfl; have Ie4 := isD_to hb4 Ie3 rfl; have Q4 := below_to hb4 Q3 Q3.size rfl rfl rfl rfl; obtain ⟨lc4, ⟨c04, c14, c24, c34, c44, c54, c64, c74⟩, -⟩ := Ic4.all; obtain ⟨le4, ⟨e04, e14, e24, e34, e44, e54⟩, -⟩ := Ie4.all; clear hb4)
      | (go_at_call 9; (with_reducible refine (toDie_any d _).mono ?_); rintro e w5 ⟨rfl, hb5⟩; have Ic5 := isS_to hb5 Ic4 rfl; have Ie5 := isD_to hb5 Ie4 rfl; have Q5 := below_to hb5 Q4 Q4.size rfl rfl rfl rfl; obtain ⟨lc5, ⟨c05, c15, c25, c35, c45, c55, c65, c75⟩, -⟩ := Ic5.all; obtain ⟨le5, ⟨e05, e15, e25, e35, e45, e55⟩, -⟩ := Ie5.all; clear hb5)
      | (go_at_call 13; (refine (implPO_any t d _).mono ?_); rintro e w6 ⟨rfl, hb6⟩; have Ic6 := isS_to hb6 Ic5 rfl; have Ie6 := isD_to hb6 Ie5 rfl; have Q6 := below_to hb6 Q5 Q5.size rfl rfl rfl rfl; obtain ⟨lc6, ⟨c06, c16, c26, c36, c46, c56, c66, c76⟩, -⟩ := Ic6.all; obtain ⟨le6, ⟨e06, e16, e26, e36, e46, e56⟩, -⟩ := Ie6.all; clear hb6))
  rw [HY.out, HG.out]
  clear c03 c13 c23 c33 c43 c53 c63 c73 e03 e13 e23 e33 e43 e53 c04 c14 c24 c34 c44 c54 c64 c74 e04 e14 e24 e34 e44 e54 lc3 le3 lc4 le4
  go_wp2
  go_returns
  exact ⟨rfl, Q6⟩
end Go.Proofs.YtnncehifmaaeiaaDoor
