/- Rows of states: eqStateS, markStateS, heldStateS; the walks of the law of StatesAlong. -/
import Derived.Test.YtballmdcalfdnaaDoorWalksTA
namespace Go.Proofs.YtballmdcalfdnaaDoor
set_option maxRecDepth 100000
set_option linter.all false
open Go.RowKit

/-- A row whose first j cells are k, k + 1, .. -/
def markV (k : Int) (xs : List Value) (j : Nat) : List Value := ints (upTo k j) ++ xs.drop j
theorem markV_zero (k : Int) (xs : List Value) : markV k xs 0 = xs := rfl
theorem markV_done (k : Int) (xs : List Value) : markV k xs xs.length = ints (upTo k xs.length) := by simp [markV]
theorem markV_set (k : Int) (xs : List Value) (j : Nat) (h : j < xs.length) : (markV k xs j).set j (.int .i64 (k + (j : Int))) = markV k xs (j + 1) := by
  unfold markV
  have hl : (ints (upTo k j)).length = j := by rw [ints_len, upTo_len]
  rw [List.set_append_right j _ (by omega), hl, Nat.sub_self, List.drop_eq_getElem_cons h]
  have hu : upTo k (j + 1) = upTo k j ++ [k + (j : Int)] := by unfold upTo; rw [List.range_succ, List.map_append]; rfl
  rw [hu, ints_snoc, List.append_assoc]
  rfl
theorem markV_len (k : Int) (xs : List Value) (j : Nat) (h : j ≤ xs.length) : (markV k xs j).length = xs.length := by
  simp [markV, ints_len, upTo_len]
  omega
/-- One cell is marked. -/
theorem mark_one {w : World} {B g n cap : Nat} {e : TypeId} {z : Nat} {k : Int} {xs : List Value} (j : Nat) (h : w.ownsRow B e z (.slice (some ⟨g, 0, none⟩) n cap) n (markV k xs j)) (hj : j < n * z) (hx : xs.length = n * z) :
    (∃ y, w.cell? ⟨g, j, none⟩ = some y) ∧ w.frozen? ⟨g, j, none⟩ = false ∧ (∀ m, m = k + (j : Int) → (w.setCell ⟨g, j, none⟩ (.int .i64 m)).ownsRow B e z (.slice (some ⟨g, 0, none⟩) n cap) n (markV k xs (j + 1))) := by
  refine ⟨?_, own_free h j, ?_⟩
  · rw [h.cellAt j hj]
    exact ⟨_, List.getElem?_eq_getElem (by have := h.1; omega)⟩
  · rintro m rfl
    have := own_put h j hj (.int .i64 (k + (j : Int)))
    rwa [markV_set k xs j (by omega)] at this
theorem upTo_cell {w : World} {B g n cap z N : Nat} {e : TypeId} {k : Int} (h : w.ownsRow B e z (.slice (some ⟨g, 0, none⟩) n cap) n (ints (upTo k N))) (hN : N = n * z) (j : Nat) (hj : j < N) : ∀ m, m = k + (j : Int) → w.cell? ⟨g, j, none⟩ = some (.int .i64 m) := by
  rintro m rfl
  rw [h.cellAt j (by omega)]
  simp [ints, upTo_get k N j hj]

theorem eqStateS_none (w : World) : Calls Tryd.prog 25 #[.slice none 0 0, .slice none 0 0] w fun e w' => e = .returned (.bool true) ∧ Below w.heap.size w w' := by
  go_enter Tryd.func25, Tryd.ntmps25
  go_wp2
  go_loop [5] (fun i => i = .int .i64 0) (fun _ => 0)
  case atStart => rfl
  case round =>
    subst hrel
    go_wp2
    go_returns
    exact ⟨rfl, Below.refl _ _⟩
theorem eqStateS_noneL (g cap : Nat) (w : World) : Calls Tryd.prog 25 #[.slice none 0 0, .slice (some ⟨g, 0, none⟩) 0 cap] w fun e w' => e = .returned (.bool true) ∧ Below w.heap.size w w' := by
  go_enter Tryd.func25, Tryd.ntmps25
  go_wp2
  go_loop [5] (fun i => i = .int .i64 0) (fun _ => 0)
  case atStart => rfl
  case round =>
    subst hrel
    go_wp2
    go_returns
    exact ⟨rfl, Below.refl _ _⟩
theorem eqStateS_noneR (g cap : Nat) (w : World) : Calls Tryd.prog 25 #[.slice (some ⟨g, 0, none⟩) 0 cap, .slice none 0 0] w fun e w' => e = .returned (.bool true) ∧ Below w.heap.size w w' := by
  go_enter Tryd.func25, Tryd.ntmps25
  go_wp2
  go_loop [5] (fun i => i = .int .i64 0) (fun _ => 0)
  case atStart => rfl
  case round =>
    subst hrel
    go_wp2
    go_returns
    exact ⟨rfl, Below.refl _ _⟩
set_option maxHeartbeats 1600000 in
theorem eqStateS_some (g cap h c2 n : Nat) (B B2 : Nat) (L : List St) (w : World) (hn : n ≤ 1000000000) (ha : w.ownsRow B 28 8 (.slice (some ⟨g, 0, none⟩) n cap) n (cellsS L)) (hb : w.ownsRow B2 28 8 (.slice (some ⟨h, 0, none⟩) n c2) n (cellsS L)) : Calls Tryd.prog 25 #[.slice (some ⟨g, 0, none⟩) n cap, .slice (some ⟨h, 0, none⟩) n c2] w fun e w' => e = .returned (.bool true) ∧ Below w.heap.size w w' := by
  have hl := ha.1
  rw [cellsS_len] at hl
  have HA := hide ha
  have HB := hide hb
  clear ha hb
  go_enter Tryd.func25, Tryd.ntmps25
  go_wp2
  go_loopw [5] (fun i wr => ∃ k : Nat, k ≤ n ∧ i = .int .i64 (k : Int) ∧ wr.ownsRow B 28 8 (.slice (some ⟨g, 0, none⟩) n cap) n (cellsS L) ∧ wr.ownsRow B2 28 8 (.slice (some ⟨h, 0, none⟩) n c2) n (cellsS L) ∧ Below w.heap.size w wr) (fun i _ => n - (intOf i).toNat)
  case atStart => exact ⟨0, Nat.zero_le _, rfl, HA.out, HB.out, Below.refl _ _⟩
  case round =>
    obtain ⟨k, hk, rfl, OA, OB, q⟩ := hrel
    clear HA HB
    by_cases hlt : k < n
    · have hx : L[k]? = some (L[k]'(by omega)) := List.getElem?_eq_getElem (by omega)
      generalize L[k]'(by omega) = u at hx
      obtain ⟨a0, a1, a2, a3, a4, a5, a6, a7⟩ := row_cells_at k OA hlt hx
      obtain ⟨b0, b1, b2, b3, b4, b5, b6, b7⟩ := row_cells_at k OB hlt hx
      have hki : (k : Int) < (n : Int) := by omega
      have HOA := hide OA
      have HOB := hide OB
      have HX := hide hx
      clear hx OA OB
      go_upto_region 6 with (fail)
      go_region_held3 (fun w' => w'.cell? ⟨g, k * 8, none⟩ = some (.int .i64 u.x) ∧ w'.cell? ⟨g, k * 8 + 1, none⟩ = some (.int .i64 u.y) ∧ w'.cell? ⟨g, k * 8 + 2, none⟩ = some (.int .i64 u.d.t) ∧ w'.cell? ⟨g, k * 8 + 3, none⟩ = some (.int .i64 u.d.n) ∧ w'.cell? ⟨g, k * 8 + 4, none⟩ = some (.int .i64 u.d.e) ∧ w'.cell? ⟨g, k * 8 + 5, none⟩ = some (.int .i64 u.d.s) ∧ w'.cell? ⟨g, k * 8 + 6, none⟩ = some (.int .i64 u.d.w) ∧ w'.cell? ⟨g, k * 8 + 7, none⟩ = some (.int .i64 u.d.b) ∧ w'.cell? ⟨h, k * 8, none⟩ = some (.int .i64 u.x) ∧ w'.cell? ⟨h, k * 8 + 1, none⟩ = some (.int .i64 u.y) ∧ w'.cell? ⟨h, k * 8 + 2, none⟩ = some (.int .i64 u.d.t) ∧ w'.cell? ⟨h, k * 8 + 3, none⟩ = some (.int .i64 u.d.n) ∧ w'.cell? ⟨h, k * 8 + 4, none⟩ = some (.int .i64 u.d.e) ∧ w'.cell? ⟨h, k * 8 + 5, none⟩ = some (.int .i64 u.d.s) ∧ w'.cell? ⟨h, k * 8 + 6, none⟩ = some (.int .i64 u.d.w) ∧ w'.cell? ⟨h, k * 8 + 7, none⟩ = some (.int .i64 u.d.b)) (first | (refine ⟨?_, ?_, ?_, ?_, ?_, ?_, ?_, ?_, ?_, ?_, ?_, ?_, ?_, ?_, ?_, ?_⟩ <;> with_reducible assumption) | (refine ⟨?_, ?_, ?_, ?_, ?_, ?_, ?_, ?_, ?_, ?_, ?_, ?_, ?_, ?_, ?_, ?_⟩ <;> assumption))
        (first
          | (go_at_call 13; (refine (eqState_self u _).mono ?_); rintro e w2 ⟨rfl, hb2⟩; have q2 := below_to hb2 q q.size rfl rfl rfl rfl; have OA2 := hide (own_to hb2 HOA.out rfl); have OB2 := hide (own_to hb2 HOB.out rfl); obtain ⟨a0, a1, a2, a3, a4, a5, a6, a7⟩ := row_cells_at k OA2.out hlt HX.out; obtain ⟨b0, b1, b2, b3, b4, b5, b6, b7⟩ := row_cells_at k OB2.out hlt HX.out; clear hb2))
      go_wp2
      go_roundw
      case rel => exact ⟨k + 1, by omega, by go_num, OA2.out, OB2.out, q2⟩
      case measure => simp [intOf] <;> omega
    · obtain rfl : k = n := by omega
      clear OA OB
      go_wp2
      go_returns
      exact ⟨rfl, q⟩
theorem eqStateS_any (va vb : Value) (n : Nat) (B B2 : Nat) (L : List St) (w : World) (hn : n ≤ 1000000000) (ha : w.ownsRow B 28 8 va n (cellsS L)) (hb : w.ownsRow B2 28 8 vb n (cellsS L)) : Calls Tryd.prog 25 #[va, vb] w fun e w' => e = .returned (.bool true) ∧ Below w.heap.size w w' := by
  rcases own_forms ha with ⟨rfl, rfl⟩ | ⟨g, cap, rfl, _, _⟩
  · rcases own_forms hb with ⟨rfl, _⟩ | ⟨g, cap, rfl, _, _⟩
    · exact eqStateS_none w
    · exact eqStateS_noneL g cap w
  · rcases own_forms hb with ⟨rfl, rfl⟩ | ⟨g2, cap2, rfl, _, _⟩
    · exact eqStateS_noneR g cap w
    · exact eqStateS_some g cap g2 cap2 n B B2 L w hn ha hb
theorem markStateS_none (k : Int) (w : World) : Calls Tryd.prog 26 #[.slice none 0 0, .int .i64 k] w fun e w' => e = .returned (.int .i64 k) ∧ w = w' := by
  go_enter Tryd.func26, Tryd.ntmps26
  go_wp2
  go_loop [1, 5] (fun x i => x = .int .i64 k ∧ i = .int .i64 0) (fun _ _ => 0)
  case atStart => exact ⟨rfl, rfl⟩
  case round =>
    obtain ⟨rfl, rfl⟩ := hrel
    go_wp2
    go_returns
    exact ⟨rfl, rfl⟩
theorem heldStateS_none (k : Int) (w : World) : Calls Tryd.prog 27 #[.slice none 0 0, .int .i64 k] w fun e w' => e = .returned (.int .i64 k) ∧ w = w' := by
  go_enter Tryd.func27, Tryd.ntmps27
  go_wp2
  go_loop [1, 5] (fun x i => x = .int .i64 k ∧ i = .int .i64 0) (fun _ _ => 0)
  case atStart => exact ⟨rfl, rfl⟩
  case round =>
    obtain ⟨rfl, rfl⟩ := hrel
    go_wp2
    go_returns
    exact ⟨rfl, rfl⟩
set_option maxHeartbeats 3200000 in
theorem markStateS_some (g cap n : Nat) (B : Nat) (xs : List Value) (k0 : Int) (w : World) (hn : n ≤ 1000000) (hk0 : 0 ≤ k0 ∧ k0 ≤ 1000000) (hB : B ≤ g) (ha : w.ownsRow B 28 8 (.slice (some ⟨g, 0, none⟩) n cap) n xs) : Calls Tryd.prog 26 #[.slice (some ⟨g, 0, none⟩) n cap, .int .i64 k0] w fun e w' => e = .returned (.int .i64 (k0 + ((n * 8 : Nat) : Int))) ∧ w'.ownsRow B 28 8 (.slice (some ⟨g, 0, none⟩) n cap) n (ints (upTo k0 (n * 8))) ∧ Below B w w' := by
  have hl := ha.1
  have HA := hide ha
  clear ha
  go_enter Tryd.func26, Tryd.ntmps26
  go_wp2
  go_loopw [1, 5] (fun x i wr => ∃ k : Nat, k ≤ n ∧ i = .int .i64 (k : Int) ∧ x = .int .i64 (k0 + ((k * 8 : Nat) : Int)) ∧ wr.ownsRow B 28 8 (.slice (some ⟨g, 0, none⟩) n cap) n (markV k0 xs (k * 8)) ∧ Below B w wr) (fun _ i _ => n - (intOf i).toNat)
  case atStart => exact ⟨0, Nat.zero_le _, rfl, by rw [show k0 + ((0 * 8 : Nat) : Int) = k0 from by omega], HA.out, Below.refl _ _⟩
  case round =>
    obtain ⟨k, hk, rfl, rfl, O0, q0⟩ := hrel
    clear HA
    by_cases hlt : k < n
    · obtain ⟨m0, e0⟩ : ∃ x, x = k0 + ((k * 8 : Nat) : Int) := ⟨_, rfl⟩
      rw [← e0]
      obtain ⟨m1, e1⟩ : ∃ x, x = m0 + 1 := ⟨_, rfl⟩
      have r1 : IntKind.i64.wrap (m0 + 1) = m1 := by rw [e1]; exact IntWalk.i64_in _ (by omega)
      obtain ⟨m2, e2⟩ : ∃ x, x = m1 + 1 := ⟨_, rfl⟩
      have r2 : IntKind.i64.wrap (m1 + 1) = m2 := by rw [e2]; exact IntWalk.i64_in _ (by omega)
      obtain ⟨m3, e3⟩ : ∃ x, x = m2 + 1 := ⟨_, rfl⟩
      have r3 : IntKind.i64.wrap (m2 + 1) = m3 := by rw [e3]; exact IntWalk.i64_in _ (by omega)
      obtain ⟨m4, e4⟩ : ∃ x, x = m3 + 1 := ⟨_, rfl⟩
      have r4 : IntKind.i64.wrap (m3 + 1) = m4 := by rw [e4]; exact IntWalk.i64_in _ (by omega)
      obtain ⟨m5, e5⟩ : ∃ x, x = m4 + 1 := ⟨_, rfl⟩
      have r5 : IntKind.i64.wrap (m4 + 1) = m5 := by rw [e5]; exact IntWalk.i64_in _ (by omega)
      obtain ⟨m6, e6⟩ : ∃ x, x = m5 + 1 := ⟨_, rfl⟩
      have r6 : IntKind.i64.wrap (m5 + 1) = m6 := by rw [e6]; exact IntWalk.i64_in _ (by omega)
      obtain ⟨m7, e7⟩ : ∃ x, x = m6 + 1 := ⟨_, rfl⟩
      have r7 : IntKind.i64.wrap (m6 + 1) = m7 := by rw [e7]; exact IntWalk.i64_in _ (by omega)
      obtain ⟨m8, e8⟩ : ∃ x, x = m7 + 1 := ⟨_, rfl⟩
      have r8 : IntKind.i64.wrap (m7 + 1) = m8 := by rw [e8]; exact IntWalk.i64_in _ (by omega)
      have E0 := hide e0
      have E1 := hide e1
      have E2 := hide e2
      have E3 := hide e3
      have E4 := hide e4
      have E5 := hide e5
      have E6 := hide e6
      have E7 := hide e7
      have E8 := hide e8
      clear e0 e1 e2 e3 e4 e5 e6 e7 e8
      have hki : (k : Int) < (n : Int) := by omega
      have O0 : wr.ownsRow B 28 8 (.slice (some ⟨g, 0, none⟩) n cap) n (markV k0 xs (k * 8 + 0)) := O0
      obtain ⟨⟨y0, c0⟩, f0, P0⟩ := mark_one (k * 8 + 0) O0 (by omega) (by omega)
      have O1 := P0 m0 (by rw [E0.out]; omega)
      have q1 := q0.setCell (p := ⟨g, k * 8 + 0, none⟩) hB (.int .i64 m0)
      clear P0 O0 q0
      try rw [Nat.add_zero] at c0 f0 O1 q1
      go_upto_region 6 with (fail)
      clear c0 f0
      generalize World.setCell _ _ _ = W1 at O1 q1 ⊢
      obtain ⟨⟨y1, c1⟩, f1, P1⟩ := mark_one (k * 8 + 1) O1 (by omega) (by omega)
      have O2 := P1 m1 (by rw [E1.out, E0.out]; omega)
      have q2 := q1.setCell (p := ⟨g, k * 8 + 1, none⟩) hB (.int .i64 m1)
      clear P1 O1 q1
      try rw [Nat.add_zero] at c1 f1 O2 q2
      go_upto_region 8 with (fail)
      clear c1 f1
      generalize World.setCell _ _ _ = W2 at O2 q2 ⊢
      obtain ⟨⟨y2, c2⟩, f2, P2⟩ := mark_one (k * 8 + 2) O2 (by omega) (by omega)
      have O3 := P2 m2 (by rw [E2.out, E1.out, E0.out]; omega)
      have q3 := q2.setCell (p := ⟨g, k * 8 + 2, none⟩) hB (.int .i64 m2)
      clear P2 O2 q2
      try rw [Nat.add_zero] at c2 f2 O3 q3
      go_upto_region 10 with (fail)
      clear c2 f2
      generalize World.setCell _ _ _ = W3 at O3 q3 ⊢
      obtain ⟨⟨y3, c3⟩, f3, P3⟩ := mark_one (k * 8 + 3) O3 (by omega) (by omega)
      have O4 := P3 m3 (by rw [E3.out, E2.out, E1.out, E0.out]; omega)
      have q4 := q3.setCell (p := ⟨g, k * 8 + 3, none⟩) hB (.int .i64 m3)
      clear P3 O3 q3
      try rw [Nat.add_zero] at c3 f3 O4 q4
      go_upto_region 12 with (fail)
      clear c3 f3
      generalize World.setCell _ _ _ = W4 at O4 q4 ⊢
      obtain ⟨⟨y4, c4⟩, f4, P4⟩ := mark_one (k * 8 + 4) O4 (by omega) (by omega)
      have O5 := P4 m4 (by rw [E4.out, E3.out, E2.out, E1.out, E0.out]; omega)
      have q5 := q4.setCell (p := ⟨g, k * 8 + 4, none⟩) hB (.int .i64 m4)
      clear P4 O4 q4
      try rw [Nat.add_zero] at c4 f4 O5 q5
      go_upto_region 14 with (fail)
      clear c4 f4
      generalize World.setCell _ _ _ = W5 at O5 q5 ⊢
      obtain ⟨⟨y5, c5⟩, f5, P5⟩ := mark_one (k * 8 + 5) O5 (by omega) (by omega)
      have O6 := P5 m5 (by rw [E5.out, E4.out, E3.out, E2.out, E1.out, E0.out]; omega)
      have q6 := q5.setCell (p := ⟨g, k * 8 + 5, none⟩) hB (.int .i64 m5)
      clear P5 O5 q5
      try rw [Nat.add_zero] at c5 f5 O6 q6
      go_upto_region 16 with (fail)
      clear c5 f5
      generalize World.setCell _ _ _ = W6 at O6 q6 ⊢
      obtain ⟨⟨y6, c6⟩, f6, P6⟩ := mark_one (k * 8 + 6) O6 (by omega) (by omega)
      have O7 := P6 m6 (by rw [E6.out, E5.out, E4.out, E3.out, E2.out, E1.out, E0.out]; omega)
      have q7 := q6.setCell (p := ⟨g, k * 8 + 6, none⟩) hB (.int .i64 m6)
      clear P6 O6 q6
      try rw [Nat.add_zero] at c6 f6 O7 q7
      go_upto_region 18 with (fail)
      clear c6 f6
      generalize World.setCell _ _ _ = W7 at O7 q7 ⊢
      obtain ⟨⟨y7, c7⟩, f7, P7⟩ := mark_one (k * 8 + 7) O7 (by omega) (by omega)
      have O8 := P7 m7 (by rw [E7.out, E6.out, E5.out, E4.out, E3.out, E2.out, E1.out, E0.out]; omega)
      have q8 := q7.setCell (p := ⟨g, k * 8 + 7, none⟩) hB (.int .i64 m7)
      clear P7 O7 q7
      try rw [Nat.add_zero] at c7 f7 O8 q8
      go_upto_region 3 with (fail)
      clear c7 f7
      generalize World.setCell _ _ _ = W8 at O8 q8 ⊢
      have HO := hide O8
      clear O8
      go_wp2
      go_roundw
      case rel => exact ⟨k + 1, by omega, by go_num, by rw [E8.out, E7.out, E6.out, E5.out, E4.out, E3.out, E2.out, E1.out, E0.out]; congr 1; omega, by rw [show (k + 1) * 8 = k * 8 + 7 + 1 from by omega]; exact HO.out, q8⟩
      case measure => simp [intOf] <;> omega
    · obtain rfl : k = n := by omega
      rw [← hl, markV_done, hl] at O0
      have HO := hide O0
      clear O0
      go_wp2
      go_returns
      exact ⟨rfl, HO.out, q0⟩
set_option maxHeartbeats 3200000 in
theorem heldStateS_some (g cap n : Nat) (B : Nat) (k0 : Int) (w : World) (hn : n ≤ 1000000) (hk0 : 0 ≤ k0 ∧ k0 ≤ 1000000) (ha : w.ownsRow B 28 8 (.slice (some ⟨g, 0, none⟩) n cap) n (ints (upTo k0 (n * 8)))) : Calls Tryd.prog 27 #[.slice (some ⟨g, 0, none⟩) n cap, .int .i64 k0] w fun e w' => e = .returned (.int .i64 (k0 + ((n * 8 : Nat) : Int))) ∧ w = w' := by
  have HA := hide ha
  clear ha
  go_enter Tryd.func27, Tryd.ntmps27
  go_wp2
  go_loop [1, 5] (fun x i => ∃ k : Nat, k ≤ n ∧ i = .int .i64 (k : Int) ∧ x = .int .i64 (k0 + ((k * 8 : Nat) : Int))) (fun _ i => n - (intOf i).toNat)
  case atStart => exact ⟨0, Nat.zero_le _, rfl, by rw [show k0 + ((0 * 8 : Nat) : Int) = k0 from by omega]⟩
  case round =>
    obtain ⟨k, hk, rfl, rfl⟩ := hrel
    by_cases hlt : k < n
    · obtain ⟨m0, e0⟩ : ∃ x, x = k0 + ((k * 8 : Nat) : Int) := ⟨_, rfl⟩
      rw [← e0]
      obtain ⟨m1, e1⟩ : ∃ x, x = m0 + 1 := ⟨_, rfl⟩
      have r1 : IntKind.i64.wrap (m0 + 1) = m1 := by rw [e1]; exact IntWalk.i64_in _ (by omega)
      obtain ⟨m2, e2⟩ : ∃ x, x = m1 + 1 := ⟨_, rfl⟩
      have r2 : IntKind.i64.wrap (m1 + 1) = m2 := by rw [e2]; exact IntWalk.i64_in _ (by omega)
      obtain ⟨m3, e3⟩ : ∃ x, x = m2 + 1 := ⟨_, rfl⟩
      have r3 : IntKind.i64.wrap (m2 + 1) = m3 := by rw [e3]; exact IntWalk.i64_in _ (by omega)
      obtain ⟨m4, e4⟩ : ∃ x, x = m3 + 1 := ⟨_, rfl⟩
      have r4 : IntKind.i64.wrap (m3 + 1) = m4 := by rw [e4]; exact IntWalk.i64_in _ (by omega)
      obtain ⟨m5, e5⟩ : ∃ x, x = m4 + 1 := ⟨_, rfl⟩
      have r5 : IntKind.i64.wrap (m4 + 1) = m5 := by rw [e5]; exact IntWalk.i64_in _ (by omega)
      obtain ⟨m6, e6⟩ : ∃ x, x = m5 + 1 := ⟨_, rfl⟩
      have r6 : IntKind.i64.wrap (m5 + 1) = m6 := by rw [e6]; exact IntWalk.i64_in _ (by omega)
      obtain ⟨m7, e7⟩ : ∃ x, x = m6 + 1 := ⟨_, rfl⟩
      have r7 : IntKind.i64.wrap (m6 + 1) = m7 := by rw [e7]; exact IntWalk.i64_in _ (by omega)
      obtain ⟨m8, e8⟩ : ∃ x, x = m7 + 1 := ⟨_, rfl⟩
      have r8 : IntKind.i64.wrap (m7 + 1) = m8 := by rw [e8]; exact IntWalk.i64_in _ (by omega)
      have E0 := hide e0
      have E1 := hide e1
      have E2 := hide e2
      have E3 := hide e3
      have E4 := hide e4
      have E5 := hide e5
      have E6 := hide e6
      have E7 := hide e7
      have E8 := hide e8
      clear e0 e1 e2 e3 e4 e5 e6 e7 e8
      have hki : (k : Int) < (n : Int) := by omega
      have c0 := upTo_cell HA.out rfl (k * 8 + 0) (by omega) m0 (by rw [E0.out]; omega)
      have c1 := upTo_cell HA.out rfl (k * 8 + 1) (by omega) m1 (by rw [E1.out, E0.out]; omega)
      have c2 := upTo_cell HA.out rfl (k * 8 + 2) (by omega) m2 (by rw [E2.out, E1.out, E0.out]; omega)
      have c3 := upTo_cell HA.out rfl (k * 8 + 3) (by omega) m3 (by rw [E3.out, E2.out, E1.out, E0.out]; omega)
      have c4 := upTo_cell HA.out rfl (k * 8 + 4) (by omega) m4 (by rw [E4.out, E3.out, E2.out, E1.out, E0.out]; omega)
      have c5 := upTo_cell HA.out rfl (k * 8 + 5) (by omega) m5 (by rw [E5.out, E4.out, E3.out, E2.out, E1.out, E0.out]; omega)
      have c6 := upTo_cell HA.out rfl (k * 8 + 6) (by omega) m6 (by rw [E6.out, E5.out, E4.out, E3.out, E2.out, E1.out, E0.out]; omega)
      have c7 := upTo_cell HA.out rfl (k * 8 + 7) (by omega) m7 (by rw [E7.out, E6.out, E5.out, E4.out, E3.out, E2.out, E1.out, E0.out]; omega)
      rw [Nat.add_zero] at c0
      have w1q : IntKind.i64.wrap ((k : Int) + 1) = (k : Int) + 1 := IntWalk.i64_in _ (by omega)
      go_wp2
      go_round
      case rel => exact ⟨k + 1, by omega, by go_num, by rw [E8.out, E7.out, E6.out, E5.out, E4.out, E3.out, E2.out, E1.out, E0.out]; congr 1; omega⟩
      case measure => simp [intOf] <;> omega
    · obtain rfl : k = n := by omega
      go_wp2
      go_returns
      exact ⟨rfl, rfl⟩
theorem markStateS_any (va : Value) (n : Nat) (B : Nat) (L : List St) (k0 : Int) (w : World) (hn : n ≤ 1000000) (hk0 : 0 ≤ k0 ∧ k0 ≤ 1000000) (ha : w.ownsRow B 28 8 va n (cellsS L)) : Calls Tryd.prog 26 #[va, .int .i64 k0] w fun e w' => e = .returned (.int .i64 (k0 + ((n * 8 : Nat) : Int))) ∧ w'.ownsRow B 28 8 va n (ints (upTo k0 (n * 8))) ∧ Below B w w' := by
  rcases own_forms ha with ⟨rfl, rfl⟩ | ⟨g, cap, rfl, hB, _⟩
  · refine (markStateS_none k0 w).mono ?_
    rintro e w' ⟨rfl, rfl⟩
    exact ⟨by rw [show k0 + ((0 * 8 : Nat) : Int) = k0 from by omega], World.ownsRow_nil _ _ _ _, Below.refl _ _⟩
  · exact markStateS_some g cap n B _ k0 w hn hk0 hB ha
theorem heldStateS_any (va : Value) (n : Nat) (B : Nat) (k0 : Int) (w : World) (hn : n ≤ 1000000) (hk0 : 0 ≤ k0 ∧ k0 ≤ 1000000) (ha : w.ownsRow B 28 8 va n (ints (upTo k0 (n * 8)))) : Calls Tryd.prog 27 #[va, .int .i64 k0] w fun e w' => e = .returned (.int .i64 (k0 + ((n * 8 : Nat) : Int))) ∧ w = w' := by
  rcases own_forms ha with ⟨rfl, rfl⟩ | ⟨g, cap, rfl, hB, _⟩
  · refine (heldStateS_none k0 w).mono ?_
    rintro e w' ⟨rfl, rfl⟩
    exact ⟨by rw [show k0 + ((0 * 8 : Nat) : Int) = k0 from by omega], rfl⟩
  · exact heldStateS_some g cap n B k0 w hn hk0 ha

set_option maxHeartbeats 1600000 in
theorem specSA_bad (s : ByteArray) (t : St) (v : ByteArray) (w : World) (hs : s.size ≤ 1048576) (hv : v.size ≤ maxLen) (h : isBd s.data.toList = false) : Calls Tryd.prog 23 #[.string s, St.v t, .string v] w (fun e w' => e = .returned (.tuple #[.slice none 0 0, .bool false]) ∧ Below w.heap.size w w') := by
  have H := hide h
  clear h
  go_enter Tryd.func23, Tryd.ntmps23
  go_wp2_with fail
  refine (boWay_bad s t v _ hs hv H.out).mono ?_
  rintro e w1 ⟨rfl, hb1⟩
  have q0 : Below w.heap.size w w1 := below_after (by go_grown) hb1 (by simp)
  clear hb1
  go_wp2
  go_returns
  exact ⟨rfl, q0⟩

set_option maxHeartbeats 1600000 in
theorem specSA_off (s : ByteArray) (t : St) (v : ByteArray) (w : World) (hs : s.size ≤ 1048576) (hv : v.size ≤ maxLen) (h : isBd s.data.toList = true) (h2 : stL s.data.toList t = false) : Calls Tryd.prog 23 #[.string s, St.v t, .string v] w (fun e w' => e = .returned (.tuple #[.slice none 0 0, .bool false]) ∧ Below w.heap.size w w') := by
  have H := hide h
  have HST := hide h2
  clear h h2
  go_enter Tryd.func23, Tryd.ntmps23
  go_wp2_with fail
  refine (boWay_off s t v _ hs hv H.out HST.out).mono ?_
  rintro e w1 ⟨rfl, hb1⟩
  have q0 : Below w.heap.size w w1 := below_after (by go_grown) hb1 (by simp)
  clear hb1
  go_wp2
  go_returns
  exact ⟨rfl, q0⟩

set_option maxHeartbeats 1600000 in
theorem specSA_word (s : ByteArray) (t : St) (v : ByteArray) (w : World) (hs : s.size ≤ 1048576) (hv : v.size ≤ maxLen) (h : isBd s.data.toList = true) (h2 : stL s.data.toList t = true) (h3 : isWord v.data.toList = false) : Calls Tryd.prog 23 #[.string s, St.v t, .string v] w (fun e w' => e = .returned (.tuple #[.slice none 0 0, .bool false]) ∧ Below w.heap.size w w') := by
  have H := hide h
  have HST := hide h2
  have HW := hide h3
  clear h h2 h3
  go_enter Tryd.func23, Tryd.ntmps23
  go_wp2_with fail
  refine (boWay_word s t v _ hs hv H.out HST.out HW.out).mono ?_
  rintro e w1 ⟨rfl, hb1⟩
  have q0 : Below w.heap.size w w1 := below_after (by go_grown) hb1 (by simp)
  clear hb1
  go_wp2
  go_returns
  exact ⟨rfl, q0⟩

set_option maxHeartbeats 1600000 in
theorem specSA_short (s : ByteArray) (t : St) (v : ByteArray) (w : World) (hs : s.size ≤ 1048576) (hv : v.size ≤ maxLen) (h : isBd s.data.toList = true) (h2 : stL s.data.toList t = true) (h3 : isWord v.data.toList = true) (h4 : stopT s.data.toList t v.data.toList ≠ v.size) : Calls Tryd.prog 23 #[.string s, St.v t, .string v] w (fun e w' => e = .returned (.tuple #[.slice none 0 0, .bool false]) ∧ Below w.heap.size w w') := by
  have hlen : v.size ≤ 60 := by have := isWord_len h3; simpa using this
  have HK := hide h4
  have H := hide h
  have HST := hide h2
  have HW := hide h3
  clear h h2 h3 h4
  go_enter Tryd.func23, Tryd.ntmps23
  go_wp2_with fail
  refine (boWay_short s t v _ hs hv H.out HST.out HW.out HK.out).mono ?_
  rintro e w1 ⟨rfl, hb1⟩
  have q0 : Below w.heap.size w w1 := below_after (by go_grown) hb1 (by simp)
  clear hb1
  go_wp2
  go_returns
  exact ⟨rfl, q0⟩

set_option maxHeartbeats 1600000 in
theorem specSA_all (s : ByteArray) (t : St) (v : ByteArray) (w : World) (hs : s.size ≤ 1048576) (hv : v.size ≤ maxLen) (h : isBd s.data.toList = true) (h2 : stL s.data.toList t = true) (h3 : isWord v.data.toList = true) (h4 : stopT s.data.toList t v.data.toList = v.size) : Calls Tryd.prog 23 #[.string s, St.v t, .string v] w (fun e w' => ∃ vv, e = .returned (.tuple #[vv, .bool true]) ∧ w'.ownsRow w.heap.size 28 8 vv (v.size + 1) (cellsS (waysT t v.data.toList v.size)) ∧ Below w.heap.size w w') := by
  have hlen : v.size ≤ 60 := by have := isWord_len h3; simpa using this
  have HK := hide h4
  have H := hide h
  have HST := hide h2
  have HW := hide h3
  clear h h2 h3 h4
  go_enter Tryd.func23, Tryd.ntmps23
  go_wp2_with fail
  refine (boWay_all s t v _ hs hv H.out HST.out HW.out HK.out).mono ?_
  rintro e w1 ⟨gq, cq, rfl, hown, hb1⟩
  have q0 : Below w.heap.size w w1 := below_after (by go_grown) hb1 (by simp)
  have HO := hide (own_mono hown (show w.heap.size ≤ _ from by simp))
  clear hb1 hown
  go_wp2
  go_returns
  exact ⟨_, rfl, HO.out, q0⟩
/-- What StatesAlong answers. -/
def saV (l : List UInt8) (t : St) (L : List UInt8) : List St := if raB l t L = true then waysT t L L.length else []
theorem specSA_any (s : ByteArray) (t : St) (v : ByteArray) (w : World) (hs : s.size ≤ 1048576) (hv : v.size ≤ 1048576) : Calls Tryd.prog 23 #[.string s, St.v t, .string v] w (fun e w' => ∃ vv, e = .returned (.tuple #[vv, .bool (raB s.data.toList t v.data.toList)]) ∧ w'.ownsRow w.heap.size 28 8 vv (saV s.data.toList t v.data.toList).length (cellsS (saV s.data.toList t v.data.toList)) ∧ Below w.heap.size w w') := by
  unfold saV
  have hl : v.data.toList.length = v.size := by simp
  cases h : isBd s.data.toList
  · have e : raB s.data.toList t v.data.toList = false := by unfold raB; rw [h]; rfl
    rw [e, if_neg (by decide)]
    exact (specSA_bad s t v w hs (bigLen hv) h).mono fun e w' h => ⟨_, h.1, World.ownsRow_nil _ _ _ _, h.2⟩
  · cases h2 : stL s.data.toList t
    · have e : raB s.data.toList t v.data.toList = false := by unfold raB; rw [h, h2]; rfl
      rw [e, if_neg (by decide)]
      exact (specSA_off s t v w hs (bigLen hv) h h2).mono fun e w' h => ⟨_, h.1, World.ownsRow_nil _ _ _ _, h.2⟩
    · cases h3 : isWord v.data.toList
      · have e : raB s.data.toList t v.data.toList = false := by unfold raB; rw [h, h2, h3]; rfl
        rw [e, if_neg (by decide)]
        exact (specSA_word s t v w hs (bigLen hv) h h2 h3).mono fun e w' h => ⟨_, h.1, World.ownsRow_nil _ _ _ _, h.2⟩
      · by_cases h4 : stopT s.data.toList t v.data.toList = v.size
        · have e : raB s.data.toList t v.data.toList = true := by unfold raB; rw [h, h2, h3, hl, h4]; simp
          rw [e, if_pos rfl, hl]
          rw [waysT_len]; exact specSA_all s t v w hs (bigLen hv) h h2 h3 h4
        · have e : raB s.data.toList t v.data.toList = false := by unfold raB; rw [h, h2, h3, hl]; simp [h4]
          rw [e, if_neg (by decide)]
          exact (specSA_short s t v w hs (bigLen hv) h h2 h3 h4).mono fun e w' h => ⟨_, h.1, World.ownsRow_nil _ _ _ _, h.2⟩
theorem implSA_any (s : ByteArray) (t : St) (v : ByteArray) (w : World) (hs : s.size ≤ 1048576) (hv : v.size ≤ 1048576) (hg : Glob w) : Calls Tryd.prog 24 #[.string s, St.v t, .string v] w (fun e w' => ∃ vv, e = .returned (.tuple #[vv, .bool (raB s.data.toList t v.data.toList)]) ∧ w'.ownsRow w.heap.size 28 8 vv (saV s.data.toList t v.data.toList).length (cellsS (saV s.data.toList t v.data.toList)) ∧ Below w.heap.size w w') := by
  unfold saV
  have hl : v.data.toList.length = v.size := by simp
  cases h : isBd s.data.toList
  · have e : raB s.data.toList t v.data.toList = false := by unfold raB; rw [h]; rfl
    rw [e, if_neg (by decide)]
    exact (sa_bad s t v w hs (bigLen hv) hg h).mono fun e w' h => ⟨_, h.1, World.ownsRow_nil _ _ _ _, h.2⟩
  · cases h2 : stL s.data.toList t
    · have e : raB s.data.toList t v.data.toList = false := by unfold raB; rw [h, h2]; rfl
      rw [e, if_neg (by decide)]
      exact (sa_off s t v w hs (bigLen hv) hg h h2).mono fun e w' h => ⟨_, h.1, World.ownsRow_nil _ _ _ _, h.2⟩
    · cases h3 : isWord v.data.toList
      · have e : raB s.data.toList t v.data.toList = false := by unfold raB; rw [h, h2, h3]; rfl
        rw [e, if_neg (by decide)]
        exact (sa_word s t v w hs (bigLen hv) hg h h2 h3).mono fun e w' h => ⟨_, h.1, World.ownsRow_nil _ _ _ _, h.2⟩
      · by_cases h4 : stopT s.data.toList t v.data.toList = v.size
        · have e : raB s.data.toList t v.data.toList = true := by unfold raB; rw [h, h2, h3, hl, h4]; simp
          rw [e, if_pos rfl, hl]
          rw [waysT_len]; exact (sa_all s t v w hs (bigLen hv) hg h h2 h3 h4).mono fun e w' h => ⟨_, h.choose_spec.1, h.choose_spec.2.1, h.choose_spec.2.2⟩
        · have e : raB s.data.toList t v.data.toList = false := by unfold raB; rw [h, h2, h3, hl]; simp [h4]
          rw [e, if_neg (by decide)]
          exact (sa_short s t v w hs (bigLen hv) hg h h2 h3 h4).mono fun e w' h => ⟨_, h.1, World.ownsRow_nil _ _ _ _, h.2⟩
theorem StatesAlong_len (v : ByteArray) (t : St) (u : ByteArray) : (saV v.data.toList t u.data.toList).length ≤ 100000 := by
  unfold saV
  split
  · rename_i h
    unfold raB at h
    simp only [Bool.and_eq_true] at h
    have := isWord_len h.2.2.1
    rw [waysT_len]
    omega
  · exact Nat.zero_le _

set_option maxHeartbeats 3200000 in
theorem walk_StatesAlong (v : ByteArray) (hv : v.size ≤ maxLen) (t : St) (htx : (Lit.int .i64 t.x).wf = true) (hty : (Lit.int .i64 t.y).wf = true) (u : ByteArray) (hu : u.size ≤ maxLen) (w : World) (hg : Glob w) : Calls Tryd.prog 7 #[.string v, St.v t, .string u] w fun e w' => e = .returned (.bool true) ∧ Below w.heap.size w w' := by
  have HGL := hide hg
  clear hg
  by_cases h0 : v.size ≤ 1048576
  · have HS0 := hide h0
    by_cases h1 : u.size ≤ 1048576
    · have HS1 := hide h1
      have hlen := hide (show (saV v.data.toList t u.data.toList).length ≤ 100000 from StatesAlong_len v t u)
      go_enter Tryd.func7, Tryd.ntmps7
      go_wp2_with fail
      refine (toState_any t _).mono ?_
      rintro e w1 ⟨rfl, hb1⟩
      have u1 := isS_to hb1 (IsS.new (w := w) (s := t) (ty := 25)) rfl
      have q1 : Below w.heap.size w w1 := below_after (by go_grown) hb1 (by simp)
      clear hb1
      go_wp2_with fail
      refine (specSA_any v t u _ HS0.out HS1.out).mono ?_
      rintro e w2 ⟨v0, rfl, O2, hb2⟩
      have u2 := isS_to hb2 u1 rfl
      have q2 := below_to hb2 q1 q1.size rfl rfl rfl rfl
      clear hb2 u1
      have HIM := hide (fun wx (hx : Glob wx) => implSA_any v t u wx HS0.out HS1.out hx)
      generalize (saV v.data.toList t u.data.toList) = Z at hlen O2 HIM
      generalize raB v.data.toList t u.data.toList = ok at HIM ⊢
      obtain ⟨l1, ⟨c0, c1, c2, c3, c4, c5, c6, c7⟩, -⟩ := u2.all
      go_wp2_with fail
      clear c0 c1 c2 c3 c4 c5 c6 c7 l1
      refine (toState_any t _).mono ?_
      rintro e w3 ⟨rfl, hb3⟩
      have u3 := isS_to hb3 u2 rfl
      have q3 := below_to hb3 q2 q2.size rfl rfl rfl rfl
      have O3 := own_to hb3 O2 rfl
      have hg3 := hide (show Glob w3 from by
        have hl := HGL.out.lt
        obtain ⟨m, hm⟩ := HGL.out
        exact ⟨m, (q3.cell (p := ⟨0, 0, none⟩) hl).trans hm⟩)
      have hlt3 : ∀ g, v0.ownBlock = some g → g < w3.heap.size := fun g hg => (O3.lt g hg).2
      clear hb3 u2 O2 q2
      go_wp2_with fail
      refine (HIM.out _ hg3.out).mono ?_
      rintro e w4 ⟨v1, rfl, G4, hb4⟩
      have u4 := isS_to hb4 u3 rfl
      have q4 := below_to hb4 q3 q3.size rfl rfl rfl rfl
      have O4 := own_to hb4 O3 rfl
      have hw3 : w.heap.size < w3.heap.size := u3.lt
      clear hb4 u3 O3 hg3
      go_wp2_with fail
      refine (eqStateS_any v1 v0 Z.length w3.heap.size w1.heap.size Z w4 (by have := hlen.out; omega) G4 O4).mono ?_
      rintro e w5 ⟨rfl, hb5⟩
      have u5 := isS_to hb5 u4 rfl
      have q5 := below_to hb5 q4 q4.size rfl rfl rfl rfl
      have O5 := own_to hb5 O4 rfl
      have G5 := own_to hb5 G4 rfl
      clear hb5 u4 O4 G4 q4
      have e1 : (ok != ok) = false := by simp
      go_wp2_with fail
      refine (markStateS_any v1 Z.length w3.heap.size Z 1 w5 (by have := hlen.out; omega) (by omega) G5).mono ?_
      rintro e w6 ⟨rfl, G6, hb6⟩
      have u6 : IsS w6 w.heap.size t 25 := (hb6.block _ hw3).trans u5
      have q6 : Below w.heap.size w w6 := q5.trans (hb6.mono (by omega))
      have O6 := own_below hb6 O5 hlt3
      clear hb6 u5 O5 G5 q5
      generalize hN : ((Z.length * 8 : Nat) : Int) = N at *
      have hN0 : 0 ≤ N := by omega
      have HN := hide hN
      clear hN
      go_wp2_with fail
      refine (heldStateS_any v1 Z.length w3.heap.size 1 w6 (by have := hlen.out; omega) (by omega) G6).mono ?_
      rintro e w7 ⟨rfl, rfl⟩
      rw [HN.out]
      have n1 : ¬ (1 + N < 0) := by omega
      have n2 : ((1 + N) != (1 + N)) = false := by simp
      obtain ⟨l1, ⟨c0, c1, c2, c3, c4, c5, c6, c7⟩, -⟩ := u6.all
      go_wp2_with fail
      clear c0 c1 c2 c3 c4 c5 c6 c7 l1
      refine (toState_any t _).mono ?_
      rintro e w8 ⟨rfl, hb8⟩
      have q8 := below_to hb8 q6 q6.size rfl rfl rfl rfl
      have O8 := own_to hb8 O6 rfl
      have G8 := own_to hb8 G6 rfl
      have hg8 := hide (show Glob w8 from by
        have hl := HGL.out.lt
        obtain ⟨m, hm⟩ := HGL.out
        exact ⟨m, (q8.cell (p := ⟨0, 0, none⟩) hl).trans hm⟩)
      clear hb8 u6 O6 G6 q6
      go_wp2_with fail
      refine (HIM.out _ hg8.out).mono ?_
      rintro e w9 ⟨v2, rfl, H9, hb9⟩
      have q9 := below_to hb9 q8 q8.size rfl rfl rfl rfl
      have O9 := own_to hb9 O8 rfl
      have G9 := own_to hb9 G8 rfl
      clear hb9 O8 G8 hg8 q8
      go_wp2_with fail
      refine (eqStateS_any v2 v0 Z.length w8.heap.size w1.heap.size Z w9 (by have := hlen.out; omega) H9 O9).mono ?_
      rintro e w10 ⟨rfl, hb10⟩
      have q10 := below_to hb10 q9 q9.size rfl rfl rfl rfl
      have G10 := own_to hb10 G9 rfl
      clear hb10 O9 G9 H9 q9
      go_wp2_with fail
      refine (heldStateS_any v1 Z.length w3.heap.size 1 w10 (by have := hlen.out; omega) (by omega) G10).mono ?_
      rintro e w11 ⟨rfl, rfl⟩
      rw [HN.out]
      go_wp2
      go_returns
      exact ⟨rfl, q10⟩
    · go_enter Tryd.func7, Tryd.ntmps7
      go_wp2
      go_returns
      exact ⟨rfl, by go_grown⟩
  · go_enter Tryd.func7, Tryd.ntmps7
    go_wp2
    go_returns
    exact ⟨rfl, by go_grown⟩
end Go.Proofs.YtballmdcalfdnaaDoor
