/- The text of a puzzle: the model's PuzzleText. -/
import Derived.Test.YtgehcjmhgfhkdaaDoorPzTurn
import Derived.Test.YtgehcjmhgfhkdaaDoorWalksR
namespace Go.Proofs.YtgehcjmhgfhkdaaDoor
set_option maxRecDepth 100000
set_option linter.all false
open Go.RowKit

/-- The text of a puzzle. -/
def ptL (p : Pz) : List UInt8 := p.b.data.toList ++ 58 :: dgD p.s.x :: 58 :: dgD p.s.y :: 58 :: (dText p.s.d ++ [58, dgD p.x, 58, dgD p.y, 58, dgD p.t])
def ptS (p : Pz) : ByteArray := if pzB p = true then ⟨(ptL p).toArray⟩ else ⟨#[]⟩
theorem pt_eq (b : ByteArray) (x y u v t : UInt8) (d : List UInt8) : b ++ ⟨#[58]⟩ ++ ⟨#[x]⟩ ++ ⟨#[58]⟩ ++ ⟨#[y]⟩ ++ ⟨#[58]⟩ ++ ⟨d.toArray⟩ ++ ⟨#[58]⟩ ++ ⟨#[u]⟩ ++ ⟨#[58]⟩ ++ ⟨#[v]⟩ ++ ⟨#[58]⟩ ++ ⟨#[t]⟩ = (⟨(b.data.toList ++ 58 :: x :: 58 :: y :: 58 :: (d ++ [58, u, 58, v, 58, t])).toArray⟩ : ByteArray) := by
  apply ByteArray.ext
  simp [ByteArray.data_append]
theorem l1Num_b (x : Int) (h0 : 0 ≤ x) (h9 : x ≤ 9) (w : World) : Calls Tryd.prog 70 #[.int .i64 x] w fun e w' => e = .returned (.string ⟨#[dgD x]⟩) ∧ Below w.heap.size w w' :=
  (l1Num_small x h0 h9 w).mono fun _ _ h => ⟨h.1, h.2 ▸ (Below.refl _ _).alloc (Nat.le_refl _) _⟩
theorem pt_bounds {p : Pz} (h : pzB p = true) : ((0 ≤ p.s.x ∧ p.s.x ≤ 9) ∧ (0 ≤ p.s.y ∧ p.s.y ≤ 9)) ∧ ((0 ≤ p.x ∧ p.x ≤ 9) ∧ (0 ≤ p.y ∧ p.y ≤ 9)) ∧ (0 ≤ p.t ∧ p.t ≤ 9) ∧ goodB p.s.d = true := by
  obtain ⟨t1, t2, t3, -⟩ := tp_yes h
  obtain ⟨⟨a0, a1⟩, ⟨b0, b1⟩, hd⟩ := st_nearW t1 t2
  obtain ⟨⟨c0, c1⟩, ⟨d0, d1⟩, -⟩ := st_nearW t1 t3
  unfold pzB goalP at h
  simp only [Bool.and_eq_true, decide_eq_true_eq] at h
  simp only at c0 c1 d0 d1
  exact ⟨⟨⟨a0, by omega⟩, ⟨b0, by omega⟩⟩, ⟨⟨c0, by omega⟩, ⟨d0, by omega⟩⟩, h.2.2, hd⟩
set_option maxHeartbeats 3200000 in
theorem puText_any (p : Pz) (w : World) (h : pzB p = true) : Calls Tryd.prog 52 #[Pz.v p] w fun e w' => e = .returned (.string ⟨(ptL p).toArray⟩) ∧ Below w.heap.size w w' := by
  obtain ⟨⟨⟨x0, x1⟩, ⟨y0, y1⟩⟩, ⟨⟨u0, u1⟩, ⟨v0, v1⟩⟩, ⟨z0, z1⟩, hd⟩ := pt_bounds h
  have HD := hide hd
  have hb42 : p.b.size ≤ 42 := by have := isBd_len (tp_yes h).1; simpa using this
  have HE := hide (pt_eq p.b (dgD p.s.x) (dgD p.s.y) (dgD p.x) (dgD p.y) (dgD p.t) (dText p.s.d))
  unfold ptL
  clear h hd
  have HDL := hide (show (dText p.s.d).length = 6 from rfl)
  have HDT := hide (fun wx => diText_any p.s.d wx HD.out)
  clear HD
  have hdl := HDL.out
  generalize dText p.s.d = dt at HDL HDT HE hdl ⊢
  have k0 : ¬ (9223372036854775807 < p.b.size + 1) := by omega
  have k1 : ¬ (9223372036854775807 < p.b.size + 1 + 1) := by omega
  have k2 : ¬ (9223372036854775807 < p.b.size + 1 + 1 + 1) := by omega
  have k3 : ¬ (9223372036854775807 < p.b.size + 1 + 1 + 1 + 1) := by omega
  have k4 : ¬ (9223372036854775807 < p.b.size + 1 + 1 + 1 + 1 + 1) := by omega
  have k5 : ¬ (9223372036854775807 < p.b.size + 1 + 1 + 1 + 1 + 1 + dt.length) := by omega
  have m5 : ¬ (9223372036854775807 < p.b.size + 1 + 1 + 1 + 1 + 1 + 6) := by omega
  have k6 : ¬ (9223372036854775807 < p.b.size + 1 + 1 + 1 + 1 + 1 + dt.length + 1) := by omega
  have m6 : ¬ (9223372036854775807 < p.b.size + 1 + 1 + 1 + 1 + 1 + 6 + 1) := by omega
  have k7 : ¬ (9223372036854775807 < p.b.size + 1 + 1 + 1 + 1 + 1 + dt.length + 1 + 1) := by omega
  have m7 : ¬ (9223372036854775807 < p.b.size + 1 + 1 + 1 + 1 + 1 + 6 + 1 + 1) := by omega
  have k8 : ¬ (9223372036854775807 < p.b.size + 1 + 1 + 1 + 1 + 1 + dt.length + 1 + 1 + 1) := by omega
  have m8 : ¬ (9223372036854775807 < p.b.size + 1 + 1 + 1 + 1 + 1 + 6 + 1 + 1 + 1) := by omega
  have k9 : ¬ (9223372036854775807 < p.b.size + 1 + 1 + 1 + 1 + 1 + dt.length + 1 + 1 + 1 + 1) := by omega
  have m9 : ¬ (9223372036854775807 < p.b.size + 1 + 1 + 1 + 1 + 1 + 6 + 1 + 1 + 1 + 1) := by omega
  have k10 : ¬ (9223372036854775807 < p.b.size + 1 + 1 + 1 + 1 + 1 + dt.length + 1 + 1 + 1 + 1 + 1) := by omega
  have m10 : ¬ (9223372036854775807 < p.b.size + 1 + 1 + 1 + 1 + 1 + 6 + 1 + 1 + 1 + 1 + 1) := by omega
  have k11 : ¬ (9223372036854775807 < p.b.size + 1 + 1 + 1 + 1 + 1 + dt.length + 1 + 1 + 1 + 1 + 1 + 1) := by omega
  have m11 : ¬ (9223372036854775807 < p.b.size + 1 + 1 + 1 + 1 + 1 + 6 + 1 + 1 + 1 + 1 + 1 + 1) := by omega
  obtain ⟨W0, hW, P0, q0⟩ := pz_start p w
  have HW := hide hW
  clear hW
  obtain ⟨l0, ⟨a0, a1, a2, a3, a4, a5, a6, a7, a8, a9, a10, a11⟩, -⟩ := P0.all
  have P1 := P0.alloc (.cells #[.int .i64 p.s.x, .int .i64 p.s.y, .int .i64 p.s.d.t, .int .i64 p.s.d.n, .int .i64 p.s.d.e, .int .i64 p.s.d.s, .int .i64 p.s.d.w, .int .i64 p.s.d.b] 32)
  have q1 := q0.alloc q0.size (.cells #[.int .i64 p.s.x, .int .i64 p.s.y, .int .i64 p.s.d.t, .int .i64 p.s.d.n, .int .i64 p.s.d.e, .int .i64 p.s.d.s, .int .i64 p.s.d.w, .int .i64 p.s.d.b] 32)
  have S1 : IsS (W0.alloc (.cells #[.int .i64 p.s.x, .int .i64 p.s.y, .int .i64 p.s.d.t, .int .i64 p.s.d.n, .int .i64 p.s.d.e, .int .i64 p.s.d.s, .int .i64 p.s.d.w, .int .i64 p.s.d.b] 32)) W0.heap.size p.s 32 := IsS.new
  have hbs : w.heap.size < W0.heap.size := l0
  go_enter Tryd.func52, Tryd.ntmps52
  go_upto_region 1 with (fail)
  rw [HW.out]
  go_upto_region 2 with (fail)
  clear a0 a1 a2 a3 a4 a5 a6 a7 a8 a9 a10 a11 l0 P0 q0
  generalize W0.alloc (.cells #[.int .i64 p.s.x, .int .i64 p.s.y, .int .i64 p.s.d.t, .int .i64 p.s.d.n, .int .i64 p.s.d.e, .int .i64 p.s.d.s, .int .i64 p.s.d.w, .int .i64 p.s.d.b] 32) = w4 at P1 S1 q1 ⊢
  generalize W0.heap.size = bs at S1 hbs ⊢
  obtain ⟨-, ⟨a0, a1, a2, a3, a4, a5, a6, a7, a8, a9, a10, a11⟩, -⟩ := P1.all
  obtain ⟨-, ⟨s0, s1, s2, s3, s4, s5, s6, s7⟩, -⟩ := S1.all
  go_region_held3 (fun w' => w'.cell? ⟨w.heap.size, 0, none⟩ = some (.string p.b) ∧ w'.cell? ⟨w.heap.size, 9, none⟩ = some (.int .i64 p.x) ∧ w'.cell? ⟨w.heap.size, 10, none⟩ = some (.int .i64 p.y) ∧ w'.cell? ⟨w.heap.size, 11, none⟩ = some (.int .i64 p.t) ∧ w'.cell? ⟨bs, 0, none⟩ = some (.int .i64 p.s.x) ∧ w'.cell? ⟨bs, 1, none⟩ = some (.int .i64 p.s.y) ∧ w'.cell? ⟨bs, 2, none⟩ = some (.int .i64 p.s.d.t) ∧ w'.cell? ⟨bs, 3, none⟩ = some (.int .i64 p.s.d.n) ∧ w'.cell? ⟨bs, 4, none⟩ = some (.int .i64 p.s.d.e) ∧ w'.cell? ⟨bs, 5, none⟩ = some (.int .i64 p.s.d.s) ∧ w'.cell? ⟨bs, 6, none⟩ = some (.int .i64 p.s.d.w) ∧ w'.cell? ⟨bs, 7, none⟩ = some (.int .i64 p.s.d.b)) (first | (refine ⟨?_, ?_, ?_, ?_, ?_, ?_, ?_, ?_, ?_, ?_, ?_, ?_⟩ <;> with_reducible assumption) | (refine ⟨?_, ?_, ?_, ?_, ?_, ?_, ?_, ?_, ?_, ?_, ?_, ?_⟩ <;> assumption))
    (first
      | (go_at_call 70; refine Calls.mono (l1Num_b _ (by assumption) (by assumption) _) ?_; rintro e wn ⟨rfl, hb⟩; have P1 := isPz_to hb P1 rfl; have S1 := isS_to hb S1 rfl; have q1 := below_to hb q1 q1.size rfl rfl rfl rfl; obtain ⟨-, ⟨a0, a1, a2, a3, a4, a5, a6, a7, a8, a9, a10, a11⟩, -⟩ := P1.all; obtain ⟨-, ⟨s0, s1, s2, s3, s4, s5, s6, s7⟩, -⟩ := S1.all; clear hb)
      | (go_at_call 41; refine Calls.mono (HDT.out _) ?_; rintro e wn ⟨rfl, hb⟩; have P1 := isPz_to hb P1 rfl; have S1 := isS_to hb S1 rfl; have q1 := below_to hb q1 q1.size rfl rfl rfl rfl; obtain ⟨-, ⟨a0, a1, a2, a3, a4, a5, a6, a7, a8, a9, a10, a11⟩, -⟩ := P1.all; obtain ⟨-, ⟨s0, s1, s2, s3, s4, s5, s6, s7⟩, -⟩ := S1.all; clear hb))
  all_goals
    go_wp2
    go_returns
    exact ⟨by rw [← HE.out]; rfl, q1⟩
set_option maxHeartbeats 800000 in
theorem specPT_any (p : Pz) (w : World) (hs : p.b.size ≤ 1048576) : Calls Tryd.prog 26 #[Pz.v p] w fun e w' => e = .returned (.tuple #[.string (ptS p), .bool (pzB p)]) ∧ Below w.heap.size w w' := by
  obtain ⟨W0, hW, P0, q0⟩ := pz_start p w
  have HW := hide hW
  have HIP := hide (fun wx => puGood_any p wx hs)
  obtain ⟨l0, ⟨a0, a1, a2, a3, a4, a5, a6, a7, a8, a9, a10, a11⟩, -⟩ := P0.all
  clear hW
  cases h : pzB p with
  | false =>
    rw [h] at HIP
    have HE := hide (show ptS p = ⟨#[]⟩ from by unfold ptS; rw [h]; rfl)
    rw [HE.out]
    clear h hs
    go_enter Tryd.func26, Tryd.ntmps26
    go_upto_region 1 with (fail)
    rw [HW.out]
    go_wp2_with fail
    refine (HIP.out _).mono ?_
    rintro e w1 ⟨rfl, hb1⟩
    have q1 := below_to hb1 q0 q0.size rfl rfl rfl rfl
    clear hb1
    go_wp2
    go_returns
    exact ⟨rfl, q1⟩
  | true =>
    rw [h] at HIP
    have HE := hide (show ptS p = ⟨(ptL p).toArray⟩ from by unfold ptS; rw [h]; rfl)
    rw [HE.out]
    have HT := hide (fun wx => puText_any p wx h)
    clear h hs
    go_enter Tryd.func26, Tryd.ntmps26
    go_upto_region 1 with (fail)
    rw [HW.out]
    go_wp2_with fail
    refine (HIP.out _).mono ?_
    rintro e w1 ⟨rfl, hb1⟩
    have q1 := below_to hb1 q0 q0.size rfl rfl rfl rfl
    have P1 := isPz_to hb1 P0 rfl
    clear hb1 a0 a1 a2 a3 a4 a5 a6 a7 a8 a9 a10 a11 l0 P0 q0
    obtain ⟨l0, ⟨a0, a1, a2, a3, a4, a5, a6, a7, a8, a9, a10, a11⟩, -⟩ := P1.all
    go_wp2_with fail
    refine (HT.out _).mono ?_
    rintro e w2 ⟨rfl, hb2⟩
    have q2 := below_to hb2 q1 q1.size rfl rfl rfl rfl
    clear hb2
    go_wp2
    go_returns
    exact ⟨rfl, q2⟩
end Go.Proofs.YtgehcjmhgfhkdaaDoor
