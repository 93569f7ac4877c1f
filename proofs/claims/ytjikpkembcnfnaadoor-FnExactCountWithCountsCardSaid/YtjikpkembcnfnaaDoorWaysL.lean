/- WaysToLie and LeastDie of the program and of the model. -/
import Derived.Test.YtjikpkembcnfnaaDoorWaysD
import Derived.Test.YtjikpkembcnfnaaDoorDieSB
namespace Go.Proofs.YtjikpkembcnfnaaDoor
set_option maxRecDepth 100000
set_option linter.all false
open Go.RowKit Go.Maps

theorem isD_below {w w1 : World} {B b : Nat} {d : D} {ty : TypeId} (hb : Below B w w1) (h : IsD w b d ty) (hl : b < B) : IsD w1 b d ty := by
  unfold IsD at h ⊢
  rw [hb.block b hl]
  exact h
/-- What WaysToLie answers. -/
def wlL (d : D) : List D := if goodB d = true then waysL d else []
theorem waysL_len (d : D) : (waysL d).length = (bfs d).length := insM_len _ _ (by simp)
theorem wlL_len (d : D) : (wlL d).length ≤ 100000 := by
  unfold wlL
  split
  · rw [waysL_len]
    have := (bfs_good d).le
    omega
  · simp
theorem wlL_no {d : D} (h : goodB d = false) : wlL d = [] := by unfold wlL; rw [h]; rfl
theorem wlL_yes {d : D} (h : goodB d = true) : wlL d = waysL d := by unfold wlL; rw [h]; rfl
theorem ways_start (d : D) (w : World) : ∃ W, w.alloc (.cells #[.int .i64 d.t, .int .i64 d.n, .int .i64 d.e, .int .i64 d.s, .int .i64 d.w, .int .i64 d.b] 30) = W ∧ IsD W w.heap.size d 30 ∧ Below w.heap.size w W := ⟨_, rfl, IsD.new, (Below.refl _ _).alloc (Nat.le_refl _) _⟩
set_option maxHeartbeats 800000 in
theorem implWL_any (d : D) (w : World) : Calls Tryd.prog 72 #[D.v d] w fun e w' => ∃ v, e = .returned (.tuple #[v, .bool (goodB d)]) ∧ w'.ownsRow w.heap.size 30 6 v (wlL d).length (cellsW (wlL d)) ∧ Below w.heap.size w w' := by
  obtain ⟨W0, hW, D0, q0⟩ := ways_start d w
  have HW := hide hW
  clear hW
  have HG := hide (isDie_any d)
  cases h : goodB d with
  | false =>
    rw [h] at HG
    rw [wlL_no h]
    clear h
    go_enter Tryd.func72, Tryd.ntmps72
    go_wp2_with fail
    rw [HW.out]
    refine (HG.out _).mono ?_
    rintro e w1 ⟨rfl, hb1⟩
    have q1 := below_to hb1 q0 q0.size rfl rfl rfl rfl
    clear hb1
    go_wp2
    go_returns
    exact ⟨_, rfl, ⟨rfl, .inl ⟨rfl, rfl⟩⟩, q1⟩
  | true =>
    rw [h] at HG
    rw [wlL_yes h, waysL_len]
    have HF := hide (fun wx => firstWords_any d wx h)
    have HS := hide (sortedFunc_any d)
    generalize waysL d = Q at HS ⊢
    generalize bfs d = L at HF HS ⊢
    generalize L.length = n at HS ⊢
    clear h
    go_enter Tryd.func72, Tryd.ntmps72
    go_wp2_with fail
    rw [HW.out]
    refine (HG.out _).mono ?_
    rintro e w1 ⟨rfl, hb1⟩
    have q1 := below_to hb1 q0 q0.size rfl rfl rfl rfl
    have D1 := isD_to hb1 D0 rfl
    clear hb1 D0 q0
    obtain ⟨l0, ⟨c0, c1, c2, c3, c4, c5⟩, -⟩ := D1.all
    go_wp2_with fail
    refine (HF.out _).mono ?_
    rintro e w2 ⟨mb, rfl, hmb, hm, hb2⟩
    have HM := hide hm
    have q2 := below_to hb2 q1 q1.size rfl rfl rfl rfl
    clear hm hb2 c0 c1 c2 c3 c4 c5 l0 D1 q1 hmb
    go_wp2_with fail
    refine (keysD_any mb _).mono ?_
    rintro e w3 ⟨rfl, hc3, hb3⟩
    have HC3 := hide hc3
    have HM3 := hide (MapIs.below hb3 HM.out rfl)
    have hlt3 := hide (show w2.heap.size < w3.heap.size from by
      rcases Nat.lt_or_ge w2.heap.size w3.heap.size with h | h
      · exact h
      · rw [World.cell?, Array.getElem?_eq_none h] at hc3
        cases hc3)
    have q3 := below_to hb3 q2 q2.size rfl rfl rfl rfl
    clear hc3 hb3 q2 HM
    go_wp2_with fail
    refine (HS.out _ mb _ hlt3.out HC3.out HM3.out).mono ?_
    rintro e w4 ⟨v, rfl, hO, hb4⟩
    have HO := hide (own_mono hO q3.size)
    have q4 := below_to hb4 q3 q3.size rfl rfl rfl rfl
    clear hO hb4 q3
    go_wp2
    go_returns
    exact ⟨_, rfl, HO.out, q4⟩
/-- What LeastDie answers. -/
def ldV (d : D) : D := if goodB d = true then (waysL d).headD ⟨0, 0, 0, 0, 0, 0⟩ else ⟨0, 0, 0, 0, 0, 0⟩
theorem ld_yes {d : D} (h : goodB d = true) : (waysL d)[0]? = some (ldV d) := by
  have hl := waysL_len d
  have hp := bfs_pos d
  unfold ldV
  rw [h, if_pos rfl]
  cases hw : waysL d with
  | nil => rw [hw] at hl; simp at hl; omega
  | cons a l => rfl
theorem ways_start2 (d : D) (w : World) : ∃ W, (w.alloc (.cells #[.int .i64 d.t, .int .i64 d.n, .int .i64 d.e, .int .i64 d.s, .int .i64 d.w, .int .i64 d.b] 30)).alloc (.cells #[.int .i64 0, .int .i64 0, .int .i64 0, .int .i64 0, .int .i64 0, .int .i64 0] 30) = W ∧ IsD W w.heap.size d 30 ∧ IsD W (w.heap.size + 1) ⟨0, 0, 0, 0, 0, 0⟩ 30 ∧ Below w.heap.size w W := ⟨_, rfl, IsD.new.alloc _, IsD.new2 (d := ⟨0, 0, 0, 0, 0, 0⟩), by go_grown⟩
set_option maxHeartbeats 1600000 in
theorem implLD_any (d : D) (w : World) : Calls Tryd.prog 52 #[D.v d] w fun e w' => e = .returned (.tuple #[D.v (ldV d), .bool (goodB d)]) ∧ Below w.heap.size w w' := by
  obtain ⟨W0, hW, D0, R0, q0⟩ := ways_start2 d w
  have HW := hide hW
  clear hW
  have HS := hide (implWL_any d)
  obtain ⟨l0, ⟨a0, a1, a2, a3, a4, a5⟩, -⟩ := D0.all
  cases h : goodB d with
  | false =>
    rw [h, wlL_no h] at HS
    have HE := hide (show ldV d = ⟨0, 0, 0, 0, 0, 0⟩ from by unfold ldV; rw [h]; rfl)
    rw [HE.out]
    clear h
    go_enter Tryd.func52, Tryd.ntmps52
    go_upto_region 1 with (fail)
    rw [HW.out]
    go_wp2_with fail
    refine (HS.out _).mono ?_
    rintro e w1 ⟨v, rfl, -, hb1⟩
    have q1 := below_to hb1 q0 q0.size rfl rfl rfl rfl
    have R1 := isD_to hb1 R0 rfl
    clear hb1
    obtain ⟨l1, ⟨c0, c1, c2, c3, c4, c5⟩, f0, f1, f2, f3, f4, f5⟩ := R1.all
    go_wp2
    refine bodyPost_ret (ret_die2 Tryd.results52 rfl rfl (R1.set6 ⟨0, 0, 0, 0, 0, 0⟩)) rfl ⟨rfl, ?_⟩
    exact below_set6 q1 (by omega) ⟨0, 0, 0, 0, 0, 0⟩
  | true =>
    rw [h, wlL_yes h] at HS
    have HL := hide (ld_yes h)
    have hn := waysL_len d
    have hp := bfs_pos d
    rw [← hn] at hp
    generalize ldV d = r at HL ⊢
    generalize waysL d = Q at HS HL hp
    clear h hn
    obtain ⟨n, hn⟩ : ∃ n, n = Q.length := ⟨_, rfl⟩
    rw [← hn] at HS hp
    clear hn
    go_enter Tryd.func52, Tryd.ntmps52
    go_upto_region 1 with (fail)
    rw [HW.out]
    go_wp2_with fail
    refine (HS.out _).mono ?_
    rintro e w1 ⟨v, rfl, hO, hb1⟩
    have q1 := below_to hb1 q0 q0.size rfl rfl rfl rfl
    have R1 := isD_to hb1 R0 rfl
    clear hb1
    obtain ⟨g, cap, rfl, -, -⟩ := own_form hO hp
    have hr := row6_at 0 hO hp HL.out
    simp only [Nat.zero_mul, Nat.zero_add] at hr
    obtain ⟨b0, b1, b2, b3, b4, b5⟩ := hr
    have hp1 : (0 : Int) < (n : Int) := by omega
    obtain ⟨l1, ⟨c0, c1, c2, c3, c4, c5⟩, f0, f1, f2, f3, f4, f5⟩ := R1.all
    clear hO
    go_wp2
    refine bodyPost_ret (ret_die2 Tryd.results52 rfl rfl (R1.set6 r)) rfl ⟨rfl, ?_⟩
    exact below_set6 q1 (by omega) r
end Go.Proofs.YtjikpkembcnfnaaDoor
