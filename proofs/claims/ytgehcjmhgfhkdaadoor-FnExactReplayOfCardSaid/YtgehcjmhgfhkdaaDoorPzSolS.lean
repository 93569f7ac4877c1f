/- Does a word solve a puzzle: the model's puDone and IsSolvedBy. -/
import Derived.Test.YtgehcjmhgfhkdaaDoorPzSolved
namespace Go.Proofs.YtgehcjmhgfhkdaaDoor
set_option maxRecDepth 100000
set_option linter.all false
open Go.RowKit

set_option maxHeartbeats 800000 in
theorem puDone_any (p : Pz) (u : St) (w : World) : Calls Tryd.prog 37 #[Pz.v p, St.v u] w fun e w' => e = .returned (.bool (metP p.x p.y p.t u)) ∧ Below w.heap.size w w' := by
  have HM := hide (show metP p.x p.y p.t u = ((decide (u.x = p.x) && decide (u.y = p.y)) && decide (u.d.t = p.t)) from rfl)
  by_cases h : u.x = p.x
  · have e1 : (u.x == p.x) = true := by simp [h]
    have H := hide (decide_eq_true h)
    clear h
    by_cases h2 : u.y = p.y
    · have e2 : (u.y == p.y) = true := by simp [h2]
      have H2 := hide (decide_eq_true h2)
      clear h2
      by_cases h3 : u.d.t = p.t
      · have e3 : (u.d.t == p.t) = true := by simp [h3]
        have H3 := hide (decide_eq_true h3)
        clear h3
        go_enter Tryd.func37, Tryd.ntmps37
        go_wp2
        go_returns
        exact ⟨ret_bool (by rw [HM.out, H.out, H2.out, H3.out]; rfl), by go_grown⟩
      · have e3 : (u.d.t == p.t) = false := by simp [h3]
        have H3 := hide (decide_eq_false h3)
        clear h3
        go_enter Tryd.func37, Tryd.ntmps37
        go_wp2
        go_returns
        exact ⟨ret_bool (by rw [HM.out, H.out, H2.out, H3.out]; rfl), by go_grown⟩
    · have e2 : (u.y == p.y) = false := by simp [h2]
      have H2 := hide (decide_eq_false h2)
      clear h2
      go_enter Tryd.func37, Tryd.ntmps37
      go_wp2
      go_returns
      exact ⟨ret_bool (by rw [HM.out, H.out, H2.out]; rfl), by go_grown⟩
  · have e1 : (u.x == p.x) = false := by simp [h]
    have H := hide (decide_eq_false h)
    clear h
    go_enter Tryd.func37, Tryd.ntmps37
    go_wp2
    go_returns
    exact ⟨ret_bool (by rw [HM.out, H.out]; rfl), by go_grown⟩

set_option maxHeartbeats 1600000 in
theorem specIS_any (p : Pz) (v : ByteArray) (w : World) (hs : p.b.size ≤ 1048576) (hv : v.size ≤ 1048576) : Calls Tryd.prog 14 #[Pz.v p, .string v] w fun e w' => e = .returned (.tuple #[.bool (sv1 p v.data.toList), .bool (sv2 p v.data.toList)]) ∧ Below w.heap.size w w' := by
  have hvm : v.size ≤ maxLen := by unfold maxLen; omega
  obtain ⟨W0, hW, P0, q0⟩ := pz_start p w
  have HW := hide hW
  have HIP := hide (fun wx => puGood_any p wx hs)
  have HRL := hide (fun wx => diWord_any v wx hvm)
  have HRA := hide (fun wx => boWayA_any p.b p.s v wx hs hv)
  have HPD := hide (puDone_any p)
  have HSZ : v.size ≤ 1048576 := hv
  obtain ⟨l0, ⟨a0, a1, a2, a3, a4, a5, a6, a7, a8, a9, a10, a11⟩, -⟩ := P0.all
  clear hW hs hv hvm
  cases h : pzB p with
  | false =>
    rw [h] at HIP
    have HE := hide (sv_no1 (L := v.data.toList) h)
    clear h
    go_enter Tryd.func14, Tryd.ntmps14
    go_upto_region 1 with (fail)
    rw [HW.out]
    go_wp2_with fail
    refine (HIP.out _).mono ?_
    rintro e w1 ⟨rfl, hb1⟩
    have q1 := below_to hb1 q0 q0.size rfl rfl rfl rfl
    clear hb1
    go_wp2
    go_returns
    exact ⟨ret_bb2 HE.out, q1⟩
  | true =>
    rw [h] at HIP
    cases h2 : isWord v.data.toList with
    | false =>
      rw [h2] at HRL
      have HE := hide (sv_no2 h h2)
      clear h h2
      go_enter Tryd.func14, Tryd.ntmps14
      go_upto_region 1 with (fail)
      rw [HW.out]
      go_wp2_with fail
      refine (HIP.out _).mono ?_
      rintro e w1 ⟨rfl, hb1⟩
      have q1 := below_to hb1 q0 q0.size rfl rfl rfl rfl
      clear hb1
      go_wp2_with fail
      refine (HRL.out _).mono ?_
      rintro e w2 ⟨rfl, rfl⟩
      go_wp2
      go_returns
      exact ⟨ret_bb2 HE.out, q1⟩
    | true =>
      rw [h2] at HRL
      cases h3 : raB p.b.data.toList p.s v.data.toList with
      | false =>
        rw [h3] at HRA
        have HE := hide (sv_off h h2 h3)
        clear h h2 h3
        go_enter Tryd.func14, Tryd.ntmps14
        go_upto_region 1 with (fail)
        rw [HW.out]
        go_wp2_with fail
        refine (HIP.out _).mono ?_
        rintro e w1 ⟨rfl, hb1⟩
        have q1 := below_to hb1 q0 q0.size rfl rfl rfl rfl
        have P1 := isPz_to hb1 P0 rfl
        clear hb1 a0 a1 a2 a3 a4 a5 a6 a7 a8 a9 a10 a11 l0 P0 q0
        go_wp2_with fail
        refine (HRL.out _).mono ?_
        rintro e w2 ⟨rfl, rfl⟩
        obtain ⟨l0, ⟨a0, a1, a2, a3, a4, a5, a6, a7, a8, a9, a10, a11⟩, -⟩ := P1.all
        go_wp2_with fail
        refine (HRA.out _).mono ?_
        rintro e w3 ⟨vv, rfl, -, hb3⟩
        have q3 := below_to hb3 q1 q1.size rfl rfl rfl rfl
        clear hb3 a0 a1 a2 a3 a4 a5 a6 a7 a8 a9 a10 a11 l0 P1 q1
        go_wp2
        go_quiet (fail)
        go_wp2
        go_returns
        exact ⟨ret_bb2 HE.out, below_drewN q3 _⟩
      | true =>
        rw [h3] at HRA
        have HE := hide (sv_on h h2 h3)
        have hsa : saV p.b.data.toList p.s v.data.toList = waysT p.s v.data.toList v.data.toList.length := by unfold saV; rw [h3]; rfl
        have hra : raV p.b.data.toList p.s v.data.toList = atT p.s v.data.toList v.data.toList.length := by unfold raV; rw [h3]; rfl
        rw [hsa, waysT_len] at HRA
        rw [hra] at HE
        have hgt := waysT_get p.s v.data.toList v.data.toList.length v.data.toList.length (Nat.le_refl _)
        have hvl : v.data.toList.length ≤ 1048576 := by simpa using HSZ
        clear h h2 h3 hsa hra HSZ
        generalize waysT p.s v.data.toList v.data.toList.length = M at HRA hgt
        generalize atT p.s v.data.toList v.data.toList.length = u at HE hgt
        generalize v.data.toList.length = n at HRA hgt hvl
        have HGT := hide hgt
        clear hgt
        obtain ⟨N, hN⟩ : ∃ N, N = n + 1 := ⟨_, rfl⟩
        rw [← hN] at HRA
        have w1q : IntKind.i64.wrap ((N : Int) - 1) = (n : Int) := by rw [IntWalk.i64_in _ (by omega)]; omega
        have w3q : (n : Int) < (N : Int) := by omega
        have hnN : n < N := by omega
        have hN0 : 0 < N := by omega
        clear hN
        go_enter Tryd.func14, Tryd.ntmps14
        go_upto_region 1 with (fail)
        rw [HW.out]
        go_wp2_with fail
        refine (HIP.out _).mono ?_
        rintro e w1 ⟨rfl, hb1⟩
        have q1 := below_to hb1 q0 q0.size rfl rfl rfl rfl
        have P1 := isPz_to hb1 P0 rfl
        clear hb1 a0 a1 a2 a3 a4 a5 a6 a7 a8 a9 a10 a11 l0 P0 q0
        go_wp2_with fail
        refine (HRL.out _).mono ?_
        rintro e w2 ⟨rfl, rfl⟩
        obtain ⟨l0, ⟨a0, a1, a2, a3, a4, a5, a6, a7, a8, a9, a10, a11⟩, -⟩ := P1.all
        go_wp2_with fail
        refine (HRA.out _).mono ?_
        rintro e w3 ⟨vv, rfl, hO, hb3⟩
        have q3 := below_to hb3 q1 q1.size rfl rfl rfl rfl
        have P3 := isPz_to hb3 P1 rfl
        clear hb3 a0 a1 a2 a3 a4 a5 a6 a7 a8 a9 a10 a11 l0 P1 q1
        obtain ⟨gq, cq, rfl, -, -⟩ := own_form hO hN0
        obtain ⟨c0, c1, c2, c3, c4, c5, c6, c7⟩ := row_cells_at n hO hnN HGT.out
        obtain ⟨l0, ⟨a0, a1, a2, a3, a4, a5, a6, a7, a8, a9, a10, a11⟩, -⟩ := P3.all
        clear hO
        go_upto_region 4 with (fail)
        go_region_with (first
          | (go_at_call 37; refine (HPD.out _ _).mono ?_; rintro e w6 ⟨rfl, hb6⟩; have q6 := below_to hb6 q3 q3.size rfl rfl rfl rfl; clear hb6))
        all_goals
          go_wp2
          go_returns
          exact ⟨ret_bb2 HE.out, q6⟩
end Go.Proofs.YtgehcjmhgfhkdaaDoor
