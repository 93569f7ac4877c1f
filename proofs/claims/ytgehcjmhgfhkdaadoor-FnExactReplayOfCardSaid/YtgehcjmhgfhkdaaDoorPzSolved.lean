/- Does a word solve a puzzle: IsSolvedBy of the program and of the model. -/
import Derived.Test.YtgehcjmhgfhkdaaDoorPzGood
import Derived.Test.YtgehcjmhgfhkdaaDoorWayA
namespace Go.Proofs.YtgehcjmhgfhkdaaDoor
set_option maxRecDepth 100000
set_option linter.all false
open Go.RowKit

theorem below_drewN {B : Nat} {a w : World} (h : Below B a w) (n : Nat) : Below B a (w.drewN n) := ⟨h.os, h.tape, h.output, h.size, h.block⟩
def sv2 (p : Pz) (L : List UInt8) : Bool := pzB p && isWord L
def sv1 (p : Pz) (L : List UInt8) : Bool := sv2 p L && (raB p.b.data.toList p.s L && metP p.x p.y p.t (raV p.b.data.toList p.s L))
theorem sv_no1 {p : Pz} {L : List UInt8} (h : pzB p = false) : sv1 p L = false ∧ sv2 p L = false := by simp [sv1, sv2, h]
theorem sv_no2 {p : Pz} {L : List UInt8} (h : pzB p = true) (h2 : isWord L = false) : sv1 p L = false ∧ sv2 p L = false := by simp [sv1, sv2, h, h2]
theorem sv_off {p : Pz} {L : List UInt8} (h : pzB p = true) (h2 : isWord L = true) (h3 : raB p.b.data.toList p.s L = false) : sv1 p L = false ∧ sv2 p L = true := by simp [sv1, sv2, h, h2, h3]
theorem sv_on {p : Pz} {L : List UInt8} (h : pzB p = true) (h2 : isWord L = true) (h3 : raB p.b.data.toList p.s L = true) : sv1 p L = metP p.x p.y p.t (raV p.b.data.toList p.s L) ∧ sv2 p L = true := by simp [sv1, sv2, h, h2, h3]
theorem ret_bb2 {a b c d : Bool} (h : a = c ∧ b = d) : Ending.returned (.tuple #[.bool c, .bool d]) = .returned (.tuple #[.bool a, .bool b]) := by rw [h.1, h.2]
theorem pz_size (p : Pz) (w : World) : (w.alloc (.cells #[.string p.b, .int .i64 p.s.x, .int .i64 p.s.y, .int .i64 p.s.d.t, .int .i64 p.s.d.n, .int .i64 p.s.d.e, .int .i64 p.s.d.s, .int .i64 p.s.d.w, .int .i64 p.s.d.b, .int .i64 p.x, .int .i64 p.y, .int .i64 p.t] 34)).heap.size = w.heap.size + 1 := by simp

set_option maxHeartbeats 1600000 in
theorem implIS_any (p : Pz) (v : ByteArray) (w : World) (hs : p.b.size ≤ 1048576) (hv : v.size ≤ 1048576) (hg : Glob w) : Calls Tryd.prog 15 #[Pz.v p, .string v] w fun e w' => e = .returned (.tuple #[.bool (sv1 p v.data.toList), .bool (sv2 p v.data.toList)]) ∧ Below w.heap.size w w' := by
  have hvm : v.size ≤ maxLen := by unfold maxLen; omega
  obtain ⟨W0, hW, P0, q0⟩ := pz_start p w
  have HW := hide hW
  have HG := hide (glob_to q0 hg rfl)
  have HIP := hide (fun wx hx => implIP_any p wx hs hx)
  have HRL := hide (fun wx => isRolls_any v wx hvm)
  have HRA := hide (fun wx hx => implRA_any p.b p.s v wx hs hv hx)
  obtain ⟨l0, ⟨a0, a1, a2, a3, a4, a5, a6, a7, a8, a9, a10, a11⟩, -⟩ := P0.all
  clear hW hg hs hv hvm
  cases h : pzB p with
  | false =>
    rw [h] at HIP
    have HE := hide (sv_no1 (L := v.data.toList) h)
    clear h
    go_enter Tryd.func15, Tryd.ntmps15
    go_upto_region 1 with (fail)
    rw [HW.out]
    go_wp2_with fail
    refine (HIP.out _ HG.out).mono ?_
    rintro e w1 ⟨rfl, hb1⟩
    have q1 := below_to hb1 q0 q0.size rfl rfl rfl rfl
    clear hb1
    go_wp2
    go_returns
    exact ⟨ret_bb2 HE.out, q1⟩
  | true =>
    rw [h] at HIP
    cases h2 : isWord v.data.toList with
    | false =>
      rw [h2] at HRL
      have HE := hide (sv_no2 h h2)
      clear h h2
      go_enter Tryd.func15, Tryd.ntmps15
      go_upto_region 1 with (fail)
      rw [HW.out]
      go_wp2_with fail
      refine (HIP.out _ HG.out).mono ?_
      rintro e w1 ⟨rfl, hb1⟩
      have q1 := below_to hb1 q0 q0.size rfl rfl rfl rfl
      clear hb1
      go_wp2_with fail
      refine (HRL.out _).mono ?_
      rintro e w2 ⟨rfl, rfl⟩
      go_wp2
      go_returns
      exact ⟨ret_bb2 HE.out, q1⟩
    | true =>
      rw [h2] at HRL
      cases h3 : raB p.b.data.toList p.s v.data.toList with
      | false =>
        rw [h3] at HRA
        have HE := hide (sv_off h h2 h3)
        clear h h2 h3
        generalize raV p.b.data.toList p.s v.data.toList = u at HRA
        go_enter Tryd.func15, Tryd.ntmps15
        go_upto_region 1 with (fail)
        rw [HW.out]
        go_wp2_with fail
        refine (HIP.out _ HG.out).mono ?_
        rintro e w1 ⟨rfl, hb1⟩
        have q1 := below_to hb1 q0 q0.size rfl rfl rfl rfl
        have P1 := isPz_to hb1 P0 rfl
        have HG1 := hide (glob_to hb1 HG.out rfl)
        clear hb1 a0 a1 a2 a3 a4 a5 a6 a7 a8 a9 a10 a11 l0 P0 q0
        go_wp2_with fail
        refine (HRL.out _).mono ?_
        rintro e w2 ⟨rfl, rfl⟩
        obtain ⟨l0, ⟨a0, a1, a2, a3, a4, a5, a6, a7, a8, a9, a10, a11⟩, -⟩ := P1.all
        go_wp2_with fail
        refine (HRA.out _ HG1.out).mono ?_
        rintro e w3 ⟨rfl, hb3⟩
        have q3 := below_to hb3 q1 q1.size rfl rfl rfl rfl
        clear hb3 a0 a1 a2 a3 a4 a5 a6 a7 a8 a9 a10 a11 l0 P1 q1
        go_wp2
        go_quiet (fail)
        go_wp2
        go_returns
        exact ⟨ret_bb2 HE.out, below_drewN (q3.alloc q3.size _) _⟩
      | true =>
        rw [h3] at HRA
        have HE := hide (sv_on h h2 h3)
        have HGO := hide (goalsOf_any p)
        clear h h2 h3
        generalize raV p.b.data.toList p.s v.data.toList = u at HRA HE
        have HAG := hide (fun (g : Nat) (wx : World) (h2 : GoalsAt wx g p.x p.y p.t) => agreeS_any p.x p.y p.t g u wx h2)
        go_enter Tryd.func15, Tryd.ntmps15
        go_upto_region 1 with (fail)
        rw [HW.out]
        go_wp2_with fail
        refine (HIP.out _ HG.out).mono ?_
        rintro e w1 ⟨rfl, hb1⟩
        have q1 := below_to hb1 q0 q0.size rfl rfl rfl rfl
        have P1 := isPz_to hb1 P0 rfl
        have HG1 := hide (glob_to hb1 HG.out rfl)
        clear hb1 a0 a1 a2 a3 a4 a5 a6 a7 a8 a9 a10 a11 l0 P0 q0
        go_wp2_with fail
        refine (HRL.out _).mono ?_
        rintro e w2 ⟨rfl, rfl⟩
        obtain ⟨l0, ⟨a0, a1, a2, a3, a4, a5, a6, a7, a8, a9, a10, a11⟩, -⟩ := P1.all
        go_wp2_with fail
        refine (HRA.out _ HG1.out).mono ?_
        rintro e w3 ⟨rfl, hb3⟩
        have q3 := below_to hb3 q1 q1.size rfl rfl rfl rfl
        have P3 := isPz_to hb3 P1 rfl
        clear hb3 a0 a1 a2 a3 a4 a5 a6 a7 a8 a9 a10 a11 l0 P1 q1
        have S4 : IsS (w3.alloc (.cells #[.int .i64 u.x, .int .i64 u.y, .int .i64 u.d.t, .int .i64 u.d.n, .int .i64 u.d.e, .int .i64 u.d.s, .int .i64 u.d.w, .int .i64 u.d.b] 32)) w3.heap.size u 32 := IsS.new
        have P4 := P3.alloc (.cells #[.int .i64 u.x, .int .i64 u.y, .int .i64 u.d.t, .int .i64 u.d.n, .int .i64 u.d.e, .int .i64 u.d.s, .int .i64 u.d.w, .int .i64 u.d.b] 32)
        have q4 := q3.alloc q3.size (.cells #[.int .i64 u.x, .int .i64 u.y, .int .i64 u.d.t, .int .i64 u.d.n, .int .i64 u.d.e, .int .i64 u.d.s, .int .i64 u.d.w, .int .i64 u.d.b] 32)
        obtain ⟨l0, ⟨a0, a1, a2, a3, a4, a5, a6, a7, a8, a9, a10, a11⟩, -⟩ := P3.all
        go_upto_region 4 with (fail)
        clear a0 a1 a2 a3 a4 a5 a6 a7 a8 a9 a10 a11 l0 P3 q3
        generalize w3.alloc (.cells #[.int .i64 u.x, .int .i64 u.y, .int .i64 u.d.t, .int .i64 u.d.n, .int .i64 u.d.e, .int .i64 u.d.s, .int .i64 u.d.w, .int .i64 u.d.b] 32) = w4 at S4 P4 q4 ⊢
        generalize w3.heap.size = bu at S4 ⊢
        obtain ⟨l0, ⟨a0, a1, a2, a3, a4, a5, a6, a7, a8, a9, a10, a11⟩, -⟩ := P4.all
        obtain ⟨l1, ⟨c0, c1, c2, c3, c4, c5, c6, c7⟩, -⟩ := S4.all
        go_region_with (first
          | (go_at_call 34; refine (HGO.out _).mono ?_; rintro e w5 ⟨g, rfl, -, hG, hb5⟩; have HG5 := hide hG; have q5 := below_to hb5 q4 q4.size rfl rfl rfl rfl; have S5 := isS_to hb5 S4 rfl; obtain ⟨l5, ⟨d0, d1, d2, d3, d4, d5, d6, d7⟩, -⟩ := S5.all; clear hb5 hG)
          | (go_at_call 40; refine (HAG.out _ _ HG5.out).mono ?_; rintro e w6 ⟨rfl, hb6⟩; have q6 := below_to hb6 q5 q5.size rfl rfl rfl rfl; clear hb6))
        all_goals
          go_wp2
          go_returns
          exact ⟨ret_bb2 HE.out, q6⟩
end Go.Proofs.YtgehcjmhgfhkdaaDoor
