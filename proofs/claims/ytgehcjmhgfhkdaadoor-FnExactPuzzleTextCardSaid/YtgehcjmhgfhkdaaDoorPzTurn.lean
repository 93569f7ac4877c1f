/- Turned puzzles: TurnPuzzle of the program. -/
import Derived.Test.YtgehcjmhgfhkdaaDoorPzGood
import Derived.Test.YtgehcjmhgfhkdaaDoorWalksTL
import Derived.Test.YtgehcjmhgfhkdaaDoorWalksW
namespace Go.Proofs.YtgehcjmhgfhkdaaDoor
set_option maxRecDepth 100000
set_option linter.all false
open Go.RowKit

/-- The turned puzzle; zero where there is none. -/
def tpP (p : Pz) : Pz := if pzB p = true then ⟨tbS p.b.data.toList, tsT p.b.data.toList p.s, (tsT p.b.data.toList ⟨p.x, p.y, p.s.d⟩).x, (tsT p.b.data.toList ⟨p.x, p.y, p.s.d⟩).y, p.t⟩ else zeroPz
theorem tp_no {p : Pz} (h : pzB p = false) : tpP p = zeroPz := by unfold tpP; rw [h]; rfl
theorem tp_yes {p : Pz} (h : pzB p = true) : isBd p.b.data.toList = true ∧ stL p.b.data.toList p.s = true ∧ stL p.b.data.toList ⟨p.x, p.y, p.s.d⟩ = true ∧ tpP p = ⟨tbS p.b.data.toList, tsT p.b.data.toList p.s, (tsT p.b.data.toList ⟨p.x, p.y, p.s.d⟩).x, (tsT p.b.data.toList ⟨p.x, p.y, p.s.d⟩).y, p.t⟩ := by
  have h' := h
  unfold pzB onP goalP at h'
  simp only [Bool.and_eq_true] at h'
  obtain ⟨⟨h1, h2⟩, h3, -⟩ := h'
  have h4 := h2
  unfold stL at h4
  refine ⟨h1, h2, ?_, by unfold tpP; rw [h, if_pos rfl]⟩
  unfold stL
  rw [h3, (Bool.and_eq_true_iff.1 h4).2]
  rfl
set_option maxRecDepth 100000 in
theorem ret_puz2 {fn : Func} {q u : Tmp} {tmps : Array Value} {w : World} {b : Nat} {p : Pz} {ty : TypeId} {x : Bool} (h : fn.results = #[.cell q 34, .tmp u]) (hp : tmps.getD q undef = .pointer (some ⟨b, 0, none⟩)) (hu : tmps.getD u undef = .bool x) (hd : IsPz w b p ty) :
    (results fn tmps).run Tryd.prog w = .ok (.tuple #[Pz.v p, .bool x]) w := by
  rw [results_cell_tmp h, hp, hu]
  show ((loadVar 34 ⟨b, 0, none⟩).run Tryd.prog w).andThen _ = _
  rw [hd.load]
  rfl
theorem pz_start2 (p : Pz) (w : World) : ∃ W, (w.alloc (.cells #[.string p.b, .int .i64 p.s.x, .int .i64 p.s.y, .int .i64 p.s.d.t, .int .i64 p.s.d.n, .int .i64 p.s.d.e, .int .i64 p.s.d.s, .int .i64 p.s.d.w, .int .i64 p.s.d.b, .int .i64 p.x, .int .i64 p.y, .int .i64 p.t] 34)).alloc (.cells #[.string ⟨#[]⟩, .int .i64 0, .int .i64 0, .int .i64 0, .int .i64 0, .int .i64 0, .int .i64 0, .int .i64 0, .int .i64 0, .int .i64 0, .int .i64 0, .int .i64 0] 34) = W ∧ IsPz W w.heap.size p 34 ∧ IsPz W (w.heap.size + 1) zeroPz 34 ∧ Below w.heap.size w W ∧ w.heap.size + 2 ≤ W.heap.size :=
  ⟨_, rfl, IsPz.new.alloc _, IsPz.new2 (p := zeroPz), by go_grown, by simp⟩
set_option maxHeartbeats 3200000 in
theorem implTP_any (p : Pz) (w : World) (hs : p.b.size ≤ 1048576) (hg : Glob w) : Calls Tryd.prog 24 #[Pz.v p] w fun e w' => e = .returned (.tuple #[Pz.v (tpP p), .bool (pzB p)]) ∧ Below w.heap.size w w' := by
  obtain ⟨W0, hW, P0, R0, q0, z0⟩ := pz_start2 p w
  have HW := hide hW
  have HG := hide (glob_to q0 hg rfl)
  have HIP := hide (fun wx hx => implIP_any p wx hs hx)
  obtain ⟨l0, ⟨a0, a1, a2, a3, a4, a5, a6, a7, a8, a9, a10, a11⟩, -⟩ := P0.all
  clear hW hg
  cases h : pzB p with
  | false =>
    rw [h] at HIP
    have HE := hide (tp_no h)
    clear h hs
    go_enter Tryd.func24, Tryd.ntmps24
    go_upto_region 1 with (fail)
    rw [HW.out]
    go_wp2_with fail
    refine (HIP.out _ HG.out).mono ?_
    rintro e w1 ⟨rfl, hb1⟩
    have q1 := below_to hb1 q0 q0.size rfl rfl rfl rfl
    have R1 := isPz_to hb1 R0 rfl
    clear hb1
    obtain ⟨l1, ⟨b0, b1, b2, b3, b4, b5, b6, b7, b8, b9, b10, b11⟩, f0, f1, f2, f3, f4, f5, f6, f7, f8, f9, f10, f11⟩ := R1.all
    go_wp2
    refine bodyPost_ret (ret_puz2 Tryd.results24 rfl rfl (R1.set12 zeroPz)) rfl ⟨by rw [HE.out], ?_⟩
    exact below_set12P q1 (by omega) zeroPz
  | true =>
    rw [h] at HIP
    obtain ⟨t1, t2, t3, t4⟩ := tp_yes h
    have HE := hide t4
    have HTB := hide (fun wx hx => implTB_any p.b wx hs hx)
    rw [t1] at HTB
    have HTS := hide (fun wx hx => implTS_on p.b p.s wx hs hx t1 t2)
    have HTC := hide (fun wx hx => implTS_on p.b ⟨p.x, p.y, p.s.d⟩ wx hs hx t1 t3)
    clear h hs t1 t2 t3 t4
    generalize tbS p.b.data.toList = B at HTB HE
    generalize tsT p.b.data.toList p.s = u at HTS HE
    generalize tsT p.b.data.toList ⟨p.x, p.y, p.s.d⟩ = c at HTC HE
    go_enter Tryd.func24, Tryd.ntmps24
    go_upto_region 1 with (fail)
    rw [HW.out]
    go_wp2_with fail
    refine (HIP.out _ HG.out).mono ?_
    rintro e w1 ⟨rfl, hb1⟩
    have q1 := below_to hb1 q0 q0.size rfl rfl rfl rfl
    have P1 := isPz_to hb1 P0 rfl
    have R1 := isPz_to hb1 R0 rfl
    have HG1 := hide (glob_to hb1 HG.out rfl)
    clear hb1 a0 a1 a2 a3 a4 a5 a6 a7 a8 a9 a10 a11 l0 P0 R0 q0
    obtain ⟨l0, ⟨a0, a1, a2, a3, a4, a5, a6, a7, a8, a9, a10, a11⟩, -⟩ := P1.all
    go_wp2_with fail
    refine (HTB.out _ HG1.out).mono ?_
    rintro e w2 ⟨rfl, hb2⟩
    have q2 := below_to hb2 q1 q1.size rfl rfl rfl rfl
    have P2 := isPz_to hb2 P1 rfl
    have R2 := isPz_to hb2 R1 rfl
    have HG2 := hide (glob_to hb2 HG1.out rfl)
    clear hb2 a0 a1 a2 a3 a4 a5 a6 a7 a8 a9 a10 a11 l0 P1 R1 q1
    obtain ⟨l0, ⟨a0, a1, a2, a3, a4, a5, a6, a7, a8, a9, a10, a11⟩, -⟩ := P2.all
    go_wp2_with fail
    refine (HTS.out _ HG2.out).mono ?_
    rintro e w3 ⟨rfl, hb3⟩
    have q3 := below_to hb3 q2 q2.size rfl rfl rfl rfl
    have P3 := isPz_to hb3 P2 rfl
    have R3 := isPz_to hb3 R2 rfl
    have HG3 := hide (glob_to hb3 HG2.out rfl)
    clear hb3 a0 a1 a2 a3 a4 a5 a6 a7 a8 a9 a10 a11 l0 P2 R2 q2
    have S4 : IsS (w3.alloc (.cells #[.int .i64 u.x, .int .i64 u.y, .int .i64 u.d.t, .int .i64 u.d.n, .int .i64 u.d.e, .int .i64 u.d.s, .int .i64 u.d.w, .int .i64 u.d.b] 32)) w3.heap.size u 32 := IsS.new
    have P4 := P3.alloc (.cells #[.int .i64 u.x, .int .i64 u.y, .int .i64 u.d.t, .int .i64 u.d.n, .int .i64 u.d.e, .int .i64 u.d.s, .int .i64 u.d.w, .int .i64 u.d.b] 32)
    have R4 := R3.alloc (.cells #[.int .i64 u.x, .int .i64 u.y, .int .i64 u.d.t, .int .i64 u.d.n, .int .i64 u.d.e, .int .i64 u.d.s, .int .i64 u.d.w, .int .i64 u.d.b] 32)
    have HG4 := hide (show Glob (w3.alloc (.cells #[.int .i64 u.x, .int .i64 u.y, .int .i64 u.d.t, .int .i64 u.d.n, .int .i64 u.d.e, .int .i64 u.d.s, .int .i64 u.d.w, .int .i64 u.d.b] 32)) from glob_to (w0 := w3) ((Below.refl _ _).alloc (Nat.le_refl _) _) HG3.out rfl)
    have q4 := q3.alloc q3.size (.cells #[.int .i64 u.x, .int .i64 u.y, .int .i64 u.d.t, .int .i64 u.d.n, .int .i64 u.d.e, .int .i64 u.d.s, .int .i64 u.d.w, .int .i64 u.d.b] 32)
    obtain ⟨l0, ⟨a0, a1, a2, a3, a4, a5, a6, a7, a8, a9, a10, a11⟩, -⟩ := P3.all
    go_upto_region 5 with (fail)
    clear a0 a1 a2 a3 a4 a5 a6 a7 a8 a9 a10 a11 l0 P3 R3 q3
    generalize w3.alloc (.cells #[.int .i64 u.x, .int .i64 u.y, .int .i64 u.d.t, .int .i64 u.d.n, .int .i64 u.d.e, .int .i64 u.d.s, .int .i64 u.d.w, .int .i64 u.d.b] 32) = w4 at S4 P4 R4 HG4 q4 ⊢
    generalize w3.heap.size = bu at S4 ⊢
    obtain ⟨l0, ⟨a0, a1, a2, a3, a4, a5, a6, a7, a8, a9, a10, a11⟩, -⟩ := P4.all
    go_wp2_with fail
    refine (HTC.out _ HG4.out).mono ?_
    rintro e w5 ⟨rfl, hb5⟩
    have q5 := below_to hb5 q4 q4.size rfl rfl rfl rfl
    have P5 := isPz_to hb5 P4 rfl
    have R5 := isPz_to hb5 R4 rfl
    have S5 := isS_to hb5 S4 rfl
    clear hb5 a0 a1 a2 a3 a4 a5 a6 a7 a8 a9 a10 a11 l0 P4 R4 q4 S4
    have C6 : IsS (w5.alloc (.cells #[.int .i64 c.x, .int .i64 c.y, .int .i64 c.d.t, .int .i64 c.d.n, .int .i64 c.d.e, .int .i64 c.d.s, .int .i64 c.d.w, .int .i64 c.d.b] 32)) w5.heap.size c 32 := IsS.new
    have P6 := P5.alloc (.cells #[.int .i64 c.x, .int .i64 c.y, .int .i64 c.d.t, .int .i64 c.d.n, .int .i64 c.d.e, .int .i64 c.d.s, .int .i64 c.d.w, .int .i64 c.d.b] 32)
    have R6 := R5.alloc (.cells #[.int .i64 c.x, .int .i64 c.y, .int .i64 c.d.t, .int .i64 c.d.n, .int .i64 c.d.e, .int .i64 c.d.s, .int .i64 c.d.w, .int .i64 c.d.b] 32)
    have S6 := S5.alloc (.cells #[.int .i64 c.x, .int .i64 c.y, .int .i64 c.d.t, .int .i64 c.d.n, .int .i64 c.d.e, .int .i64 c.d.s, .int .i64 c.d.w, .int .i64 c.d.b] 32)
    have q6 := q5.alloc q5.size (.cells #[.int .i64 c.x, .int .i64 c.y, .int .i64 c.d.t, .int .i64 c.d.n, .int .i64 c.d.e, .int .i64 c.d.s, .int .i64 c.d.w, .int .i64 c.d.b] 32)
    go_upto_region 6 with (fail)
    clear P5 R5 q5 S5
    generalize w5.alloc (.cells #[.int .i64 c.x, .int .i64 c.y, .int .i64 c.d.t, .int .i64 c.d.n, .int .i64 c.d.e, .int .i64 c.d.s, .int .i64 c.d.w, .int .i64 c.d.b] 32) = w6 at S6 P6 R6 C6 q6 ⊢
    generalize w5.heap.size = bc at C6 ⊢
    obtain ⟨l0, ⟨a0, a1, a2, a3, a4, a5, a6, a7, a8, a9, a10, a11⟩, -⟩ := P6.all
    obtain ⟨l1, ⟨b0, b1, b2, b3, b4, b5, b6, b7, b8, b9, b10, b11⟩, f0, f1, f2, f3, f4, f5, f6, f7, f8, f9, f10, f11⟩ := R6.all
    obtain ⟨l2, ⟨c0, c1, c2, c3, c4, c5, c6, c7⟩, -⟩ := S6.all
    obtain ⟨l3, ⟨d0, d1, d2, d3, d4, d5, d6, d7⟩, -⟩ := C6.all
    go_wp2
    refine bodyPost_ret (ret_puz2 Tryd.results24 rfl rfl (R6.set12 ⟨B, u, c.x, c.y, p.t⟩)) rfl ⟨by rw [HE.out], ?_⟩
    exact below_set12P q6 (by omega) ⟨B, u, c.x, c.y, p.t⟩
end Go.Proofs.YtgehcjmhgfhkdaaDoor
