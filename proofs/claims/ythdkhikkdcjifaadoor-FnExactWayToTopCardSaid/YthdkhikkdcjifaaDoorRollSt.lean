/- The state rolled by a byte (as in GrpO, for seats without groups). -/
import Derived.Test.YthdkhikkdcjifaaDoorRoll4
namespace Go.Proofs.YthdkhikkdcjifaaDoor
set_option maxRecDepth 100000
set_option linter.all false
open Go.RowKit

set_option maxHeartbeats 1600000 in
theorem rolledS_any (c : UInt8) (s : St) (w : World) (hc : 0 ≤ dirIx c.toNat) (hx : -100000 ≤ s.x ∧ s.x ≤ 100000) (hy : -100000 ≤ s.y ∧ s.y ≤ 100000) : Calls Tryd.prog 100 #[St.v s, .int .u8 (c.toNat : Int)] w fun e w' => e = .returned (St.v (rollT s (dirIx c.toNat))) ∧ Below w.heap.size w w' := by
  have S0 := (IsS.new (w := w) (s := s) (ty := 30)).alloc (.cells #[.int .i64 0, .int .i64 0, .int .i64 0, .int .i64 0, .int .i64 0, .int .i64 0, .int .i64 0, .int .i64 0] 30)
  have R0 := IsS.new2 (w := w) (o := (.cells #[.int .i64 s.x, .int .i64 s.y, .int .i64 s.d.t, .int .i64 s.d.n, .int .i64 s.d.e, .int .i64 s.d.s, .int .i64 s.d.w, .int .i64 s.d.b] 30)) (s := ⟨0, 0, ⟨0, 0, 0, 0, 0, 0⟩⟩) (ty := 30)
  have q0 : Below w.heap.size w ((w.alloc (.cells #[.int .i64 s.x, .int .i64 s.y, .int .i64 s.d.t, .int .i64 s.d.n, .int .i64 s.d.e, .int .i64 s.d.s, .int .i64 s.d.w, .int .i64 s.d.b] 30)).alloc (.cells #[.int .i64 0, .int .i64 0, .int .i64 0, .int .i64 0, .int .i64 0, .int .i64 0, .int .i64 0, .int .i64 0] 30)) := by go_grown
  generalize hW : (w.alloc (.cells #[.int .i64 s.x, .int .i64 s.y, .int .i64 s.d.t, .int .i64 s.d.n, .int .i64 s.d.e, .int .i64 s.d.s, .int .i64 s.d.w, .int .i64 s.d.b] 30)).alloc (.cells #[.int .i64 0, .int .i64 0, .int .i64 0, .int .i64 0, .int .i64 0, .int .i64 0, .int .i64 0, .int .i64 0] 30) = W0 at S0 R0 q0
  have HW := hide hW
  clear hW
  have HX := hide hx
  have HY := hide hy
  clear hx hy
  have HC : 0 ≤ dirIx c.toNat := hc
  rcases dir_cases c hc with rfl | rfl | rfl | rfl <;> clear hc HC
  · have HK := hide (show dirIx (110 : UInt8).toNat = 0 from by decide)
    rw [HK.out]
    obtain ⟨r, hr⟩ : ∃ r, r = rollT s 0 := ⟨_, rfl⟩
    rw [← hr]
    have HR := hide hr
    clear hr
    obtain ⟨l0, ⟨a0, a1, a2, a3, a4, a5, a6, a7⟩, -⟩ := S0.all
    go_enter Tryd.func100, Tryd.ntmps100
    go_upto_region 1 with (fail)
    rw [HW.out]
    go_wp2_with fail
    refine (rolledNorth_any s _ HX.out HY.out).mono ?_
    rintro e w1 ⟨rfl, hb1⟩
    rw [← HR.out]
    have R1 := isS_to hb1 R0 rfl
    have q1 := below_to hb1 q0 q0.size rfl rfl rfl rfl
    clear hb1 a0 a1 a2 a3 a4 a5 a6 a7
    obtain ⟨l1, ⟨c0, c1, c2, c3, c4, c5, c6, c7⟩, f0, f1, f2, f3, f4, f5, f6, f7⟩ := R1.all
    go_wp2
    refine bodyPost_ret (ret_state Tryd.results100 rfl (R1.set8 r)) rfl ⟨rfl, ?_⟩
    exact below_set8 q1 (show w.heap.size ≤ w.heap.size + 1 from by omega) r
  · have HK := hide (show dirIx (101 : UInt8).toNat = 1 from by decide)
    rw [HK.out]
    obtain ⟨r, hr⟩ : ∃ r, r = rollT s 1 := ⟨_, rfl⟩
    rw [← hr]
    have HR := hide hr
    clear hr
    obtain ⟨l0, ⟨a0, a1, a2, a3, a4, a5, a6, a7⟩, -⟩ := S0.all
    go_enter Tryd.func100, Tryd.ntmps100
    go_upto_region 1 with (fail)
    rw [HW.out]
    go_wp2_with fail
    refine (rolledEast_any s _ HX.out HY.out).mono ?_
    rintro e w1 ⟨rfl, hb1⟩
    rw [← HR.out]
    have R1 := isS_to hb1 R0 rfl
    have q1 := below_to hb1 q0 q0.size rfl rfl rfl rfl
    clear hb1 a0 a1 a2 a3 a4 a5 a6 a7
    obtain ⟨l1, ⟨c0, c1, c2, c3, c4, c5, c6, c7⟩, f0, f1, f2, f3, f4, f5, f6, f7⟩ := R1.all
    go_wp2
    refine bodyPost_ret (ret_state Tryd.results100 rfl (R1.set8 r)) rfl ⟨rfl, ?_⟩
    exact below_set8 q1 (show w.heap.size ≤ w.heap.size + 1 from by omega) r
  · have HK := hide (show dirIx (115 : UInt8).toNat = 2 from by decide)
    rw [HK.out]
    obtain ⟨r, hr⟩ : ∃ r, r = rollT s 2 := ⟨_, rfl⟩
    rw [← hr]
    have HR := hide hr
    clear hr
    obtain ⟨l0, ⟨a0, a1, a2, a3, a4, a5, a6, a7⟩, -⟩ := S0.all
    go_enter Tryd.func100, Tryd.ntmps100
    go_upto_region 1 with (fail)
    rw [HW.out]
    go_wp2_with fail
    refine (rolledSouth_any s _ HX.out HY.out).mono ?_
    rintro e w1 ⟨rfl, hb1⟩
    rw [← HR.out]
    have R1 := isS_to hb1 R0 rfl
    have q1 := below_to hb1 q0 q0.size rfl rfl rfl rfl
    clear hb1 a0 a1 a2 a3 a4 a5 a6 a7
    obtain ⟨l1, ⟨c0, c1, c2, c3, c4, c5, c6, c7⟩, f0, f1, f2, f3, f4, f5, f6, f7⟩ := R1.all
    go_wp2
    refine bodyPost_ret (ret_state Tryd.results100 rfl (R1.set8 r)) rfl ⟨rfl, ?_⟩
    exact below_set8 q1 (show w.heap.size ≤ w.heap.size + 1 from by omega) r
  · have HK := hide (show dirIx (119 : UInt8).toNat = 3 from by decide)
    rw [HK.out]
    obtain ⟨r, hr⟩ : ∃ r, r = rollT s 3 := ⟨_, rfl⟩
    rw [← hr]
    have HR := hide hr
    clear hr
    obtain ⟨l0, ⟨a0, a1, a2, a3, a4, a5, a6, a7⟩, -⟩ := S0.all
    go_enter Tryd.func100, Tryd.ntmps100
    go_upto_region 1 with (fail)
    rw [HW.out]
    go_wp2_with fail
    refine (rolledWest_any s _ HX.out HY.out).mono ?_
    rintro e w1 ⟨rfl, hb1⟩
    rw [← HR.out]
    have R1 := isS_to hb1 R0 rfl
    have q1 := below_to hb1 q0 q0.size rfl rfl rfl rfl
    clear hb1 a0 a1 a2 a3 a4 a5 a6 a7
    obtain ⟨l1, ⟨c0, c1, c2, c3, c4, c5, c6, c7⟩, f0, f1, f2, f3, f4, f5, f6, f7⟩ := R1.all
    go_wp2
    refine bodyPost_ret (ret_state Tryd.results100 rfl (R1.set8 r)) rfl ⟨rfl, ?_⟩
    exact below_set8 q1 (show w.heap.size ≤ w.heap.size + 1 from by omega) r
end Go.Proofs.YthdkhikkdcjifaaDoor
