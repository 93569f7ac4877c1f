/- The contracts of hasItsLabel and matches. Condition: the face on top is a face. -/
import Derived.Test.YtmlfkcmmjmdhmaaDoorMatch
import Derived.Deep.RegionHeld3
namespace Go.Proofs.YtmlfkcmmjmdhmaaDoor
set_option maxRecDepth 100000
set_option linter.all false
open Go.RowKit

/-- Has a sign this face as its label? -/
def labB (c : UInt8) (t : Int) : Bool := decide ((c.toNat : Int) = 48 + t)
/-- Does this face match a sign? -/
def hitB (c : UInt8) (t : Int) : Bool := decide ((c.toNat : Int) = 46) || labB c t
theorem labAt_n {w : World} {h g : Nat} {L : List UInt8} {W H n : Nat} (hl : LabAt w h g L W H) : LabAt (w.drewN n) h g L W H := hl
theorem below_n {B : Nat} {a w : World} {n : Nat} (h : Below B a w) : Below B a (w.drewN n) := ⟨h.os, h.tape, h.output, h.size, h.block⟩
theorem beq_lab (c : UInt8) (t : Int) : (((c.toNat : Nat) : Int) == 48 + t) = labB c t := by
  unfold labB
  rw [Bool.eq_iff_iff]; simp
set_option maxHeartbeats 1600000 in
theorem hasItsLabel_any (L : List UInt8) (W H h g cap : Nat) (he : Even L W) (hH : (splitP L).length = H) (hW7 : W ≤ 7) (hH7 : H ≤ 7) (s : St) (h0 : 0 ≤ s.d.t) (h9 : s.d.t ≤ 9) (w : World) (ha : LabAt w h g L W H) :
    Calls Tryd.prog 31 #[.slice (some ⟨h, 0, none⟩) H cap, St.v s] w fun e w' => e = .returned (.bool (labB (cellI (splitP L) s.x s.y) s.d.t)) ∧ Below w.heap.size w w' := by
  have HL := hide (labAt_to (w0 := w) ((Below.refl _ _).alloc (Nat.le_refl _) (.cells #[.int .i64 s.x, .int .i64 s.y, .int .i64 s.d.t, .int .i64 s.d.n, .int .i64 s.d.e, .int .i64 s.d.s, .int .i64 s.d.w, .int .i64 s.d.b] 30)) ha rfl)
  have HC := hide (cellAtC_any L W H h g cap he hH hW7 hH7 s.x s.y)
  have HB := hide (beq_lab (cellI (splitP L) s.x s.y) s.d.t)
  generalize cellI (splitP L) s.x s.y = c at HC HB ⊢
  clear ha he hH
  have S0 := IsS.new (w := w) (s := s) (ty := 30)
  have q0 : Below w.heap.size w (w.alloc (.cells #[.int .i64 s.x, .int .i64 s.y, .int .i64 s.d.t, .int .i64 s.d.n, .int .i64 s.d.e, .int .i64 s.d.s, .int .i64 s.d.w, .int .i64 s.d.b] 30)) := by go_grown
  obtain ⟨l0, ⟨a0, a1, a2, a3, a4, a5, a6, a7⟩, -⟩ := S0.all
  go_enter Tryd.func31, Tryd.ntmps31
  go_wp2_with fail
  go_quiet (first
    | (go_at_call 30; refine Calls.quiet_of_same ((HC.out _ (labAt_n HL.out)).mono fun e w' hp => ⟨hp.1, hp.2.symm⟩))
    | (go_at_call 22; refine Calls.quiet_of_same (labelOf_any s.d.t h0 h9 _)))
  rw [HB.out]
  go_wp2
  go_returns
  exact ⟨rfl, below_n q0⟩
set_option maxHeartbeats 1600000 in
theorem matches_any (L : List UInt8) (W H h g cap : Nat) (he : Even L W) (hH : (splitP L).length = H) (hW7 : W ≤ 7) (hH7 : H ≤ 7) (s : St) (h0 : 0 ≤ s.d.t) (h9 : s.d.t ≤ 9) (w : World) (ha : LabAt w h g L W H) :
    Calls Tryd.prog 24 #[.slice (some ⟨h, 0, none⟩) H cap, St.v s] w fun e w' => e = .returned (.bool (hitB (cellI (splitP L) s.x s.y) s.d.t)) ∧ Below w.heap.size w w' := by
  have HL := hide (labAt_to (w0 := w) ((Below.refl _ _).alloc (Nat.le_refl _) (.cells #[.int .i64 s.x, .int .i64 s.y, .int .i64 s.d.t, .int .i64 s.d.n, .int .i64 s.d.e, .int .i64 s.d.s, .int .i64 s.d.w, .int .i64 s.d.b] 30)) ha rfl)
  have HC := hide (cellAtC_any L W H h g cap he hH hW7 hH7 s.x s.y)
  have HI := hide (hasItsLabel_any L W H h g cap he hH hW7 hH7 s h0 h9)
  have HB := hide (show hitB (cellI (splitP L) s.x s.y) s.d.t = (decide (((cellI (splitP L) s.x s.y).toNat : Int) = 46) || labB (cellI (splitP L) s.x s.y) s.d.t) from rfl)
  generalize cellI (splitP L) s.x s.y = c at HC HI HB ⊢
  clear ha he hH
  have S0 := IsS.new (w := w) (s := s) (ty := 30)
  have q0 : Below w.heap.size w (w.alloc (.cells #[.int .i64 s.x, .int .i64 s.y, .int .i64 s.d.t, .int .i64 s.d.n, .int .i64 s.d.e, .int .i64 s.d.s, .int .i64 s.d.w, .int .i64 s.d.b] 30)) := by go_grown
  have HS := hide S0
  obtain ⟨l0, ⟨a0, a1, a2, a3, a4, a5, a6, a7⟩, -⟩ := S0.all
  clear S0
  cases hd : decide ((c.toNat : Int) = 46)
  · have r1 := eq46' hd
    have HD := hide hd
    clear hd
    go_enter Tryd.func24, Tryd.ntmps24
    go_wp2_with fail
    refine (HC.out _ HL.out).mono ?_
    rintro e w1 ⟨rfl, rfl⟩
    go_wp2_with fail
    refine (HI.out _ HL.out).mono ?_
    rintro e w2 ⟨rfl, hb2⟩
    have q2 := below_after q0 hb2 q0.size
    generalize hlb : labB c s.d.t = lb at HB ⊢
    have HLB := hide hlb
    clear hlb hb2
    go_wp2
    go_returns
    exact ⟨ret_bool (by rw [HB.out, HD.out]; rfl), q2⟩
  · have r1 := eq46' hd
    have HD := hide hd
    clear hd
    go_enter Tryd.func24, Tryd.ntmps24
    go_wp2_with fail
    refine (HC.out _ HL.out).mono ?_
    rintro e w1 ⟨rfl, rfl⟩
    go_wp2
    go_returns
    exact ⟨ret_bool (by rw [HB.out, HD.out]; rfl), q0⟩
end Go.Proofs.YtmlfkcmmjmdhmaaDoor
