/- The program's mirroredText: slices.Reverse on each row of a six, in place. Condition: at most 1048576 bytes. -/
import Derived.Test.YtkknjokacinlaaaMir
import Derived.Test.YtkknjokacinlaaaNetH
namespace Go.Proofs.Ytkknjokacinlaaa
set_option maxRecDepth 100000
set_option linter.all false
open Go.RowKit

set_option maxHeartbeats 3200000 in
theorem reverse_any (g p W cap : Nat) (L : List UInt8) (hW : 1 ≤ W ∧ W ≤ 6) (hp : p + W ≤ L.length) (w : World) (hB : BufAt w g L) : Calls Try.prog 24 #[.slice (some ⟨g, p, none⟩) W cap] w fun e w' => e = .returned (.tuple #[]) ∧ BufAt w' g (revI L p W W) ∧ w.grownBy w' (some g) := by
  obtain ⟨W1, W6⟩ := hW
  have hwm : IntKind.i64.wrap ((W : Int) - 1) = ((W - 1 : Nat) : Int) := by rw [IntWalk.i64_in _ (by omega)]; omega
  have HB := hide hB
  clear hB
  go_enter Try.func24, Try.ntmps24
  go_wp2
  go_loopw [2, 3] (fun i j wr => ∃ k : Nat, k ≤ W ∧ i = .int .i64 (k : Int) ∧ j = .int .i64 ((W : Int) - 1 - (k : Int)) ∧ BufAt wr g (revI L p W k) ∧ w.grownBy wr (some g)) (fun i _ _ => W - (intOf i).toNat)
  case atStart => exact ⟨0, Nat.zero_le _, rfl, by rw [show ((W - 1 : Nat) : Int) = (W : Int) - 1 from by omega]; simp, by rw [revI_zero]; exact HB.out, .refl _ _⟩
  case round =>
    obtain ⟨k, hk, rfl, rfl, B, G⟩ := hrel
    by_cases hlt : 2 * k + 1 < W
    · obtain ⟨m, hm⟩ : ∃ m, m = W - 1 - k := ⟨_, rfl⟩
      have hj : ((W : Int) - 1 - (k : Int)) = (m : Int) := by omega
      have hkm : (k : Int) < (m : Int) := by omega
      have hkW : (k : Int) < (W : Int) := by omega
      have hmW : (m : Int) < (W : Int) := by omega
      have h1 := revI_lo (L := L) (i := k) hp hlt
      have h2 := revI_hi (L := L) (i := k) hp hlt
      have HSW := hide (revI_swap (L := L) (i := k) hp hlt)
      rw [← hm] at h2 HSW
      obtain ⟨c1, f1⟩ := B.cell h1
      obtain ⟨c2, f2⟩ := B.cell h2
      have HH2 := hide h2
      rw [hj]
      have HJ := hide hj
      have hne : p + k ≠ p + m := by omega
      have HB0 := hide B
      have HG := hide G
      clear h1 h2 hj hm B G
      generalize L.getD (p + k) 0 = a at *
      generalize L.getD (p + m) 0 = b at *
      go_upto_region 3 with (fail)
      have B3 := HB0.out.put (j := p + k) (by rw [revI_len]; omega) b
      obtain ⟨c3, f3⟩ := B3.cell (j := p + m) (c := b) (by rw [List.getElem?_set_ne hne]; exact HH2.out)
      have B4 := hide (B3.put (j := p + m) (by rw [List.length_set, revI_len]; omega) a)
      have G4 := hide (grown_trans (grown_trans HG.out (grown_setCell wr ⟨g, p + k, none⟩ (.int .u8 (b.toNat : Int)))) (grown_setCell _ ⟨g, p + m, none⟩ (.int .u8 (a.toNat : Int))))
      clear B3
      go_region
      all_goals
        trace_state
        go_wp2
        go_roundw
        case rel =>
          refine ⟨k + 1, by omega, by go_num, ?_, by rw [← HSW.out]; exact B4.out, G4.out.os, G4.out.tape, G4.out.output, G4.out.size, G4.out.block⟩
          have := HJ.out
          rw [show ((W : Int) - 1 - ((k + 1 : Nat) : Int)) = (m : Int) - 1 from by omega]
        case measure => simp [intOf] <;> omega
    · have hge : (W : Int) - 1 - (k : Int) ≤ (k : Int) := by omega
      have HE := hide (revI_end (L := L) (p := p) (W := W) (i := k) (by omega) hk)
      have HB0 := hide B
      have HG := hide G
      clear B G
      generalize hjj : (W : Int) - 1 - (k : Int) = j at hge ⊢
      clear hjj
      go_wp2
      go_returns
      exact ⟨rfl, by rw [← HE.out]; exact HB0.out, HG.out⟩
end Go.Proofs.Ytkknjokacinlaaa
