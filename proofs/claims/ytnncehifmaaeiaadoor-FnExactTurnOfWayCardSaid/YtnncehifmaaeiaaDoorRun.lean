/- Contracts: dice rolled along words. -/
import Derived.Test.YtnncehifmaaeiaaDoorDie
import Derived.Test.YtnncehifmaaeiaaDoorWord
import Derived.StillTailTactics
namespace Go.Proofs.YtnncehifmaaeiaaDoor
set_option maxRecDepth 100000
set_option linter.all false
open Go.RowKit

theorem runC_snoc (d : D) (s : ByteArray) (k : Nat) (h : k < s.size) : runC d (s.data.toList.take (k + 1)) = rollC s[k].toNat (runC d (s.data.toList.take k)) := by
  rw [take_snoc s k h]; simp [runC]

set_option maxHeartbeats 400000 in
theorem rolledAlong_any (d : D) (s : ByteArray) (w : World) (hs : s.size ≤ maxLen) :
    Calls Tryd.prog 35 #[D.v d, .string s] w fun e w' => e = .returned (D.v (runC d s.data.toList)) ∧ Below w.heap.size w w' := by
  unfold maxLen at hs
  go_enter Tryd.func35, Tryd.ntmps35
  go_wp2
  go_loopw [8] (fun i wr => ∃ k : Nat, k ≤ s.size ∧ i = .int .i64 k ∧ IsD wr w.heap.size (runC d (s.data.toList.take k)) 29 ∧ IsD wr (w.heap.size + 1) zeroD 29 ∧ Below w.heap.size w wr) (fun i _ => s.size - (intOf i).toNat)
  case atStart => exact ⟨0, Nat.zero_le _, rfl, (IsD.new (d := d)).alloc _, by simpa [zeroD] using IsD.new (w := w.alloc (.cells #[.int .i64 d.t, .int .i64 d.n, .int .i64 d.e, .int .i64 d.s, .int .i64 d.w, .int .i64 d.b] 29)) (d := zeroD), by go_grown⟩
  case round =>
    obtain ⟨k, hk, rfl, h1, h2, hb⟩ := hrel
    generalize hx : runC d (s.data.toList.take k) = x at h1
    have HX := hide hx
    clear hx
    by_cases hlt : k < s.size
    · obtain ⟨⟨c0, c1, c2, c3, c4, c5⟩, f0, f1, f2, f3, f4, f5⟩ := h1.cells
      go_wp2_with fail
      go_still_tail 4, (by kernel_rfl)
      go_wp2_with fail
      clear c0 c1 c2 c3 c4 c5 f0 f1 f2 f3 f4 f5
      refine (rolled_any _ x _).mono ?_
      rintro e w1 ⟨rfl, hb1⟩
      have g1 := h1.below (w0 := wr.drew) rfl hb1
      have g2 := h2.below (w0 := wr.drew) rfl hb1
      have hbb : Below w.heap.size w w1 := below_after hb.drew hb1 hb.size
      clear hb1 hb h1 h2
      obtain ⟨⟨c0, c1, c2, c3, c4, c5⟩, f0, f1, f2, f3, f4, f5⟩ := g1.cells
      go_wp2
      go_roundw
      case rel =>
        refine ⟨k + 1, by omega, by go_num, ?_, ?_, ?_⟩
        · rw [runC_snoc d s k hlt, HX.out]
          exact g1.set6 (rollC s[k].toNat x)
        · exact ((((((g2.other (by simp) _).other (by simp) _).other (by simp) _).other (by simp) _).other (by simp) _).other (by simp) _)
        · exact hbb |>.setCell (by simp) _ |>.setCell (by simp) _ |>.setCell (by simp) _ |>.setCell (by simp) _ |>.setCell (by simp) _ |>.setCell (by simp) _
      case measure => simp [intOf]; omega
    · obtain ⟨⟨c0, c1, c2, c3, c4, c5⟩, _⟩ := h1.cells
      obtain ⟨⟨d0, d1, d2, d3, d4, d5⟩, f0, f1, f2, f3, f4, f5⟩ := h2.cells
      go_wp2
      refine bodyPost_ret (ret_die Tryd.results35 rfl (h2.set6 x)) rfl ⟨?_, ?_⟩
      · rw [← HX.out, List.take_of_length_le (by simp; omega)]
      · exact hb |>.setCell (by simp) _ |>.setCell (by simp) _ |>.setCell (by simp) _ |>.setCell (by simp) _ |>.setCell (by simp) _ |>.setCell (by simp) _

theorem runK_snoc (d : D) (s : ByteArray) (k : Nat) (h : k < s.size) : runK d (s.data.toList.take (k + 1)) = rollK (dirIx s[k].toNat) (runK d (s.data.toList.take k)) := by
  rw [take_snoc s k h]; simp [runK]
set_option maxHeartbeats 400000 in
theorem diRun_any (d : D) (s : ByteArray) (w : World) (hs : s.size ≤ maxLen) :
    Calls Tryd.prog 18 #[D.v d, .string s] w fun e w' => e = .returned (D.v (runK d s.data.toList)) ∧ Below w.heap.size w w' := by
  unfold maxLen at hs
  go_enter Tryd.func18, Tryd.ntmps18
  go_wp2
  go_loopw [5] (fun i wr => ∃ k : Nat, k ≤ s.size ∧ i = .int .i64 k ∧ IsD wr w.heap.size (runK d (s.data.toList.take k)) 29 ∧ IsD wr (w.heap.size + 1) zeroD 29 ∧ Below w.heap.size w wr) (fun i _ => s.size - (intOf i).toNat)
  case atStart => exact ⟨0, Nat.zero_le _, rfl, (IsD.new (d := d)).alloc _, by simpa [zeroD] using IsD.new (w := w.alloc (.cells #[.int .i64 d.t, .int .i64 d.n, .int .i64 d.e, .int .i64 d.s, .int .i64 d.w, .int .i64 d.b] 29)) (d := zeroD), by go_grown⟩
  case round =>
    obtain ⟨k, hk, rfl, h1, h2, hb⟩ := hrel
    generalize hx : runK d (s.data.toList.take k) = x at h1
    have HX := hide hx
    clear hx
    by_cases hlt : k < s.size
    · obtain ⟨⟨c0, c1, c2, c3, c4, c5⟩, f0, f1, f2, f3, f4, f5⟩ := h1.cells
      have D1 := hide (dirS_one s k hlt)
      go_wp2_with fail
      have q1 : IntKind.i64.wrap ((k : Int) + 1) = (k : Int) + 1 := IntWalk.i64_in _ (by omega)
      have q2 : ∀ wx : World, (Instr.slice 9 (.string s) (some (.int .i64 (k : Int))) (some (.int .i64 ((k : Int) + 1))) none).run Tryd.prog wx = .ok (.string (s.extract k (k + 1))) wx := fun wx => by
        have := run_slice_string (P := Tryd.prog) (w := wx) 9 s .i64 .i64 (k : Int) ((k : Int) + 1) Tryd.underlying9 (by omega) (by omega) (by omega)
        rw [this, Int.toNat_natCast, show ((k : Int) + 1).toNat = k + 1 from by omega]
      go_still_tail 7, (by kernel_rfl)
      clear q1 q2
      still_call ((diDir_any _ _).mono fun _ _ h => ⟨h.1, h.2.symm⟩)
      refine wpStill_nil ?_
      rw [D1.out]
      change wpList _ _ _ _ _ wr.drew
      go_wp2_with fail
      clear c0 c1 c2 c3 c4 c5 f0 f1 f2 f3 f4 f5
      refine (diRoll_any _ x _).mono ?_
      rintro e w1 ⟨rfl, hb1⟩
      have g1 := h1.below (w0 := wr.drew) rfl hb1
      have g2 := h2.below (w0 := wr.drew) rfl hb1
      have hbb : Below w.heap.size w w1 := below_after hb.drew hb1 hb.size
      clear hb1 hb h1 h2
      obtain ⟨⟨c0, c1, c2, c3, c4, c5⟩, f0, f1, f2, f3, f4, f5⟩ := g1.cells
      go_wp2
      go_roundw
      case rel =>
        refine ⟨k + 1, by omega, by go_num, ?_, ?_, ?_⟩
        · rw [runK_snoc d s k hlt, HX.out]
          exact g1.set6 (rollK (dirIx s[k].toNat) x)
        · exact ((((((g2.other (by simp) _).other (by simp) _).other (by simp) _).other (by simp) _).other (by simp) _).other (by simp) _)
        · exact hbb |>.setCell (by simp) _ |>.setCell (by simp) _ |>.setCell (by simp) _ |>.setCell (by simp) _ |>.setCell (by simp) _ |>.setCell (by simp) _
      case measure => simp [intOf]; omega
    · obtain ⟨⟨c0, c1, c2, c3, c4, c5⟩, _⟩ := h1.cells
      obtain ⟨⟨d0, d1, d2, d3, d4, d5⟩, f0, f1, f2, f3, f4, f5⟩ := h2.cells
      go_wp2
      refine bodyPost_ret (ret_die Tryd.results18 rfl (h2.set6 x)) rfl ⟨?_, ?_⟩
      · rw [← HX.out, List.take_of_length_le (by simp; omega)]
      · exact hb |>.setCell (by simp) _ |>.setCell (by simp) _ |>.setCell (by simp) _ |>.setCell (by simp) _ |>.setCell (by simp) _ |>.setCell (by simp) _
end Go.Proofs.YtnncehifmaaeiaaDoor
