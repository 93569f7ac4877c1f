/- The contracts of the four rolls, rollTo. -/
import Derived.Test.YthdkhikkdcjifaaDoorRollT
import Derived.Test.YthdkhikkdcjifaaDoorState
import Derived.Test.YthdkhikkdcjifaaDoorWords
import Derived.Test.YthdkhikkdcjifaaDoorDie
import Derived.Deep.Cut
import Derived.Deep.RegionHeld3
import Derived.Deep.QuietTactic
import Derived.BigQuiet
namespace Go.Proofs.YthdkhikkdcjifaaDoor
set_option maxRecDepth 100000
set_option linter.all false
open Go.RowKit

theorem cell_set8 {w : World} {b c o : Nat} {u0 u1 u2 u3 u4 u5 u6 u7 : Value} (h : b ≠ c) : ((((((((w.setCell ⟨b, 0, none⟩ u0).setCell ⟨b, 1, none⟩ u1).setCell ⟨b, 2, none⟩ u2).setCell ⟨b, 3, none⟩ u3).setCell ⟨b, 4, none⟩ u4).setCell ⟨b, 5, none⟩ u5).setCell ⟨b, 6, none⟩ u6).setCell ⟨b, 7, none⟩ u7).cell? ⟨c, o, none⟩ = w.cell? ⟨c, o, none⟩ := by
  have hd : ∀ j, (⟨b, j, none⟩ : Addr) ≠ ⟨c, o, none⟩ := fun j e => h (by injection e)
  rw [World.cell?_setCell_other _ _ _ _ (hd 7), World.cell?_setCell_other _ _ _ _ (hd 6), World.cell?_setCell_other _ _ _ _ (hd 5), World.cell?_setCell_other _ _ _ _ (hd 4), World.cell?_setCell_other _ _ _ _ (hd 3), World.cell?_setCell_other _ _ _ _ (hd 2), World.cell?_setCell_other _ _ _ _ (hd 1), World.cell?_setCell_other _ _ _ _ (hd 0)]

set_option maxHeartbeats 1600000 in
theorem rolledNorth_any (s : St) (w : World) (hx : -100000 ≤ s.x ∧ s.x ≤ 100000) (hy : -100000 ≤ s.y ∧ s.y ≤ 100000) : Calls Tryd.prog 123 #[St.v s] w fun e w' => e = .returned (St.v (rollT s 0)) ∧ Below w.heap.size w w' := by
  obtain ⟨x0, x1⟩ := hx
  obtain ⟨y0, y1⟩ := hy
  have HR := hide (show rollT s 0 = ⟨s.x, s.y - 1, rollN s.d⟩ from rfl)
  have HC := hide (show rollC 110 s.d = rollN s.d from rfl)
  have S0 := (IsS.new (w := w) (s := s) (ty := 30)).alloc (.cells #[.int .i64 0, .int .i64 0, .int .i64 0, .int .i64 0, .int .i64 0, .int .i64 0, .int .i64 0, .int .i64 0] 30)
  have R0 := IsS.new2 (w := w) (o := (.cells #[.int .i64 s.x, .int .i64 s.y, .int .i64 s.d.t, .int .i64 s.d.n, .int .i64 s.d.e, .int .i64 s.d.s, .int .i64 s.d.w, .int .i64 s.d.b] 30)) (s := ⟨0, 0, ⟨0, 0, 0, 0, 0, 0⟩⟩) (ty := 30)
  have q0 : Below w.heap.size w ((w.alloc (.cells #[.int .i64 s.x, .int .i64 s.y, .int .i64 s.d.t, .int .i64 s.d.n, .int .i64 s.d.e, .int .i64 s.d.s, .int .i64 s.d.w, .int .i64 s.d.b] 30)).alloc (.cells #[.int .i64 0, .int .i64 0, .int .i64 0, .int .i64 0, .int .i64 0, .int .i64 0, .int .i64 0, .int .i64 0] 30)) := by go_grown
  have Q1w : IntKind.i64.wrap (s.y - 1) = s.y - 1 := IntWalk.i64_in _ (by omega)
  go_enter Tryd.func123, Tryd.ntmps123
  go_wp2_with fail
  generalize (w.alloc (.cells #[.int .i64 s.x, .int .i64 s.y, .int .i64 s.d.t, .int .i64 s.d.n, .int .i64 s.d.e, .int .i64 s.d.s, .int .i64 s.d.w, .int .i64 s.d.b] 30)).alloc (.cells #[.int .i64 0, .int .i64 0, .int .i64 0, .int .i64 0, .int .i64 0, .int .i64 0, .int .i64 0, .int .i64 0] 30) = W0 at S0 R0 q0 ⊢
  obtain ⟨l0, ⟨a0, a1, a2, a3, a4, a5, a6, a7⟩, -⟩ := S0.all
  clear l0
  go_region_held3 (fun w' => w'.cell? ⟨w.heap.size, 0, none⟩ = some (.int .i64 s.x) ∧ w'.cell? ⟨w.heap.size, 1, none⟩ = some (.int .i64 s.y) ∧ w'.cell? ⟨w.heap.size, 2, none⟩ = some (.int .i64 s.d.t) ∧ w'.cell? ⟨w.heap.size, 3, none⟩ = some (.int .i64 s.d.n) ∧ w'.cell? ⟨w.heap.size, 4, none⟩ = some (.int .i64 s.d.e) ∧ w'.cell? ⟨w.heap.size, 5, none⟩ = some (.int .i64 s.d.s) ∧ w'.cell? ⟨w.heap.size, 6, none⟩ = some (.int .i64 s.d.w) ∧ w'.cell? ⟨w.heap.size, 7, none⟩ = some (.int .i64 s.d.b)) (first | (refine ⟨?_, ?_, ?_, ?_, ?_, ?_, ?_, ?_⟩ <;> (rw [cell_set8 (by omega)]; with_reducible assumption)) | (refine ⟨?_, ?_, ?_, ?_, ?_, ?_, ?_, ?_⟩ <;> with_reducible assumption) | (refine ⟨?_, ?_, ?_, ?_, ?_, ?_, ?_, ?_⟩ <;> assumption))
    (first
      | (go_at_call 143; (refine (rolled_any 110 s.d _).mono ?_); rintro e w1 ⟨rfl, hb1⟩; rw [HC.out]; obtain ⟨m0, ⟨b0, b1, b2, b3, b4, b5, b6, b7⟩, -⟩ := (isS_to hb1 S0 rfl).all; have R1 := isS_to hb1 R0 rfl; have Q1 := below_to hb1 q0 q0.size rfl rfl rfl rfl; obtain ⟨m1, ⟨c0, c1, c2, c3, c4, c5, c6, c7⟩, f0, f1, f2, f3, f4, f5, f6, f7⟩ := R1.all; clear hb1))
  go_wp2
  refine bodyPost_ret (ret_state Tryd.results123 rfl (R1.set8 ⟨s.x, s.y - 1, rollN s.d⟩)) rfl ⟨by rw [HR.out], ?_⟩
  exact below_set8 Q1 (show w.heap.size ≤ w.heap.size + 1 from by omega) ⟨s.x, s.y - 1, rollN s.d⟩

set_option maxHeartbeats 1600000 in
theorem rolledEast_any (s : St) (w : World) (hx : -100000 ≤ s.x ∧ s.x ≤ 100000) (hy : -100000 ≤ s.y ∧ s.y ≤ 100000) : Calls Tryd.prog 124 #[St.v s] w fun e w' => e = .returned (St.v (rollT s 1)) ∧ Below w.heap.size w w' := by
  obtain ⟨x0, x1⟩ := hx
  obtain ⟨y0, y1⟩ := hy
  have HR := hide (show rollT s 1 = ⟨s.x + 1, s.y, rollE s.d⟩ from rfl)
  have HC := hide (show rollC 101 s.d = rollE s.d from rfl)
  have S0 := (IsS.new (w := w) (s := s) (ty := 30)).alloc (.cells #[.int .i64 0, .int .i64 0, .int .i64 0, .int .i64 0, .int .i64 0, .int .i64 0, .int .i64 0, .int .i64 0] 30)
  have R0 := IsS.new2 (w := w) (o := (.cells #[.int .i64 s.x, .int .i64 s.y, .int .i64 s.d.t, .int .i64 s.d.n, .int .i64 s.d.e, .int .i64 s.d.s, .int .i64 s.d.w, .int .i64 s.d.b] 30)) (s := ⟨0, 0, ⟨0, 0, 0, 0, 0, 0⟩⟩) (ty := 30)
  have q0 : Below w.heap.size w ((w.alloc (.cells #[.int .i64 s.x, .int .i64 s.y, .int .i64 s.d.t, .int .i64 s.d.n, .int .i64 s.d.e, .int .i64 s.d.s, .int .i64 s.d.w, .int .i64 s.d.b] 30)).alloc (.cells #[.int .i64 0, .int .i64 0, .int .i64 0, .int .i64 0, .int .i64 0, .int .i64 0, .int .i64 0, .int .i64 0] 30)) := by go_grown
  have Q1w : IntKind.i64.wrap (s.x + 1) = s.x + 1 := IntWalk.i64_in _ (by omega)
  go_enter Tryd.func124, Tryd.ntmps124
  go_wp2_with fail
  generalize (w.alloc (.cells #[.int .i64 s.x, .int .i64 s.y, .int .i64 s.d.t, .int .i64 s.d.n, .int .i64 s.d.e, .int .i64 s.d.s, .int .i64 s.d.w, .int .i64 s.d.b] 30)).alloc (.cells #[.int .i64 0, .int .i64 0, .int .i64 0, .int .i64 0, .int .i64 0, .int .i64 0, .int .i64 0, .int .i64 0] 30) = W0 at S0 R0 q0 ⊢
  obtain ⟨l0, ⟨a0, a1, a2, a3, a4, a5, a6, a7⟩, -⟩ := S0.all
  clear l0
  go_region_held3 (fun w' => w'.cell? ⟨w.heap.size, 0, none⟩ = some (.int .i64 s.x) ∧ w'.cell? ⟨w.heap.size, 1, none⟩ = some (.int .i64 s.y) ∧ w'.cell? ⟨w.heap.size, 2, none⟩ = some (.int .i64 s.d.t) ∧ w'.cell? ⟨w.heap.size, 3, none⟩ = some (.int .i64 s.d.n) ∧ w'.cell? ⟨w.heap.size, 4, none⟩ = some (.int .i64 s.d.e) ∧ w'.cell? ⟨w.heap.size, 5, none⟩ = some (.int .i64 s.d.s) ∧ w'.cell? ⟨w.heap.size, 6, none⟩ = some (.int .i64 s.d.w) ∧ w'.cell? ⟨w.heap.size, 7, none⟩ = some (.int .i64 s.d.b)) (first | (refine ⟨?_, ?_, ?_, ?_, ?_, ?_, ?_, ?_⟩ <;> (rw [cell_set8 (by omega)]; with_reducible assumption)) | (refine ⟨?_, ?_, ?_, ?_, ?_, ?_, ?_, ?_⟩ <;> with_reducible assumption) | (refine ⟨?_, ?_, ?_, ?_, ?_, ?_, ?_, ?_⟩ <;> assumption))
    (first
      | (go_at_call 143; (refine (rolled_any 101 s.d _).mono ?_); rintro e w1 ⟨rfl, hb1⟩; rw [HC.out]; obtain ⟨m0, ⟨b0, b1, b2, b3, b4, b5, b6, b7⟩, -⟩ := (isS_to hb1 S0 rfl).all; have R1 := isS_to hb1 R0 rfl; have Q1 := below_to hb1 q0 q0.size rfl rfl rfl rfl; obtain ⟨m1, ⟨c0, c1, c2, c3, c4, c5, c6, c7⟩, f0, f1, f2, f3, f4, f5, f6, f7⟩ := R1.all; clear hb1))
  go_wp2
  refine bodyPost_ret (ret_state Tryd.results124 rfl (R1.set8 ⟨s.x + 1, s.y, rollE s.d⟩)) rfl ⟨by rw [HR.out], ?_⟩
  exact below_set8 Q1 (show w.heap.size ≤ w.heap.size + 1 from by omega) ⟨s.x + 1, s.y, rollE s.d⟩

set_option maxHeartbeats 1600000 in
theorem rolledSouth_any (s : St) (w : World) (hx : -100000 ≤ s.x ∧ s.x ≤ 100000) (hy : -100000 ≤ s.y ∧ s.y ≤ 100000) : Calls Tryd.prog 125 #[St.v s] w fun e w' => e = .returned (St.v (rollT s 2)) ∧ Below w.heap.size w w' := by
  obtain ⟨x0, x1⟩ := hx
  obtain ⟨y0, y1⟩ := hy
  have HR := hide (show rollT s 2 = ⟨s.x, s.y + 1, rollS s.d⟩ from rfl)
  have HC := hide (show rollC 115 s.d = rollS s.d from rfl)
  have S0 := (IsS.new (w := w) (s := s) (ty := 30)).alloc (.cells #[.int .i64 0, .int .i64 0, .int .i64 0, .int .i64 0, .int .i64 0, .int .i64 0, .int .i64 0, .int .i64 0] 30)
  have R0 := IsS.new2 (w := w) (o := (.cells #[.int .i64 s.x, .int .i64 s.y, .int .i64 s.d.t, .int .i64 s.d.n, .int .i64 s.d.e, .int .i64 s.d.s, .int .i64 s.d.w, .int .i64 s.d.b] 30)) (s := ⟨0, 0, ⟨0, 0, 0, 0, 0, 0⟩⟩) (ty := 30)
  have q0 : Below w.heap.size w ((w.alloc (.cells #[.int .i64 s.x, .int .i64 s.y, .int .i64 s.d.t, .int .i64 s.d.n, .int .i64 s.d.e, .int .i64 s.d.s, .int .i64 s.d.w, .int .i64 s.d.b] 30)).alloc (.cells #[.int .i64 0, .int .i64 0, .int .i64 0, .int .i64 0, .int .i64 0, .int .i64 0, .int .i64 0, .int .i64 0] 30)) := by go_grown
  have Q1w : IntKind.i64.wrap (s.y + 1) = s.y + 1 := IntWalk.i64_in _ (by omega)
  go_enter Tryd.func125, Tryd.ntmps125
  go_wp2_with fail
  generalize (w.alloc (.cells #[.int .i64 s.x, .int .i64 s.y, .int .i64 s.d.t, .int .i64 s.d.n, .int .i64 s.d.e, .int .i64 s.d.s, .int .i64 s.d.w, .int .i64 s.d.b] 30)).alloc (.cells #[.int .i64 0, .int .i64 0, .int .i64 0, .int .i64 0, .int .i64 0, .int .i64 0, .int .i64 0, .int .i64 0] 30) = W0 at S0 R0 q0 ⊢
  obtain ⟨l0, ⟨a0, a1, a2, a3, a4, a5, a6, a7⟩, -⟩ := S0.all
  clear l0
  go_region_held3 (fun w' => w'.cell? ⟨w.heap.size, 0, none⟩ = some (.int .i64 s.x) ∧ w'.cell? ⟨w.heap.size, 1, none⟩ = some (.int .i64 s.y) ∧ w'.cell? ⟨w.heap.size, 2, none⟩ = some (.int .i64 s.d.t) ∧ w'.cell? ⟨w.heap.size, 3, none⟩ = some (.int .i64 s.d.n) ∧ w'.cell? ⟨w.heap.size, 4, none⟩ = some (.int .i64 s.d.e) ∧ w'.cell? ⟨w.heap.size, 5, none⟩ = some (.int .i64 s.d.s) ∧ w'.cell? ⟨w.heap.size, 6, none⟩ = some (.int .i64 s.d.w) ∧ w'.cell? ⟨w.heap.size, 7, none⟩ = some (.int .i64 s.d.b)) (first | (refine ⟨?_, ?_, ?_, ?_, ?_, ?_, ?_, ?_⟩ <;> (rw [cell_set8 (by omega)]; with_reducible assumption)) | (refine ⟨?_, ?_, ?_, ?_, ?_, ?_, ?_, ?_⟩ <;> with_reducible assumption) | (refine ⟨?_, ?_, ?_, ?_, ?_, ?_, ?_, ?_⟩ <;> assumption))
    (first
      | (go_at_call 143; (refine (rolled_any 115 s.d _).mono ?_); rintro e w1 ⟨rfl, hb1⟩; rw [HC.out]; obtain ⟨m0, ⟨b0, b1, b2, b3, b4, b5, b6, b7⟩, -⟩ := (isS_to hb1 S0 rfl).all; have R1 := isS_to hb1 R0 rfl; have Q1 := below_to hb1 q0 q0.size rfl rfl rfl rfl; obtain ⟨m1, ⟨c0, c1, c2, c3, c4, c5, c6, c7⟩, f0, f1, f2, f3, f4, f5, f6, f7⟩ := R1.all; clear hb1))
  go_wp2
  refine bodyPost_ret (ret_state Tryd.results125 rfl (R1.set8 ⟨s.x, s.y + 1, rollS s.d⟩)) rfl ⟨by rw [HR.out], ?_⟩
  exact below_set8 Q1 (show w.heap.size ≤ w.heap.size + 1 from by omega) ⟨s.x, s.y + 1, rollS s.d⟩

set_option maxHeartbeats 1600000 in
theorem rolledWest_any (s : St) (w : World) (hx : -100000 ≤ s.x ∧ s.x ≤ 100000) (hy : -100000 ≤ s.y ∧ s.y ≤ 100000) : Calls Tryd.prog 122 #[St.v s] w fun e w' => e = .returned (St.v (rollT s 3)) ∧ Below w.heap.size w w' := by
  obtain ⟨x0, x1⟩ := hx
  obtain ⟨y0, y1⟩ := hy
  have HR := hide (show rollT s 3 = ⟨s.x - 1, s.y, rollW s.d⟩ from rfl)
  have HC := hide (show rollC 119 s.d = rollW s.d from rfl)
  have S0 := (IsS.new (w := w) (s := s) (ty := 30)).alloc (.cells #[.int .i64 0, .int .i64 0, .int .i64 0, .int .i64 0, .int .i64 0, .int .i64 0, .int .i64 0, .int .i64 0] 30)
  have R0 := IsS.new2 (w := w) (o := (.cells #[.int .i64 s.x, .int .i64 s.y, .int .i64 s.d.t, .int .i64 s.d.n, .int .i64 s.d.e, .int .i64 s.d.s, .int .i64 s.d.w, .int .i64 s.d.b] 30)) (s := ⟨0, 0, ⟨0, 0, 0, 0, 0, 0⟩⟩) (ty := 30)
  have q0 : Below w.heap.size w ((w.alloc (.cells #[.int .i64 s.x, .int .i64 s.y, .int .i64 s.d.t, .int .i64 s.d.n, .int .i64 s.d.e, .int .i64 s.d.s, .int .i64 s.d.w, .int .i64 s.d.b] 30)).alloc (.cells #[.int .i64 0, .int .i64 0, .int .i64 0, .int .i64 0, .int .i64 0, .int .i64 0, .int .i64 0, .int .i64 0] 30)) := by go_grown
  have Q1w : IntKind.i64.wrap (s.x - 1) = s.x - 1 := IntWalk.i64_in _ (by omega)
  go_enter Tryd.func122, Tryd.ntmps122
  go_wp2_with fail
  generalize (w.alloc (.cells #[.int .i64 s.x, .int .i64 s.y, .int .i64 s.d.t, .int .i64 s.d.n, .int .i64 s.d.e, .int .i64 s.d.s, .int .i64 s.d.w, .int .i64 s.d.b] 30)).alloc (.cells #[.int .i64 0, .int .i64 0, .int .i64 0, .int .i64 0, .int .i64 0, .int .i64 0, .int .i64 0, .int .i64 0] 30) = W0 at S0 R0 q0 ⊢
  obtain ⟨l0, ⟨a0, a1, a2, a3, a4, a5, a6, a7⟩, -⟩ := S0.all
  clear l0
  go_region_held3 (fun w' => w'.cell? ⟨w.heap.size, 0, none⟩ = some (.int .i64 s.x) ∧ w'.cell? ⟨w.heap.size, 1, none⟩ = some (.int .i64 s.y) ∧ w'.cell? ⟨w.heap.size, 2, none⟩ = some (.int .i64 s.d.t) ∧ w'.cell? ⟨w.heap.size, 3, none⟩ = some (.int .i64 s.d.n) ∧ w'.cell? ⟨w.heap.size, 4, none⟩ = some (.int .i64 s.d.e) ∧ w'.cell? ⟨w.heap.size, 5, none⟩ = some (.int .i64 s.d.s) ∧ w'.cell? ⟨w.heap.size, 6, none⟩ = some (.int .i64 s.d.w) ∧ w'.cell? ⟨w.heap.size, 7, none⟩ = some (.int .i64 s.d.b)) (first | (refine ⟨?_, ?_, ?_, ?_, ?_, ?_, ?_, ?_⟩ <;> (rw [cell_set8 (by omega)]; with_reducible assumption)) | (refine ⟨?_, ?_, ?_, ?_, ?_, ?_, ?_, ?_⟩ <;> with_reducible assumption) | (refine ⟨?_, ?_, ?_, ?_, ?_, ?_, ?_, ?_⟩ <;> assumption))
    (first
      | (go_at_call 143; (refine (rolled_any 119 s.d _).mono ?_); rintro e w1 ⟨rfl, hb1⟩; rw [HC.out]; obtain ⟨m0, ⟨b0, b1, b2, b3, b4, b5, b6, b7⟩, -⟩ := (isS_to hb1 S0 rfl).all; have R1 := isS_to hb1 R0 rfl; have Q1 := below_to hb1 q0 q0.size rfl rfl rfl rfl; obtain ⟨m1, ⟨c0, c1, c2, c3, c4, c5, c6, c7⟩, f0, f1, f2, f3, f4, f5, f6, f7⟩ := R1.all; clear hb1))
  go_wp2
  refine bodyPost_ret (ret_state Tryd.results122 rfl (R1.set8 ⟨s.x - 1, s.y, rollW s.d⟩)) rfl ⟨by rw [HR.out], ?_⟩
  exact below_set8 Q1 (show w.heap.size ≤ w.heap.size + 1 from by omega) ⟨s.x - 1, s.y, rollW s.d⟩

/-- The function that a direction stands for. -/
def rollFn (c : UInt8) : FuncId := if c = 110 then 123 else if c = 101 then 124 else if c = 115 then 125 else 122
theorem rollFn_any (c : UInt8) (s : St) (w : World) (hc : 0 ≤ dirIx c.toNat) (hx : -100000 ≤ s.x ∧ s.x ≤ 100000) (hy : -100000 ≤ s.y ∧ s.y ≤ 100000) : Calls Tryd.prog (rollFn c) #[St.v s] w fun e w' => e = .returned (St.v (rollT s (dirIx c.toNat))) ∧ Below w.heap.size w w' := by
  rcases dir_cases c hc with rfl | rfl | rfl | rfl
  · exact rolledNorth_any s w hx hy
  · exact rolledEast_any s w hx hy
  · exact rolledSouth_any s w hx hy
  · exact rolledWest_any s w hx hy
theorem rollFn_fourT : ∀ (k : Nat) (_ : k < 4), rollFn (dirC k) = 123 ∨ rollFn (dirC k) = 124 ∨ rollFn (dirC k) = 125 ∨ rollFn (dirC k) = 122
  | 0, _ => .inl rfl
  | 1, _ => .inr (.inl rfl)
  | 2, _ => .inr (.inr (.inl rfl))
  | 3, _ => .inr (.inr (.inr rfl))
theorem dixT : ∀ {k : Nat} (_ : k < 4) (wx : World), (Instr.index 9 (.string ⟨#[110, 101, 115, 119]⟩) (.int .i64 (k : Int))).run Tryd.prog wx = .ok (.int .u8 ((dirC k).toNat : Int)) wx
  | 0, _, _ => by kernel_rfl
  | 1, _, _ => by kernel_rfl
  | 2, _, _ => by kernel_rfl
  | 3, _, _ => by kernel_rfl
end Go.Proofs.YthdkhikkdcjifaaDoor
