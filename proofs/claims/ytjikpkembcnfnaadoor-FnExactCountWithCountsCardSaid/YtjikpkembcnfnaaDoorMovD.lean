/- What rolls a die and tells whether it fits: the closure of the program's rollBy. -/
import Derived.Test.YtjikpkembcnfnaaDoorDie
import Derived.Test.YtjikpkembcnfnaaDoorGood
import Derived.Test.YtjikpkembcnfnaaDoorState
import Derived.Test.YtjikpkembcnfnaaDoorRolls4
import Derived.Deep.RegionWith
import Derived.Deep.RegionHeld3
import Derived.Deep.DeepCutAuto
namespace Go.Proofs.YtjikpkembcnfnaaDoor
set_option maxRecDepth 100000
set_option linter.all false
open Go.RowKit

/-- The variables that the closure holds: what rolls, what fits. -/
def CloD (w : World) (r f : Nat) : Prop := w.heap[r]? = some (.cells #[.func (.func 114) #[] #[]] 153 (0, 0)) ∧ w.heap[f]? = some (.cells #[.func (.func 75) #[] #[]] 104 (0, 0))
theorem new_block (w : World) (o : Obj) : (w.alloc o).heap[w.heap.size]? = some o := by
  show (w.heap.push o)[w.heap.size]? = _
  simp
theorem heap_lt {w : World} {b : Nat} {o : Obj} (h : w.heap[b]? = some o) : b < w.heap.size := (Array.getElem?_eq_some_iff.1 h).1
theorem cloD_to {w w0 w1 : World} {r f : Nat} (hb : Below w0.heap.size w0 w1) (h : CloD w r f) (e : w0.heap = w.heap) : CloD w1 r f := by
  obtain ⟨h1, h2⟩ := h
  exact ⟨by rw [hb.block r (by rw [e]; exact heap_lt h1), e]; exact h1, by rw [hb.block f (by rw [e]; exact heap_lt h2), e]; exact h2⟩
theorem CloD.cells {w : World} {r f : Nat} (h : CloD w r f) : w.cell? ⟨r, 0, none⟩ = some (.func (.func 114) #[] #[]) ∧ w.cell? ⟨f, 0, none⟩ = some (.func (.func 75) #[] #[]) ∧ r < w.heap.size ∧ f < w.heap.size := by
  obtain ⟨h1, h2⟩ := h
  refine ⟨by simp [World.cell?, h1], by simp [World.cell?, h2], heap_lt h1, heap_lt h2⟩
theorem cell_set6D {w : World} {b c o : Nat} {u0 u1 u2 u3 u4 u5 : Value} (h : b ≠ c) : ((((((w.setCell ⟨b, 0, none⟩ u0).setCell ⟨b, 1, none⟩ u1).setCell ⟨b, 2, none⟩ u2).setCell ⟨b, 3, none⟩ u3).setCell ⟨b, 4, none⟩ u4).setCell ⟨b, 5, none⟩ u5).cell? ⟨c, o, none⟩ = w.cell? ⟨c, o, none⟩ := by
  simp [go_sem, h]
theorem rollByD_any (w : World) : Calls Tryd.prog 113 #[.func (.func 114) #[] #[], .func (.func 75) #[] #[]] w fun e w' => e = .returned (.func (.func 134) #[] #[.pointer (some ⟨w.heap.size, 0, none⟩), .pointer (some ⟨w.heap.size + 1, 0, none⟩)]) ∧ CloD w' w.heap.size (w.heap.size + 1) ∧ Below w.heap.size w w' := by
  go_enter Tryd.func113, Tryd.ntmps113
  go_wp2
  go_returns
  refine ⟨rfl, ⟨?_, ?_⟩, by go_grown⟩
  · rw [Below.heap_alloc _ _ _ (by simp)]
    exact new_block w _
  · have := new_block (w.alloc (.cells #[.func (.func 114) #[] #[]] 153)) (.cells #[.func (.func 75) #[] #[]] 104)
    simpa using this
set_option maxHeartbeats 1600000 in
theorem movedD_any (d : D) (c : UInt8) (r f : Nat) (w : World) (hC : CloD w r f) : Calls Tryd.prog 134 #[D.v d, .string ⟨[c].toArray⟩, .pointer (some ⟨r, 0, none⟩), .pointer (some ⟨f, 0, none⟩)] w fun e w' => e = .returned (.tuple #[D.v (rollC c.toNat d), .bool (goodB (rollC c.toNat d))]) ∧ Below w.heap.size w w' := by
  have di : ∀ wx : World, (Instr.index 9 (.string ⟨[c].toArray⟩) (.int .i64 0)).run Tryd.prog wx = .ok (.int .u8 (c.toNat : Int)) wx := fun _ => by kernel_rfl
  have I0 : IsD ((w.alloc (.cells #[.int .i64 d.t, .int .i64 d.n, .int .i64 d.e, .int .i64 d.s, .int .i64 d.w, .int .i64 d.b] 30)).alloc (.cells #[.int .i64 0, .int .i64 0, .int .i64 0, .int .i64 0, .int .i64 0, .int .i64 0] 30)) w.heap.size d 30 := IsD.new.alloc _
  have I1 : IsD ((w.alloc (.cells #[.int .i64 d.t, .int .i64 d.n, .int .i64 d.e, .int .i64 d.s, .int .i64 d.w, .int .i64 d.b] 30)).alloc (.cells #[.int .i64 0, .int .i64 0, .int .i64 0, .int .i64 0, .int .i64 0, .int .i64 0] 30)) (w.heap.size + 1) ⟨0, 0, 0, 0, 0, 0⟩ 30 := IsD.new2 (d := ⟨0, 0, 0, 0, 0, 0⟩)
  have q0 : Below w.heap.size w ((w.alloc (.cells #[.int .i64 d.t, .int .i64 d.n, .int .i64 d.e, .int .i64 d.s, .int .i64 d.w, .int .i64 d.b] 30)).alloc (.cells #[.int .i64 0, .int .i64 0, .int .i64 0, .int .i64 0, .int .i64 0, .int .i64 0] 30)) := by go_grown
  have C0 := cloD_to q0 hC rfl
  have hsz : w.heap.size + 2 ≤ ((w.alloc (.cells #[.int .i64 d.t, .int .i64 d.n, .int .i64 d.e, .int .i64 d.s, .int .i64 d.w, .int .i64 d.b] 30)).alloc (.cells #[.int .i64 0, .int .i64 0, .int .i64 0, .int .i64 0, .int .i64 0, .int .i64 0] 30)).heap.size := by simp
  have hfl := heap_lt hC.2
  generalize hW : (w.alloc (.cells #[.int .i64 d.t, .int .i64 d.n, .int .i64 d.e, .int .i64 d.s, .int .i64 d.w, .int .i64 d.b] 30)).alloc (.cells #[.int .i64 0, .int .i64 0, .int .i64 0, .int .i64 0, .int .i64 0, .int .i64 0] 30) = W0 at I0 I1 q0 C0 hsz
  have HW := hide hW
  clear hW hC
  obtain ⟨cr, cf, lr, lf⟩ := C0.cells
  obtain ⟨l0, ⟨a0, a1, a2, a3, a4, a5⟩, -⟩ := I0.all
  go_enter Tryd.func134, Tryd.ntmps134
  go_upto_region 1 with (fail)
  rw [HW.out]
  go_cut [8] (fun s8 wx => ∃ bt, s8 = .pointer (some ⟨bt, 0, none⟩) ∧ IsD wx bt (rollC c.toNat d) 30 ∧ Below W0.heap.size W0 wx ∧ W0.heap.size ≤ bt)
  case first =>
    go_region_with (first | (go_at_call 114; refine (rolled_any _ d _).mono ?_; rintro e w1 ⟨rfl, hb1⟩; obtain ⟨hc1, hf1⟩ := bcell hb1))
    all_goals (go_wp2_with fail)
    all_goals go_meet
    all_goals (refine ⟨_, rfl, ?_, ?_, ?_⟩)
    all_goals (clear a0 a1 a2 a3 a4 a5 cr cf di hc1 hf1)
    all_goals (first | (exact Nat.le_refl _) | (exact hb1.size) | (with_reducible exact IsD.new (d := rollC c.toNat d)) | (with_reducible refine IsD.set6 (d := ⟨0, 0, 0, 0, 0, 0⟩) ?_ (rollC c.toNat d)) | (with_reducible refine below_set6 ?_ (Nat.le_refl _) (rollC c.toNat d)) | (with_reducible refine Below.alloc ?_ ?_ _))
    all_goals (first | (exact hb1.size) | (exact isD_to hb1 (IsD.new (w := W0) (d := ⟨0, 0, 0, 0, 0, 0⟩)) rfl) | (exact below_to hb1 (Below.refl _ W0) (Nat.le_refl _) rfl rfl rfl rfl) | (exact below_to hb1 ((Below.refl _ W0).alloc (Nat.le_refl _) _) (by simp) rfl rfl rfl rfl))
  case rest =>
    obtain ⟨bt, rfl, hT, hB, hbt⟩ := hcut
    have I2 := isD_to hB I1 rfl
    have C2 := cloD_to hB C0 rfl
    have q2 := below_to hB q0 q0.size rfl rfl rfl rfl
    clear a0 a1 a2 a3 a4 a5 cr cf di l0 lr lf I0 I1 C0 hB q0
    generalize hr2 : rollC c.toNat d = r2 at hT
    have HR2 := hide hr2
    clear hr2
    obtain ⟨lT, ⟨t0, t1, t2, t3, t4, t5⟩, -⟩ := hT.all
    obtain ⟨-, cf, -, lf⟩ := C2.cells
    go_wp2_with fail
    go_region_with (first | (go_at_call 75; refine (isDie_any r2 _).mono ?_; rintro e w5 ⟨rfl, hb5⟩; have I5 := isD_to hb5 I2 rfl; have T5 := isD_to hb5 hT rfl; have q5 := below_to hb5 q2 q2.size rfl rfl rfl rfl; obtain ⟨l5, ⟨e0, e1, e2, e3, e4, e5⟩, -⟩ := T5.all; obtain ⟨l6, ⟨h0, h1, h2, h3, h4, h5⟩, f0, f1, f2, f3, f4, f5⟩ := I5.all; obtain ⟨-, cf5, -, lf5⟩ := (cloD_to hb5 C2 rfl).cells; clear hb5))
    all_goals
      go_wp2
      refine bodyPost_ret (ret_die2 Tryd.results134 rfl rfl (I5.set6 r2)) rfl ⟨by rw [HR2.out], ?_⟩
      exact below_set6 q5 (by omega) r2
end Go.Proofs.YtjikpkembcnfnaaDoor
