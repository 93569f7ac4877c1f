/- The comparison of states, as the program makes it; no condition. -/
import Derived.Test.YtbfclnigjijkbaaCmp
import Derived.Test.YtbfclnigjijkbaaLand
namespace Go.Proofs.Ytbfclnigjijkbaa
set_option maxRecDepth 100000
set_option linter.all false
open Go.RowKit

theorem cmpS_or (s t : St) : cmpL (keyS s) (keyS t) = (if cmpI s.y t.y ≠ 0 then cmpI s.y t.y else if cmpI s.x t.x ≠ 0 then cmpI s.x t.x else cmpL (keyD s.d) (keyD t.d)) := by
  show (if cmpI s.y t.y = 0 then (if cmpI s.x t.x = 0 then cmpL (keyD s.d) (keyD t.d) else cmpI s.x t.x) else cmpI s.y t.y) = _
  by_cases h1 : cmpI s.y t.y = 0
  · by_cases h2 : cmpI s.x t.x = 0 <;> simp [h1, h2]
  · simp [h1]
set_option maxHeartbeats 3200000 in
theorem compareStates_any (s t : St) (w : World) : Calls Try.prog 52 #[St.v s, St.v t] w fun x w' => x = .returned (.int .i64 (cmpL (keyS s) (keyS t))) ∧ Ext w w' := by
  have HO := hide (cmpS_or s t)
  generalize cmpL (keyS s) (keyS t) = r at HO ⊢
  have HOR := hide (show ∀ (b cap : Nat) (wx : World), wx.cell? ⟨b, 0, none⟩ = some (.int .i64 (cmpI s.y t.y)) → wx.cell? ⟨b, 1, none⟩ = some (.int .i64 (cmpI s.x t.x)) → wx.cell? ⟨b, 2, none⟩ = some (.int .i64 (cmpL (keyD s.d) (keyD t.d))) → Calls Try.prog 66 #[.slice (some ⟨b, 0, none⟩) 3 cap] wx fun e w' => e = .returned (.int .i64 r) ∧ wx = w' from fun b cap wx h0 h1 h2 => by rw [HO.out]; exact cmpOr_any b cap _ _ _ wx h0 h1 h2)
  go_enter Try.func52, Try.ntmps52
  go_wp2_with fail
  have S0 := (IsS.new (w := w) (s := s) (ty := 49)).alloc (.cells #[.int .i64 t.x, .int .i64 t.y, .int .i64 t.d.t, .int .i64 t.d.n, .int .i64 t.d.e, .int .i64 t.d.s, .int .i64 t.d.w, .int .i64 t.d.b] 49)
  have T0 := IsS.new2 (w := w) (o := (.cells #[.int .i64 s.x, .int .i64 s.y, .int .i64 s.d.t, .int .i64 s.d.n, .int .i64 s.d.e, .int .i64 s.d.s, .int .i64 s.d.w, .int .i64 s.d.b] 49)) (s := t) (ty := 49)
  have q0 : Ext w ((w.alloc (.cells #[.int .i64 s.x, .int .i64 s.y, .int .i64 s.d.t, .int .i64 s.d.n, .int .i64 s.d.e, .int .i64 s.d.s, .int .i64 s.d.w, .int .i64 s.d.b] 49)).alloc (.cells #[.int .i64 t.x, .int .i64 t.y, .int .i64 t.d.t, .int .i64 t.d.n, .int .i64 t.d.e, .int .i64 t.d.s, .int .i64 t.d.w, .int .i64 t.d.b] 49)) := ((Ext.refl w).alloc _).alloc _
  generalize (w.alloc (.cells #[.int .i64 s.x, .int .i64 s.y, .int .i64 s.d.t, .int .i64 s.d.n, .int .i64 s.d.e, .int .i64 s.d.s, .int .i64 s.d.w, .int .i64 s.d.b] 49)).alloc (.cells #[.int .i64 t.x, .int .i64 t.y, .int .i64 t.d.t, .int .i64 t.d.n, .int .i64 t.d.e, .int .i64 t.d.s, .int .i64 t.d.w, .int .i64 t.d.b] 49) = W0 at S0 T0 q0 ⊢
  obtain ⟨l0, ⟨a0, a1, a2, a3, a4, a5, a6, a7⟩, -⟩ := S0.all
  obtain ⟨l1, ⟨b0, b1, b2, b3, b4, b5, b6, b7⟩, -⟩ := T0.all
  go_region_held3 (fun wx => wx.cell? ⟨w.heap.size, 0, none⟩ = some (.int .i64 s.x) ∧ wx.cell? ⟨w.heap.size, 1, none⟩ = some (.int .i64 s.y) ∧ wx.cell? ⟨w.heap.size, 2, none⟩ = some (.int .i64 s.d.t) ∧ wx.cell? ⟨w.heap.size, 3, none⟩ = some (.int .i64 s.d.n) ∧ wx.cell? ⟨w.heap.size, 4, none⟩ = some (.int .i64 s.d.e) ∧ wx.cell? ⟨w.heap.size, 5, none⟩ = some (.int .i64 s.d.s) ∧ wx.cell? ⟨w.heap.size, 6, none⟩ = some (.int .i64 s.d.w) ∧ wx.cell? ⟨w.heap.size, 7, none⟩ = some (.int .i64 s.d.b) ∧ wx.cell? ⟨w.heap.size + 1, 0, none⟩ = some (.int .i64 t.x) ∧ wx.cell? ⟨w.heap.size + 1, 1, none⟩ = some (.int .i64 t.y) ∧ wx.cell? ⟨w.heap.size + 1, 2, none⟩ = some (.int .i64 t.d.t) ∧ wx.cell? ⟨w.heap.size + 1, 3, none⟩ = some (.int .i64 t.d.n) ∧ wx.cell? ⟨w.heap.size + 1, 4, none⟩ = some (.int .i64 t.d.e) ∧ wx.cell? ⟨w.heap.size + 1, 5, none⟩ = some (.int .i64 t.d.s) ∧ wx.cell? ⟨w.heap.size + 1, 6, none⟩ = some (.int .i64 t.d.w) ∧ wx.cell? ⟨w.heap.size + 1, 7, none⟩ = some (.int .i64 t.d.b)) (refine ⟨?_, ?_, ?_, ?_, ?_, ?_, ?_, ?_, ?_, ?_, ?_, ?_, ?_, ?_, ?_, ?_⟩ <;> (first | with_reducible assumption | (with_reducible (change W0.cell? _ = _); with_reducible assumption) | (rw [World.cell?_drew]; with_reducible assumption) | (rw [cell_alloc_lt (by first | omega | (simp; omega))]; with_reducible assumption) | (rw [World.cell?_drew]; rw [cell_alloc_lt (by first | omega | (simp; omega))]; with_reducible assumption)))
    (first
      | (go_at_call 67; (refine (cmpInt_any _ _ _).mono ?_); rintro x w1 ⟨rfl, rfl⟩)
      | (go_at_call 68; ((with_reducible refine (compareDice_any s.d t.d _).mono ?_)); rintro x w1 ⟨rfl, hb1⟩; have S1 := isS_to hb1.below S0 rfl; have T1 := isS_to hb1.below T0 rfl; have q1 := ext_to hb1 q0 rfl rfl rfl rfl (by first | exact Nat.le_succ _ | exact Nat.le_refl _); obtain ⟨l2, ⟨m0, m1, m2, m3, m4, m5, m6, m7⟩, -⟩ := S1.all; obtain ⟨l3, ⟨n0, n1, n2, n3, n4, n5, n6, n7⟩, -⟩ := T1.all)
      | (go_at_call 66; (refine (HOR.out w1.heap.size _ _ (by simp) (by simp) (by simp)).mono ?_); rintro x w2 ⟨rfl, rfl⟩))
  go_wp2
  go_returns
  exact ⟨rfl, q1.alloc _⟩
set_option maxHeartbeats 1600000 in
theorem landCmp_any (p q : Ld) (w : World) : Calls Try.prog 51 #[Ld.v p, Ld.v q] w fun x w' => x = .returned (.int .i64 (cmpL (keyS p.s) (keyS q.s))) ∧ Ext w w' := by
  generalize hr : cmpL (keyS p.s) (keyS q.s) = r
  have HR := hide hr
  clear hr
  go_enter Try.func51, Try.ntmps51
  go_wp2_with fail
  have S0 := (IsL.new (w := w) (q := p) (ty := 51)).alloc (.cells #[.int .i64 q.n, .int .i64 q.s.x, .int .i64 q.s.y, .int .i64 q.s.d.t, .int .i64 q.s.d.n, .int .i64 q.s.d.e, .int .i64 q.s.d.s, .int .i64 q.s.d.w, .int .i64 q.s.d.b, .int .i64 q.r] 51)
  have T0 := IsL.new (w := w.alloc (.cells #[.int .i64 p.n, .int .i64 p.s.x, .int .i64 p.s.y, .int .i64 p.s.d.t, .int .i64 p.s.d.n, .int .i64 p.s.d.e, .int .i64 p.s.d.s, .int .i64 p.s.d.w, .int .i64 p.s.d.b, .int .i64 p.r] 51)) (q := q) (ty := 51)
  have hz : (w.alloc (.cells #[.int .i64 p.n, .int .i64 p.s.x, .int .i64 p.s.y, .int .i64 p.s.d.t, .int .i64 p.s.d.n, .int .i64 p.s.d.e, .int .i64 p.s.d.s, .int .i64 p.s.d.w, .int .i64 p.s.d.b, .int .i64 p.r] 51)).heap.size = w.heap.size + 1 := by simp
  rw [hz] at T0
  have q0 : Ext w ((w.alloc (.cells #[.int .i64 p.n, .int .i64 p.s.x, .int .i64 p.s.y, .int .i64 p.s.d.t, .int .i64 p.s.d.n, .int .i64 p.s.d.e, .int .i64 p.s.d.s, .int .i64 p.s.d.w, .int .i64 p.s.d.b, .int .i64 p.r] 51)).alloc (.cells #[.int .i64 q.n, .int .i64 q.s.x, .int .i64 q.s.y, .int .i64 q.s.d.t, .int .i64 q.s.d.n, .int .i64 q.s.d.e, .int .i64 q.s.d.s, .int .i64 q.s.d.w, .int .i64 q.s.d.b, .int .i64 q.r] 51)) := ((Ext.refl w).alloc _).alloc _
  clear hz
  generalize (w.alloc (.cells #[.int .i64 p.n, .int .i64 p.s.x, .int .i64 p.s.y, .int .i64 p.s.d.t, .int .i64 p.s.d.n, .int .i64 p.s.d.e, .int .i64 p.s.d.s, .int .i64 p.s.d.w, .int .i64 p.s.d.b, .int .i64 p.r] 51)).alloc (.cells #[.int .i64 q.n, .int .i64 q.s.x, .int .i64 q.s.y, .int .i64 q.s.d.t, .int .i64 q.s.d.n, .int .i64 q.s.d.e, .int .i64 q.s.d.s, .int .i64 q.s.d.w, .int .i64 q.s.d.b, .int .i64 q.r] 51) = W0 at S0 T0 q0 ⊢
  obtain ⟨l0, ⟨a0, a1, a2, a3, a4, a5, a6, a7, a8, a9⟩, -⟩ := S0.all
  obtain ⟨l1, ⟨b0, b1, b2, b3, b4, b5, b6, b7, b8, b9⟩, -⟩ := T0.all
  go_wp2_with (go_at_call 52; ((with_reducible refine (compareStates_any p.s q.s _).mono ?_)); rintro x w1 ⟨rfl, hb1⟩)
  go_returns
  exact ⟨ret_int HR.out, q0.trans hb1⟩
end Go.Proofs.Ytbfclnigjijkbaa
