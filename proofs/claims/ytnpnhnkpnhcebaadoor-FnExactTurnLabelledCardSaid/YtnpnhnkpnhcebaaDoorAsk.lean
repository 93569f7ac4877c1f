/- The contracts of asked states: boAsked, rowsUnder. -/
import Derived.Test.YtnpnhnkpnhcebaaDoorStates
import Derived.Deep.RegionHeld3
import Derived.StillTailTactics
namespace Go.Proofs.YtnpnhnkpnhcebaaDoor
set_option maxRecDepth 100000
set_option linter.all false
open Go.RowKit

theorem cell_set3 {w : World} {b c o : Nat} {u0 u1 u2 : Value} (h : b ≠ c) : (((w.setCell ⟨b, 0, none⟩ u0).setCell ⟨b, 1, none⟩ u1).setCell ⟨b, 2, none⟩ u2).cell? ⟨c, o, none⟩ = w.cell? ⟨c, o, none⟩ := by
  have hd : ∀ j, (⟨b, j, none⟩ : Addr) ≠ ⟨c, o, none⟩ := fun j e => h (by injection e)
  rw [World.cell?_setCell_other _ _ _ _ (hd 2), World.cell?_setCell_other _ _ _ _ (hd 1), World.cell?_setCell_other _ _ _ _ (hd 0)]

/-! ### rowsUnder -/
set_option maxHeartbeats 800000 in
theorem rowsUnder_bad (s : ByteArray) (t : St) (w : World) (hs : s.size ≤ 1048576) (hg : Glob w) (h : isBd s.data.toList = false) : Calls Tryd.prog 39 #[.string s, St.v t] w fun e w' => e = .returned (.tuple #[.slice none 0 0, .bool false]) ∧ Below w.heap.size w w' := by
  have HG := hide (show Glob (w.alloc (.cells #[.int .i64 t.x, .int .i64 t.y, .int .i64 t.d.t, .int .i64 t.d.n, .int .i64 t.d.e, .int .i64 t.d.s, .int .i64 t.d.w, .int .i64 t.d.b] 33)) from glob_to (w0 := w) ((Below.refl _ _).alloc (Nat.le_refl _) _) hg rfl)
  have H := hide h
  clear h hg
  go_enter Tryd.func39, Tryd.ntmps39
  go_wp2_with fail
  refine (rowsOf_no s _ hs HG.out H.out).mono ?_
  rintro e w1 ⟨rfl, hb1⟩
  have q1 : Below w.heap.size w w1 := below_after (by go_grown) hb1 (by simp)
  go_wp2
  go_returns
  exact ⟨rfl, q1⟩
set_option maxHeartbeats 800000 in
theorem rowsUnder_off (s : ByteArray) (t : St) (w : World) (hs : s.size ≤ 1048576) (hg : Glob w) (h : isBd s.data.toList = true) (h2 : stL s.data.toList t = false) : Calls Tryd.prog 39 #[.string s, St.v t] w fun e w' => e = .returned (.tuple #[.slice none 0 0, .bool false]) ∧ Below w.heap.size w w' := by
  have HG := hide (show Glob (w.alloc (.cells #[.int .i64 t.x, .int .i64 t.y, .int .i64 t.d.t, .int .i64 t.d.n, .int .i64 t.d.e, .int .i64 t.d.s, .int .i64 t.d.w, .int .i64 t.d.b] 33)) from glob_to (w0 := w) ((Below.refl _ _).alloc (Nat.le_refl _) _) hg rfl)
  have H := hide h
  have HST := hide h2
  clear h hg h2
  go_enter Tryd.func39, Tryd.ntmps39
  go_wp2_with fail
  refine (rowsOf_yes s _ hs HG.out H.out).mono ?_
  rintro e w1 ⟨rfl, ha, hb1⟩
  simp only [World.size_alloc] at ha
  have u1 := isS_to hb1 (IsS.new (s := t) (ty := 33)) rfl
  have q1 : Below w.heap.size w w1 := below_after (by go_grown) hb1 (by simp)
  have HA := hide ha
  obtain ⟨l1, ⟨c0, c1, c2, c3, c4, c5, c6, c7⟩, -⟩ := u1.all
  clear hb1 u1 ha
  go_wp2_with fail
  clear c0 c1 c2 c3 c4 c5 c6 c7 l1
  refine (isStateOn_any s _ t _ hs H.out HA.out).mono ?_
  rintro e w2 ⟨rfl, hb2⟩
  rw [HST.out]
  have q2 := below_to hb2 q1 q1.size rfl rfl rfl rfl
  go_wp2
  go_returns
  exact ⟨rfl, q2⟩
set_option maxHeartbeats 800000 in
theorem rowsUnder_on (s : ByteArray) (t : St) (w : World) (hs : s.size ≤ 1048576) (hg : Glob w) (h : isBd s.data.toList = true) (h2 : stL s.data.toList t = true) : Calls Tryd.prog 39 #[.string s, St.v t] w fun e w' => e = .returned (.tuple #[.slice (some ⟨w.heap.size + 1, 0, none⟩) (rowsB s).length (rowsB s).length, .bool true]) ∧ RowsAt w' (w.heap.size + 1) (rowsB s) ∧ Below w.heap.size w w' := by
  have HG := hide (show Glob (w.alloc (.cells #[.int .i64 t.x, .int .i64 t.y, .int .i64 t.d.t, .int .i64 t.d.n, .int .i64 t.d.e, .int .i64 t.d.s, .int .i64 t.d.w, .int .i64 t.d.b] 33)) from glob_to (w0 := w) ((Below.refl _ _).alloc (Nat.le_refl _) _) hg rfl)
  have H := hide h
  have HST := hide h2
  clear h hg h2
  go_enter Tryd.func39, Tryd.ntmps39
  go_wp2_with fail
  refine (rowsOf_yes s _ hs HG.out H.out).mono ?_
  rintro e w1 ⟨rfl, ha, hb1⟩
  simp only [World.size_alloc] at ha
  have u1 := isS_to hb1 (IsS.new (s := t) (ty := 33)) rfl
  have q1 : Below w.heap.size w w1 := below_after (by go_grown) hb1 (by simp)
  have HA := hide ha
  obtain ⟨l1, ⟨c0, c1, c2, c3, c4, c5, c6, c7⟩, -⟩ := u1.all
  clear hb1 u1 ha
  go_wp2_with fail
  clear c0 c1 c2 c3 c4 c5 c6 c7 l1
  refine (isStateOn_any s _ t _ hs H.out HA.out).mono ?_
  rintro e w2 ⟨rfl, hb2⟩
  rw [HST.out]
  have q2 := below_to hb2 q1 q1.size rfl rfl rfl rfl
  have A2 := rowsAt_to hb2 HA.out rfl
  go_wp2
  go_returns
  exact ⟨rfl, A2, q2⟩
end Go.Proofs.YtnpnhnkpnhcebaaDoor
