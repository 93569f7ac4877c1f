/- The contracts of asked states: boAsked, rowsUnder. -/
import Derived.Test.YthdkhikkdcjifaaDoorStates
import Derived.Deep.RegionHeld3
import Derived.StillTailTactics
namespace Go.Proofs.YthdkhikkdcjifaaDoor
set_option maxRecDepth 100000
set_option linter.all false
open Go.RowKit

theorem cell_set3 {w : World} {b c o : Nat} {u0 u1 u2 : Value} (h : b ≠ c) : (((w.setCell ⟨b, 0, none⟩ u0).setCell ⟨b, 1, none⟩ u1).setCell ⟨b, 2, none⟩ u2).cell? ⟨c, o, none⟩ = w.cell? ⟨c, o, none⟩ := by
  have hd : ∀ j, (⟨b, j, none⟩ : Addr) ≠ ⟨c, o, none⟩ := fun j e => h (by injection e)
  rw [World.cell?_setCell_other _ _ _ _ (hd 2), World.cell?_setCell_other _ _ _ _ (hd 1), World.cell?_setCell_other _ _ _ _ (hd 0)]

set_option maxHeartbeats 800000 in
theorem boAsked_bad (s : ByteArray) (t : St) (w : World) (hs : s.size ≤ 1048576) (h : isBd s.data.toList = false) : Calls Tryd.prog 44 #[.string s, St.v t] w fun e w' => e = .returned (.tuple #[.agg #[.int .i64 0, .int .i64 0, .slice none 0 0], .bool false]) ∧ Below w.heap.size w w' := by
  have H := hide h
  clear h
  go_enter Tryd.func44, Tryd.ntmps44
  go_wp2_with fail
  refine (boRead_no s _ hs H.out).mono ?_
  rintro e w1 ⟨rfl, hb1⟩
  have R0 := isG_to hb1 (IsG.new (w := w.alloc (.cells #[.int .i64 t.x, .int .i64 t.y, .int .i64 t.d.t, .int .i64 t.d.n, .int .i64 t.d.e, .int .i64 t.d.s, .int .i64 t.d.w, .int .i64 t.d.b] 30)) (x := 0) (y := 0) (v := .slice none 0 0)) rfl
  have q0 : Below w.heap.size w w1 := below_after (by go_grown) hb1 (by simp; omega)
  simp only [World.size_alloc] at R0
  have R1 := R0.alloc (.cells #[.int .i64 0, .int .i64 0, .slice none 0 0] 59)
  have G1 := IsG.new (w := w1) (x := 0) (y := 0) (v := .slice none 0 0)
  have q1 := q0.alloc q0.size (.cells #[.int .i64 0, .int .i64 0, .slice none 0 0] 59)
  have hz := R0.lt
  clear hb1 q0 R0
  go_wp2_with fail
  generalize hB : w1.heap.size = B at G1 hz ⊢
  generalize w1.alloc (.cells #[.int .i64 0, .int .i64 0, .slice none 0 0] 59) = W1 at R1 G1 q1 ⊢
  clear hB
  obtain ⟨l1, ⟨c0, c1, c2⟩, f0, f1, f2⟩ := R1.all
  obtain ⟨l2, ⟨d0, d1, d2⟩, -⟩ := G1.all
  first | go_region_with (fail) | fail "region"
  all_goals
    go_wp2
    refine bodyPost_ret (ret_grid2 Tryd.results44 rfl rfl (R1.set3 0 0 (.slice none 0 0))) rfl ⟨rfl, ?_⟩
    exact (below_set3 (b := w.heap.size + 1) q1 (Nat.le_succ _) _ _ _).drew

set_option maxHeartbeats 1600000 in
theorem boAsked_in (s : ByteArray) (t : St) (w : World) (hs : s.size ≤ 1048576) (h : isBd s.data.toList = true) : Calls Tryd.prog 44 #[.string s, St.v t] w fun e w' => ∃ W H n g cap, GridOk s.data.toList W H n ∧ e = .returned (.tuple #[gridV W H n g cap, .bool (stL s.data.toList t)]) ∧ BytesAt w' g (splitP s.data.toList).flatten ∧ Below w.heap.size w w' := by
  have H := hide h
  clear h
  generalize hst : stL s.data.toList t = st
  have HST := hide hst
  clear hst
  go_enter Tryd.func44, Tryd.ntmps44
  go_wp2_with fail
  refine (boRead_yes s _ hs H.out).mono ?_
  rintro e w1 ⟨W, Hh, n, g, cap, hG, rfl, hA, hb1⟩
  have R0 := isG_to hb1 (IsG.new (w := w.alloc (.cells #[.int .i64 t.x, .int .i64 t.y, .int .i64 t.d.t, .int .i64 t.d.n, .int .i64 t.d.e, .int .i64 t.d.s, .int .i64 t.d.w, .int .i64 t.d.b] 30)) (x := 0) (y := 0) (v := .slice none 0 0)) rfl
  have S0 := isS_to hb1 ((IsS.new (w := w) (s := t) (ty := 30)).alloc (.cells #[.int .i64 0, .int .i64 0, .slice none 0 0] 59)) rfl
  have q0 : Below w.heap.size w w1 := below_after (by go_grown) hb1 (by simp; omega)
  simp only [World.size_alloc] at R0
  have R1 := R0.alloc (.cells #[.int .i64 (W : Int), .int .i64 (Hh : Int), .slice (some ⟨g, 0, none⟩) n cap] 59)
  have S1 := S0.alloc (.cells #[.int .i64 (W : Int), .int .i64 (Hh : Int), .slice (some ⟨g, 0, none⟩) n cap] 59)
  have G1 := IsG.new (w := w1) (x := (W : Int)) (y := (Hh : Int)) (v := .slice (some ⟨g, 0, none⟩) n cap)
  have A1 : BytesAt (w1.alloc (.cells #[.int .i64 (W : Int), .int .i64 (Hh : Int), .slice (some ⟨g, 0, none⟩) n cap] 59)) g (splitP s.data.toList).flatten := bytesAt_to ((Below.refl _ _).alloc (Nat.le_refl _) _) hA rfl
  have q1 := q0.alloc q0.size (.cells #[.int .i64 (W : Int), .int .i64 (Hh : Int), .slice (some ⟨g, 0, none⟩) n cap] 59)
  have HG := hide hG
  have hz := R0.lt
  clear hb1 q0 R0 S0 hA hG
  go_wp2_with fail
  generalize hB : w1.heap.size = B at G1 hz ⊢
  generalize w1.alloc (.cells #[.int .i64 (W : Int), .int .i64 (Hh : Int), .slice (some ⟨g, 0, none⟩) n cap] 59) = W1 at R1 S1 G1 A1 q1 ⊢
  clear hB
  have HA := hide (show BytesAt W1.drew g (splitP s.data.toList).flatten from A1)
  clear A1
  obtain ⟨l0, ⟨a0, a1, a2, a3, a4, a5, a6, a7⟩, -⟩ := S1.all
  obtain ⟨l1, ⟨c0, c1, c2⟩, f0, f1, f2⟩ := R1.all
  obtain ⟨l2, ⟨d0, d1, d2⟩, -⟩ := G1.all
  go_region_held3 (fun w' => w'.cell? ⟨B, 0, none⟩ = some (.int .i64 (W : Int)) ∧ w'.cell? ⟨B, 1, none⟩ = some (.int .i64 (Hh : Int)) ∧ w'.cell? ⟨B, 2, none⟩ = some (.slice (some ⟨g, 0, none⟩) n cap) ∧ w'.cell? ⟨w.heap.size, 0, none⟩ = some (.int .i64 t.x) ∧ w'.cell? ⟨w.heap.size, 1, none⟩ = some (.int .i64 t.y) ∧ w'.cell? ⟨w.heap.size, 2, none⟩ = some (.int .i64 t.d.t) ∧ w'.cell? ⟨w.heap.size, 3, none⟩ = some (.int .i64 t.d.n) ∧ w'.cell? ⟨w.heap.size, 4, none⟩ = some (.int .i64 t.d.e) ∧ w'.cell? ⟨w.heap.size, 5, none⟩ = some (.int .i64 t.d.s) ∧ w'.cell? ⟨w.heap.size, 6, none⟩ = some (.int .i64 t.d.w) ∧ w'.cell? ⟨w.heap.size, 7, none⟩ = some (.int .i64 t.d.b)) (first | (refine ⟨?_, ?_, ?_, ?_, ?_, ?_, ?_, ?_, ?_, ?_, ?_⟩ <;> assumption) | (simp [go_sem, World.cell?_alloc_past]; done) | (refine ⟨?_, ?_, ?_, ?_, ?_, ?_, ?_, ?_, ?_, ?_, ?_⟩ <;> (rw [cell_set3 (by omega)]; assumption)))
    (first
      | (go_at_call 70; (refine (boState_any s.data.toList W Hh n HG.out g cap t _ HA.out).mono ?_); rintro e w2 ⟨rfl, hb2⟩; rw [HST.out]; have S2 := isS_to hb2 S1 rfl; have R2 := isG_to hb2 R1 rfl; have G2 := isG_to hb2 G1 rfl; have A2 := hide (bytesAt_to hb2 HA.out rfl); have Q2 := below_to hb2 q1 q1.size rfl rfl rfl rfl; obtain ⟨m0, ⟨b0, b1, b2, b3, b4, b5, b6, b7⟩, -⟩ := S2.all; obtain ⟨m1, ⟨x0, x1, x2⟩, g0, g1, g2⟩ := R2.all; obtain ⟨m2, ⟨y0, y1, y2⟩, -⟩ := G2.all; clear hb2))
  go_wp2
  have hneq : ∀ (wx : World) (p : Addr) (u : Value), BytesAt wx g (splitP s.data.toList).flatten → p.block ≠ g → BytesAt (wx.setCell p u) g (splitP s.data.toList).flatten := fun wx p u hh hp => by
    obtain ⟨cur, h1, h2⟩ := hh
    exact ⟨cur, (Below.heap_setCell wx p u g (fun e => hp e.symm)).trans h1, h2⟩
  have hgne : w.heap.size + 1 ≠ g := fun e => by
    subst e
    obtain ⟨cur, h1, _⟩ := A2.out
    have h3 := R2
    unfold IsG at h3
    rw [h1] at h3
    simp at h3
  refine bodyPost_ret (ret_grid2 Tryd.results44 rfl rfl (R2.set3 (W : Int) (Hh : Int) (.slice (some ⟨g, 0, none⟩) n cap))) rfl ⟨W, Hh, n, g, cap, HG.out, rfl, ?_, ?_⟩
  · exact hneq _ _ _ (hneq _ _ _ (hneq _ _ _ A2.out hgne) hgne) hgne
  · exact below_set3 Q2 (by simp) _ _ _

/-! ### rowsUnder -/
set_option maxHeartbeats 800000 in
theorem rowsUnder_bad (s : ByteArray) (t : St) (w : World) (hs : s.size ≤ 1048576) (hg : Glob w) (h : isBd s.data.toList = false) : Calls Tryd.prog 74 #[.string s, St.v t] w fun e w' => e = .returned (.tuple #[.slice none 0 0, .bool false]) ∧ Below w.heap.size w w' := by
  have HG := hide (show Glob (w.alloc (.cells #[.int .i64 t.x, .int .i64 t.y, .int .i64 t.d.t, .int .i64 t.d.n, .int .i64 t.d.e, .int .i64 t.d.s, .int .i64 t.d.w, .int .i64 t.d.b] 30)) from glob_to (w0 := w) ((Below.refl _ _).alloc (Nat.le_refl _) _) hg rfl)
  have H := hide h
  clear h hg
  go_enter Tryd.func74, Tryd.ntmps74
  go_wp2_with fail
  refine (rowsOf_no s _ hs HG.out H.out).mono ?_
  rintro e w1 ⟨rfl, hb1⟩
  have q1 : Below w.heap.size w w1 := below_after (by go_grown) hb1 (by simp)
  go_wp2
  go_returns
  exact ⟨rfl, q1⟩
set_option maxHeartbeats 800000 in
theorem rowsUnder_off (s : ByteArray) (t : St) (w : World) (hs : s.size ≤ 1048576) (hg : Glob w) (h : isBd s.data.toList = true) (h2 : stL s.data.toList t = false) : Calls Tryd.prog 74 #[.string s, St.v t] w fun e w' => e = .returned (.tuple #[.slice none 0 0, .bool false]) ∧ Below w.heap.size w w' := by
  have HG := hide (show Glob (w.alloc (.cells #[.int .i64 t.x, .int .i64 t.y, .int .i64 t.d.t, .int .i64 t.d.n, .int .i64 t.d.e, .int .i64 t.d.s, .int .i64 t.d.w, .int .i64 t.d.b] 30)) from glob_to (w0 := w) ((Below.refl _ _).alloc (Nat.le_refl _) _) hg rfl)
  have H := hide h
  have HST := hide h2
  clear h hg h2
  go_enter Tryd.func74, Tryd.ntmps74
  go_wp2_with fail
  refine (rowsOf_yes s _ hs HG.out H.out).mono ?_
  rintro e w1 ⟨rfl, ha, hb1⟩
  simp only [World.size_alloc] at ha
  have u1 := isS_to hb1 (IsS.new (s := t) (ty := 30)) rfl
  have q1 : Below w.heap.size w w1 := below_after (by go_grown) hb1 (by simp)
  have HA := hide ha
  obtain ⟨l1, ⟨c0, c1, c2, c3, c4, c5, c6, c7⟩, -⟩ := u1.all
  clear hb1 u1 ha
  go_wp2_with fail
  clear c0 c1 c2 c3 c4 c5 c6 c7 l1
  refine (isStateOn_any s _ t _ hs H.out HA.out).mono ?_
  rintro e w2 ⟨rfl, hb2⟩
  rw [HST.out]
  have q2 := below_to hb2 q1 q1.size rfl rfl rfl rfl
  go_wp2
  go_returns
  exact ⟨rfl, q2⟩
set_option maxHeartbeats 800000 in
theorem rowsUnder_on (s : ByteArray) (t : St) (w : World) (hs : s.size ≤ 1048576) (hg : Glob w) (h : isBd s.data.toList = true) (h2 : stL s.data.toList t = true) : Calls Tryd.prog 74 #[.string s, St.v t] w fun e w' => e = .returned (.tuple #[.slice (some ⟨w.heap.size + 1, 0, none⟩) (rowsB s).length (rowsB s).length, .bool true]) ∧ RowsAt w' (w.heap.size + 1) (rowsB s) ∧ Below w.heap.size w w' := by
  have HG := hide (show Glob (w.alloc (.cells #[.int .i64 t.x, .int .i64 t.y, .int .i64 t.d.t, .int .i64 t.d.n, .int .i64 t.d.e, .int .i64 t.d.s, .int .i64 t.d.w, .int .i64 t.d.b] 30)) from glob_to (w0 := w) ((Below.refl _ _).alloc (Nat.le_refl _) _) hg rfl)
  have H := hide h
  have HST := hide h2
  clear h hg h2
  go_enter Tryd.func74, Tryd.ntmps74
  go_wp2_with fail
  refine (rowsOf_yes s _ hs HG.out H.out).mono ?_
  rintro e w1 ⟨rfl, ha, hb1⟩
  simp only [World.size_alloc] at ha
  have u1 := isS_to hb1 (IsS.new (s := t) (ty := 30)) rfl
  have q1 : Below w.heap.size w w1 := below_after (by go_grown) hb1 (by simp)
  have HA := hide ha
  obtain ⟨l1, ⟨c0, c1, c2, c3, c4, c5, c6, c7⟩, -⟩ := u1.all
  clear hb1 u1 ha
  go_wp2_with fail
  clear c0 c1 c2 c3 c4 c5 c6 c7 l1
  refine (isStateOn_any s _ t _ hs H.out HA.out).mono ?_
  rintro e w2 ⟨rfl, hb2⟩
  rw [HST.out]
  have q2 := below_to hb2 q1 q1.size rfl rfl rfl rfl
  have A2 := rowsAt_to hb2 HA.out rfl
  go_wp2
  go_returns
  exact ⟨rfl, A2, q2⟩
end Go.Proofs.YthdkhikkdcjifaaDoor
