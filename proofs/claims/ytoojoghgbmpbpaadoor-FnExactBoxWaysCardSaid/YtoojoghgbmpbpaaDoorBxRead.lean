/- The contract of the model's reading of grounds: spec.bxRead. Condition: at most 1048576 bytes. -/
import Derived.Test.YtoojoghgbmpbpaaDoorRead
import Derived.Test.YtoojoghgbmpbpaaDoorGnd
import Derived.Test.YtoojoghgbmpbpaaDoorCells
namespace Go.Proofs.YtoojoghgbmpbpaaDoor
set_option maxRecDepth 100000
set_option linter.all false
open Go.RowKit
attribute [local go_sem ↓] Go.wp_at_zero Go.wp_at_succ

/-- What bxRead hands back. -/
def GndPost (s : ByteArray) (w : World) (e : Ending) (w' : World) : Prop :=
  (isGd s.data.toList = true ∧ ∃ v, e = .returned (.tuple #[.agg #[.int .i64 (width s.data.toList : Int), .int .i64 ((splitP s.data.toList).length : Int), v], .bool true]) ∧ w'.ownsRow w.heap.size 5 1 v (splitP s.data.toList).flatten.length (bytesV (splitP s.data.toList).flatten) ∧ Below w.heap.size w w') ∨
  (isGd s.data.toList = false ∧ e = .returned (.tuple #[.agg #[.int .i64 0, .int .i64 0, .slice none 0 0], .bool false]) ∧ Below w.heap.size w w')
def ReadG (w wr : World) (m : Mach) (v : Value) (C : List UInt8) : Prop :=
  IsG wr w.heap.size 0 0 (.slice none 0 0) ∧ IsG wr (w.heap.size + 1) m.w m.h v ∧ wr.ownsRow (w.heap.size + 2) 5 1 v C.length (bytesV C) ∧ Below w.heap.size w wr
theorem gndPost_no {s : ByteArray} {w w' : World} {e : Ending} (h : isGd s.data.toList = false) (he : e = .returned (.tuple #[.agg #[.int .i64 0, .int .i64 0, .slice none 0 0], .bool false])) (hb : Below w.heap.size w w') : GndPost s w e w' := .inr ⟨h, he, hb⟩
theorem ung47 : ung 47 = 47 := by decide
theorem gndStop {s : ByteArray} {m : Mach} {k : Nat} (h : mach0.run (ungl ((markL s).take k)) = some m) (hc : (markL s)[k]? = some 47) (hs : (0 < m.h ∧ m.x ≠ m.w) ∨ m.x = 0) : isGd s.data.toList = false :=
  gnd_no (runG_stopped h hc (by rw [ung47]; exact step_bad hs))
theorem gndOdd {s : ByteArray} {m : Mach} {k : Nat} {c : UInt8} (h : mach0.run (ungl ((markL s).take k)) = some m) (hc : (markL s)[k]? = some c) (h47 : ¬ (c.toNat : Int) = 47) (ho : okG c = false) : isGd s.data.toList = false := by
  refine gnd_no (runG_stopped h hc ?_)
  unfold Mach.step
  rw [if_neg (fun e => h47 (by rw [(ung_slash c).1 e]; rfl)), if_neg (by rw [okC_ung, ho]; simp)]
theorem gndEnd {s : ByteArray} {m : Mach} {k : Nat} (h : mach0.run (ungl ((markL s).take k)) = some m) (hc : (markL s)[k]? = some 47) (hs : ¬ ((0 < m.h ∧ m.x ≠ m.w) ∨ m.x = 0)) : mach0.run (ungl ((markL s).take (k + 1))) = some ⟨m.x, m.h + 1, 0, m.cells⟩ ∧ labG (markL s) (k + 1) = labG (markL s) k ∧ cntO (markL s) (k + 1) = cntO (markL s) k :=
  ⟨(runG_take h hc).trans (by rw [ung47]; exact step_end hs), labG_skip hc, cntO_else hc (by decide)⟩
theorem gndSign {s : ByteArray} {m : Mach} {k : Nat} {c : UInt8} (h : mach0.run (ungl ((markL s).take k)) = some m) (hc : (markL s)[k]? = some c) (h47 : ¬ (c.toNat : Int) = 47) (ho : okG c = true) : mach0.run (ungl ((markL s).take (k + 1))) = some ⟨m.w, m.h, m.x + 1, m.cells ++ [ung c]⟩ ∧ labG (markL s) (k + 1) = labG (markL s) k ++ [c] := by
  refine ⟨(runG_take h hc).trans ?_, labG_add hc h47⟩
  unfold Mach.step
  rw [if_neg (fun e => h47 (by rw [(ung_slash c).1 e]; rfl)), if_pos (by rw [okC_ung, ho])]
theorem cntO_hole1 {L : List UInt8} {k : Nat} {c : UInt8} (h : L[k]? = some c) (hc : (c.toNat : Int) = 111) : cntO L (k + 1) = cntO L k + 1 := by
  apply cntO_hole
  rw [h]
  congr 1
  apply UInt8.toNat_inj.1
  have e : c.toNat = 111 := by omega
  rw [e]
  rfl
theorem okG_int (c : UInt8) : okG c = (decide ((c.toNat : Int) = 46) || decide ((c.toNat : Int) = 35) || decide ((c.toNat : Int) = 45) || decide ((c.toNat : Int) = 111)) := by
  have : ∀ n : Fin 256, okG (UInt8.ofNat n.val) = (decide (((UInt8.ofNat n.val).toNat : Int) = 46) || decide (((UInt8.ofNat n.val).toNat : Int) = 35) || decide (((UInt8.ofNat n.val).toNat : Int) = 45) || decide (((UInt8.ofNat n.val).toNat : Int) = 111)) := by decide +kernel
  have h := this ⟨c.toNat, c.toNat_lt⟩
  simpa using h

theorem bxRead_long (s : ByteArray) (w : World) (h : 42 < s.size) : Calls Tryd.prog 35 #[.string s] w (GndPost s w) := by
  have hno := hide (show isGd s.data.toList = false from by
    cases hb : isGd s.data.toList
    · rfl
    · have := gd_len hb
      simp at this
      omega)
  have hi : (42 : Int) < (s.size : Int) := by omega
  clear h
  go_enter Tryd.func35, Tryd.ntmps35
  go_wp2
  have g0 : IsG ((w.alloc (.cells #[.int .i64 0, .int .i64 0, .slice none 0 0] 44)).alloc (.cells #[.int .i64 0, .int .i64 0, .slice none 0 0] 44)) w.heap.size 0 0 (.slice none 0 0) := IsG.new.alloc _
  have q0 : Below w.heap.size w ((w.alloc (.cells #[.int .i64 0, .int .i64 0, .slice none 0 0] 44)).alloc (.cells #[.int .i64 0, .int .i64 0, .slice none 0 0] 44)) := by go_grown
  refine bodyPost_ret (ret_grid2 Tryd.results35 rfl rfl g0) rfl (gndPost_no hno.out rfl q0)

set_option maxHeartbeats 8000000 in
theorem bxRead_short (s : ByteArray) (w : World) (h : s.size ≤ 42) : Calls Tryd.prog 35 #[.string s] w (GndPost s w) := by
  obtain ⟨i0, hi, hz0, hz1, hz2⟩ := info_parts info_byte
  have HI := hide hi
  have HZ0 := hide hz0
  have HZ1 := hide hz1
  have HZ2 := hide hz2
  clear hi hz0 hz1 hz2
  go_enter Tryd.func35, Tryd.ntmps35
  go_wp2
  go_loopw [5, 6, 7] (fun x o i wr => ∃ (k : Nat) (m : Mach) (v : Value), k ≤ s.size + 1 ∧ i = .int .i64 (k : Int) ∧ x = .int .i64 (m.x : Int) ∧ o = .int .i64 (cntO (markL s) k : Int) ∧ mach0.run (ungl ((markL s).take k)) = some m ∧ ReadG w wr m v (labG (markL s) k)) (fun _ _ i _ => s.size + 1 - (intOf i).toNat)
  case atStart =>
    refine ⟨0, mach0, .slice none 0 0, by omega, rfl, rfl, rfl, rfl, IsG.new.alloc _, ?_, World.ownsRow_nil _ _ _ _, by go_grown⟩
    have := IsG.new (w := w.alloc (.cells #[.int .i64 0, .int .i64 0, .slice none 0 0] 44)) (x := 0) (y := 0) (v := .slice none 0 0)
    simpa [mach0] using this
  case round =>
    obtain ⟨k, m, v, hk, rfl, rfl, rfl, hrun, g0, g1, hown, hb⟩ := hrel
    have hle := mach0_le hrun
    have hlab := mach_labG hrun
    have hlt : (ungl ((markL s).take k)).length ≤ k := by rw [ungl_len]; exact List.length_take_le _ _
    have hco := cntO_le (markL s) k
    obtain ⟨b1, b2, b3, b4⟩ := hle
    have HR := hide hrun
    clear hrun
    obtain ⟨mw, mh, mx, mc⟩ := m
    simp only at g1 hown b1 b2 b3 b4 hlab ⊢
    have c1 : mw ≤ 43 := by omega
    have c2 : mh ≤ 43 := by omega
    have c3 : mx ≤ 43 := by omega
    have c4 : (labG (markL s) k).length ≤ 43 := by omega
    have c5 : cntO (markL s) k ≤ 43 := by omega
    generalize hC : labG (markL s) k = C at hown c4 hlab ⊢
    generalize hO : cntO (markL s) k = O at c5 hco ⊢
    have HC0 := hide hC
    have HO0 := hide hO
    clear b1 b2 b3 b4 hlt hC hO hco
    obtain ⟨l0, ⟨r0, r1, r2⟩, s0, s1, s2⟩ := g0.all
    obtain ⟨l1, ⟨e0, e1, e2⟩, f0, f1, f2⟩ := g1.all
    by_cases hks : k ≤ s.size
    · by_cases hin : k < s.size
      · have hc := markL_in s k hin
        by_cases h47 : (s[k].toNat : Int) = 47
        · have hc' : (markL s)[k]? = some 47 := by
            rw [hc]
            congr 1
            apply UInt8.toNat_inj.1
            have : s[k].toNat = 47 := by omega
            rw [this]; rfl
          have HC := hide hc'
          obtain ⟨q1, q2⟩ := byte_eq h47
          clear hc hc' h47
          by_cases hx : mx = 0
          · have qx : ((mx : Int) == 0) = true := by rw [hx]; rfl
            by_cases hh : 0 < mh
            · have hh1 : (0 : Int) < (mh : Int) := by omega
              by_cases hxw : mx = mw
              · have qn : ((mx : Int) != (mw : Int)) = false := by rw [hxw]; simp
                have qe : ((mx : Int) == (mw : Int)) = true := by rw [hxw]; simp
                have HX := hide hx
                clear hx
                clear hxw
                have HN := hide (gndStop HR.out HC.out (.inr HX.out))
                clear hown g1
                go_wp2
                refine bodyPost_ret (ret_grid2 Tryd.results35 rfl rfl (g0.set3 0 0 (.slice none 0 0))) rfl (gndPost_no HN.out rfl ?_)
                exact below_set3 hb (Nat.le_refl _) _ _ _
              · have qn : ((mx : Int) != (mw : Int)) = true := bne_iff_ne.2 (by omega)
                have qe : ((mx : Int) == (mw : Int)) = false := beq_eq_false_iff_ne.2 (by omega)
                have HX := hide hx
                clear hx
                clear hxw
                have HN := hide (gndStop HR.out HC.out (.inr HX.out))
                clear hown g1
                go_wp2
                refine bodyPost_ret (ret_grid2 Tryd.results35 rfl rfl (g0.set3 0 0 (.slice none 0 0))) rfl (gndPost_no HN.out rfl ?_)
                exact below_set3 hb (Nat.le_refl _) _ _ _
            · have hh1 : (mh : Int) ≤ 0 := by omega
              have hh2 : decide ((0 : Int) < (mh : Int)) = false := decide_eq_false (by omega)
              have HX := hide hx
              clear hx hh
              have HN := hide (gndStop HR.out HC.out (.inr HX.out))
              clear hown g1
              go_wp2
              refine bodyPost_ret (ret_grid2 Tryd.results35 rfl rfl (g0.set3 0 0 (.slice none 0 0))) rfl (gndPost_no HN.out rfl ?_)
              exact below_set3 hb (Nat.le_refl _) _ _ _
          · have qx : ((mx : Int) == 0) = false := beq_eq_false_iff_ne.2 (by omega)
            by_cases hh : 0 < mh
            · have hh1 : (0 : Int) < (mh : Int) := by omega
              by_cases hxw : mx = mw
              · have qn : ((mx : Int) != (mw : Int)) = false := by rw [hxw]; simp
                have qe : ((mx : Int) == (mw : Int)) = true := by rw [hxw]; simp
                have HX := hide (show ¬ ((0 < mh ∧ mx ≠ mw) ∨ mx = 0) from by omega)
                clear hx hxw
                have HN := hide (gndEnd HR.out HC.out HX.out)
                have HO := hide hown
                have hs1 := hb.size
                clear hown r0 r1 r2 s0 s1 s2
                go_wp2
                go_roundw
                case rel =>
                  refine ⟨_, ⟨mx, mh + 1, 0, mc⟩, v, ?_, by go_num, rfl, by rw [HN.out.2.2, HO0.out], HN.out.1, (g0.other (by simp) _).other (by simp) _, ?_, ?_, ?_⟩
                  · omega
                  · have := (g1.set0 (mx : Int)).set1 ((mh : Int) + 1)
                    simpa using this
                  · rw [HN.out.2.1, HC0.out]
                    exact ownsRow_setCell_below (ownsRow_setCell_below HO.out (by simp) _) (by simp) _
                  · exact (hb.setCell (by simp) _).setCell (by simp) _
                case measure => simp [intOf] <;> omega
              · have qn : ((mx : Int) != (mw : Int)) = true := bne_iff_ne.2 (by omega)
                have qe : ((mx : Int) == (mw : Int)) = false := beq_eq_false_iff_ne.2 (by omega)
                have HX := hide (show (0 < mh ∧ mx ≠ mw) ∨ mx = 0 from by omega)
                clear hx hxw
                have HN := hide (gndStop HR.out HC.out (HX.out))
                clear hown g1
                go_wp2
                refine bodyPost_ret (ret_grid2 Tryd.results35 rfl rfl (g0.set3 0 0 (.slice none 0 0))) rfl (gndPost_no HN.out rfl ?_)
                exact below_set3 hb (Nat.le_refl _) _ _ _
            · have hh1 : (mh : Int) ≤ 0 := by omega
              have hh2 : decide ((0 : Int) < (mh : Int)) = false := decide_eq_false (by omega)
              have HX := hide (show ¬ ((0 < mh ∧ mx ≠ mw) ∨ mx = 0) from by omega)
              clear hx hh
              have HN := hide (gndEnd HR.out HC.out HX.out)
              have HO := hide hown
              have hs1 := hb.size
              clear hown r0 r1 r2 s0 s1 s2
              go_wp2
              go_roundw
              case rel =>
                refine ⟨_, ⟨mx, mh + 1, 0, mc⟩, v, ?_, by go_num, rfl, by rw [HN.out.2.2, HO0.out], HN.out.1, (g0.other (by simp) _).other (by simp) _, ?_, ?_, ?_⟩
                · omega
                · have := (g1.set0 (mx : Int)).set1 ((mh : Int) + 1)
                  simpa using this
                · rw [HN.out.2.1, HC0.out]
                  exact ownsRow_setCell_below (ownsRow_setCell_below HO.out (by simp) _) (by simp) _
                · exact (hb.setCell (by simp) _).setCell (by simp) _
              case measure => simp [intOf] <;> omega
        · obtain ⟨q1, q2⟩ := byte_ne h47
          cases hok : okG s[k]
          · have HN := hide (gndOdd HR.out hc h47 hok)
            rw [okG_int, Bool.or_eq_false_iff, Bool.or_eq_false_iff, Bool.or_eq_false_iff, decide_eq_false_iff_not, decide_eq_false_iff_not, decide_eq_false_iff_not, decide_eq_false_iff_not] at hok
            obtain ⟨⟨⟨t1, t2⟩, t3⟩, t4⟩ := hok
            obtain ⟨q3, q4⟩ := byte_ne t1
            obtain ⟨q5, q6⟩ := byte_ne t2
            obtain ⟨q7, q8⟩ := byte_ne t3
            obtain ⟨q9, q10⟩ := byte_ne t4
            clear hc h47 hown g1
            go_wp2
            refine bodyPost_ret (ret_grid2 Tryd.results35 rfl rfl (g0.set3 0 0 (.slice none 0 0))) rfl (gndPost_no HN.out rfl ?_)
            exact below_set3 hb (Nat.le_refl _) _ _ _
          · have HN := hide (gndSign HR.out hc h47 hok)
            have HHC := hide hc
            have hki : (k : Int) < (s.size : Int) := by omega
            have hq := hok
            rw [okG_int, Bool.or_eq_true, Bool.or_eq_true, Bool.or_eq_true, decide_eq_true_eq, decide_eq_true_eq, decide_eq_true_eq, decide_eq_true_eq] at hq
            clear hc h47 hok
            have HCELL := hide (cell_one_newR wr (.int .u8 (s[k].toNat : Int)) 5)
            have H1C := hide (show ∀ u ∈ [Value.int .u8 (s[k].toNat : Int)], u.oneCell' = true from by
              intro u hu
              simp only [List.mem_singleton] at hu
              subst hu
              rfl)
            have hsz := hb.size
            have HJ := hide (show ∀ (v' : Value) (w4 : World), w4.ownsRow (w.heap.size + 2) 5 1 v' (C.length + 1) (bytesV C ++ [.int .u8 (s[k].toNat : Int)]) → (wr.alloc (.cells #[.int .u8 (s[k].toNat : Int)] 5)).drew.grownBy w4 v.ownBlock →
                IsG w4 w.heap.size 0 0 (.slice none 0 0) ∧ IsG w4 (w.heap.size + 1) mw mh v ∧ Below w.heap.size w w4 ∧ w.heap.size + 2 ≤ w4.heap.size from by
              intro v' w4 h1 h2
              have hne : ∀ j, j < w.heap.size + 2 → some j ≠ v.ownBlock := fun j hj e => by
                have := (hown.lt j e.symm).1
                omega
              have hA : IsG (wr.alloc (.cells #[.int .u8 (s[k].toNat : Int)] 5)).drew w.heap.size 0 0 (.slice none 0 0) := g0.alloc _
              have hB : IsG (wr.alloc (.cells #[.int .u8 (s[k].toNat : Int)] 5)).drew (w.heap.size + 1) mw mh v := g1.alloc _
              refine ⟨hA.kept h2 (hne _ (by omega)), hB.kept h2 (hne _ (by omega)), ?_, ?_⟩
              · refine (hb.alloc hsz _).drew.grown h2 (by show w.heap.size ≤ (World.alloc _ _).heap.size; simp; omega) (fun j hj => ?_)
                have := (hown.lt j hj).1
                omega
              · have h5 := h2.size
                have h6 : (wr.alloc (.cells #[.int .u8 (s[k].toNat : Int)] 5)).drew.heap.size = wr.heap.size + 1 := by show (World.alloc _ _).heap.size = _; simp
                have := g1.lt
                omega)
            have HO := hide hown
            clear hown r0 r1 r2 s0 s1 s2
            rcases hq with ((h46 | h35) | h45) | h111
            · obtain ⟨q3, q4⟩ := byte_eq h46
              have HCT := hide (cntO_else HHC.out (show ¬ (s[k].toNat : Int) = 111 from by omega))
              clear h46
              go_wp2
              go_region_law (refine step_append_ownR rfl (.tmp 42) (.tmp 46) 42 rfl (w.heap.size + 2) 5 i0 (.int .u8 0) 1 1 Tryd.underlying42 HI.out HZ0.out HZ1.out HZ2.out rfl (by decide) _ _ _ (by simp [Act.eval]) (own_drewR (HO.out.alloc _)) ⟨wr.heap.size, 0, none⟩ 1 1 [.int .u8 (s[k].toNat : Int)] (by simp [Act.eval]) rfl HCELL.out H1C.out (by unfold maxLen; omega) (by omega) (by show w.heap.size + 2 ≤ (World.alloc _ _).heap.size; simp; omega) ?_; intro v' w4 hown4 hg4; obtain ⟨G0, G1, B4, Z4⟩ := HJ.out v' w4 hown4 hg4; obtain ⟨L1, ⟨E0, E1, E2⟩, F0, F1, F2⟩ := G1.all; clear hg4; obtain ⟨gq, cq, rfl, hq1, hq2⟩ := own_form hown4 (by omega))
              all_goals
                have HO4 := hide hown4
                clear hown4
                go_wp2
                go_roundw
                case rel =>
                  refine ⟨_, ⟨mw, mh, mx + 1, mc ++ [ung s[k]]⟩, _, ?_, by go_num, by go_num, by rw [HCT.out, HO0.out], HN.out.1, G0.other (by simp) _, G1.set2 _, ?_, ?_⟩
                  · omega
                  · have h9 := ownsRow_setCell_below HO4.out (a := ⟨w.heap.size + 1, 2, none⟩) (by simp) (.slice (some ⟨gq, 0, none⟩) (C.length + 1) cq)
                    rw [HN.out.2, HC0.out, bytesV_snoc, List.length_append]
                    exact h9
                  · exact B4.setCell (by simp) _
                case measure => simp [intOf] <;> omega
            · obtain ⟨q3, q4⟩ := byte_eq h35
              have n46 : ¬ (s[k].toNat : Int) = 46 := by omega
              obtain ⟨q5, q6⟩ := byte_ne n46
              have HCT := hide (cntO_else HHC.out (show ¬ (s[k].toNat : Int) = 111 from by omega))
              clear h35 n46
              go_wp2
              go_region_law (refine step_append_ownR rfl (.tmp 42) (.tmp 46) 42 rfl (w.heap.size + 2) 5 i0 (.int .u8 0) 1 1 Tryd.underlying42 HI.out HZ0.out HZ1.out HZ2.out rfl (by decide) _ _ _ (by simp [Act.eval]) (own_drewR (HO.out.alloc _)) ⟨wr.heap.size, 0, none⟩ 1 1 [.int .u8 (s[k].toNat : Int)] (by simp [Act.eval]) rfl HCELL.out H1C.out (by unfold maxLen; omega) (by omega) (by show w.heap.size + 2 ≤ (World.alloc _ _).heap.size; simp; omega) ?_; intro v' w4 hown4 hg4; obtain ⟨G0, G1, B4, Z4⟩ := HJ.out v' w4 hown4 hg4; obtain ⟨L1, ⟨E0, E1, E2⟩, F0, F1, F2⟩ := G1.all; clear hg4; obtain ⟨gq, cq, rfl, hq1, hq2⟩ := own_form hown4 (by omega))
              all_goals
                have HO4 := hide hown4
                clear hown4
                go_wp2
                go_roundw
                case rel =>
                  refine ⟨_, ⟨mw, mh, mx + 1, mc ++ [ung s[k]]⟩, _, ?_, by go_num, by go_num, by rw [HCT.out, HO0.out], HN.out.1, G0.other (by simp) _, G1.set2 _, ?_, ?_⟩
                  · omega
                  · have h9 := ownsRow_setCell_below HO4.out (a := ⟨w.heap.size + 1, 2, none⟩) (by simp) (.slice (some ⟨gq, 0, none⟩) (C.length + 1) cq)
                    rw [HN.out.2, HC0.out, bytesV_snoc, List.length_append]
                    exact h9
                  · exact B4.setCell (by simp) _
                case measure => simp [intOf] <;> omega
            · obtain ⟨q3, q4⟩ := byte_eq h45
              have n46 : ¬ (s[k].toNat : Int) = 46 := by omega
              obtain ⟨q5, q6⟩ := byte_ne n46
              have n35 : ¬ (s[k].toNat : Int) = 35 := by omega
              obtain ⟨q7, q8⟩ := byte_ne n35
              have HCT := hide (cntO_else HHC.out (show ¬ (s[k].toNat : Int) = 111 from by omega))
              clear h45 n46 n35
              go_wp2
              go_region_law (refine step_append_ownR rfl (.tmp 42) (.tmp 46) 42 rfl (w.heap.size + 2) 5 i0 (.int .u8 0) 1 1 Tryd.underlying42 HI.out HZ0.out HZ1.out HZ2.out rfl (by decide) _ _ _ (by simp [Act.eval]) (own_drewR (HO.out.alloc _)) ⟨wr.heap.size, 0, none⟩ 1 1 [.int .u8 (s[k].toNat : Int)] (by simp [Act.eval]) rfl HCELL.out H1C.out (by unfold maxLen; omega) (by omega) (by show w.heap.size + 2 ≤ (World.alloc _ _).heap.size; simp; omega) ?_; intro v' w4 hown4 hg4; obtain ⟨G0, G1, B4, Z4⟩ := HJ.out v' w4 hown4 hg4; obtain ⟨L1, ⟨E0, E1, E2⟩, F0, F1, F2⟩ := G1.all; clear hg4; obtain ⟨gq, cq, rfl, hq1, hq2⟩ := own_form hown4 (by omega))
              all_goals
                have HO4 := hide hown4
                clear hown4
                go_wp2
                go_roundw
                case rel =>
                  refine ⟨_, ⟨mw, mh, mx + 1, mc ++ [ung s[k]]⟩, _, ?_, by go_num, by go_num, by rw [HCT.out, HO0.out], HN.out.1, G0.other (by simp) _, G1.set2 _, ?_, ?_⟩
                  · omega
                  · have h9 := ownsRow_setCell_below HO4.out (a := ⟨w.heap.size + 1, 2, none⟩) (by simp) (.slice (some ⟨gq, 0, none⟩) (C.length + 1) cq)
                    rw [HN.out.2, HC0.out, bytesV_snoc, List.length_append]
                    exact h9
                  · exact B4.setCell (by simp) _
                case measure => simp [intOf] <;> omega
            · obtain ⟨q3, q4⟩ := byte_eq h111
              have n46 : ¬ (s[k].toNat : Int) = 46 := by omega
              obtain ⟨q5, q6⟩ := byte_ne n46
              have n35 : ¬ (s[k].toNat : Int) = 35 := by omega
              obtain ⟨q7, q8⟩ := byte_ne n35
              have n45 : ¬ (s[k].toNat : Int) = 45 := by omega
              obtain ⟨q9, q10⟩ := byte_ne n45
              have HCT := hide (cntO_hole1 HHC.out (show (s[k].toNat : Int) = 111 from by omega))
              clear h111 n46 n35 n45
              go_wp2
              go_region_law (refine step_append_ownR rfl (.tmp 42) (.tmp 46) 42 rfl (w.heap.size + 2) 5 i0 (.int .u8 0) 1 1 Tryd.underlying42 HI.out HZ0.out HZ1.out HZ2.out rfl (by decide) _ _ _ (by simp [Act.eval]) (own_drewR (HO.out.alloc _)) ⟨wr.heap.size, 0, none⟩ 1 1 [.int .u8 (s[k].toNat : Int)] (by simp [Act.eval]) rfl HCELL.out H1C.out (by unfold maxLen; omega) (by omega) (by show w.heap.size + 2 ≤ (World.alloc _ _).heap.size; simp; omega) ?_; intro v' w4 hown4 hg4; obtain ⟨G0, G1, B4, Z4⟩ := HJ.out v' w4 hown4 hg4; obtain ⟨L1, ⟨E0, E1, E2⟩, F0, F1, F2⟩ := G1.all; clear hg4; obtain ⟨gq, cq, rfl, hq1, hq2⟩ := own_form hown4 (by omega))
              all_goals
                have HO4 := hide hown4
                clear hown4
                go_wp2
                go_roundw
                case rel =>
                  refine ⟨_, ⟨mw, mh, mx + 1, mc ++ [ung s[k]]⟩, _, ?_, by go_num, by go_num, by rw [HCT.out, HO0.out]; go_num, HN.out.1, G0.other (by simp) _, G1.set2 _, ?_, ?_⟩
                  · omega
                  · have h9 := ownsRow_setCell_below HO4.out (a := ⟨w.heap.size + 1, 2, none⟩) (by simp) (.slice (some ⟨gq, 0, none⟩) (C.length + 1) cq)
                    rw [HN.out.2, HC0.out, bytesV_snoc, List.length_append]
                    exact h9
                  · exact B4.setCell (by simp) _
                case measure => simp [intOf] <;> omega
      · have hke : k = s.size := by omega
        subst hke
        have HC := hide (markL_end s)
        by_cases hx : mx = 0
        · have qx : ((mx : Int) == 0) = true := by rw [hx]; rfl
          by_cases hh : 0 < mh
          · have hh1 : (0 : Int) < (mh : Int) := by omega
            by_cases hxw : mx = mw
            · have qn : ((mx : Int) != (mw : Int)) = false := by rw [hxw]; simp
              have qe : ((mx : Int) == (mw : Int)) = true := by rw [hxw]; simp
              have HX := hide hx
              clear hx
              clear hxw
              have HN := hide (gndStop HR.out HC.out (.inr HX.out))
              clear hown g1
              go_wp2
              refine bodyPost_ret (ret_grid2 Tryd.results35 rfl rfl (g0.set3 0 0 (.slice none 0 0))) rfl (gndPost_no HN.out rfl ?_)
              exact below_set3 hb (Nat.le_refl _) _ _ _
            · have qn : ((mx : Int) != (mw : Int)) = true := bne_iff_ne.2 (by omega)
              have qe : ((mx : Int) == (mw : Int)) = false := beq_eq_false_iff_ne.2 (by omega)
              have HX := hide hx
              clear hx
              clear hxw
              have HN := hide (gndStop HR.out HC.out (.inr HX.out))
              clear hown g1
              go_wp2
              refine bodyPost_ret (ret_grid2 Tryd.results35 rfl rfl (g0.set3 0 0 (.slice none 0 0))) rfl (gndPost_no HN.out rfl ?_)
              exact below_set3 hb (Nat.le_refl _) _ _ _
          · have hh1 : (mh : Int) ≤ 0 := by omega
            have hh2 : decide ((0 : Int) < (mh : Int)) = false := decide_eq_false (by omega)
            have HX := hide hx
            clear hx hh
            have HN := hide (gndStop HR.out HC.out (.inr HX.out))
            clear hown g1
            go_wp2
            refine bodyPost_ret (ret_grid2 Tryd.results35 rfl rfl (g0.set3 0 0 (.slice none 0 0))) rfl (gndPost_no HN.out rfl ?_)
            exact below_set3 hb (Nat.le_refl _) _ _ _
        · have qx : ((mx : Int) == 0) = false := beq_eq_false_iff_ne.2 (by omega)
          by_cases hh : 0 < mh
          · have hh1 : (0 : Int) < (mh : Int) := by omega
            by_cases hxw : mx = mw
            · have qn : ((mx : Int) != (mw : Int)) = false := by rw [hxw]; simp
              have qe : ((mx : Int) == (mw : Int)) = true := by rw [hxw]; simp
              have HX := hide (show ¬ ((0 < mh ∧ mx ≠ mw) ∨ mx = 0) from by omega)
              clear hx hxw
              have HN := hide (gndEnd HR.out HC.out HX.out)
              have HO := hide hown
              have hs1 := hb.size
              clear hown r0 r1 r2 s0 s1 s2
              go_wp2
              go_roundw
              case rel =>
                refine ⟨_, ⟨mx, mh + 1, 0, mc⟩, v, ?_, by go_num, rfl, by rw [HN.out.2.2, HO0.out], HN.out.1, (g0.other (by simp) _).other (by simp) _, ?_, ?_, ?_⟩
                · omega
                · have := (g1.set0 (mx : Int)).set1 ((mh : Int) + 1)
                  simpa using this
                · rw [HN.out.2.1, HC0.out]
                  exact ownsRow_setCell_below (ownsRow_setCell_below HO.out (by simp) _) (by simp) _
                · exact (hb.setCell (by simp) _).setCell (by simp) _
              case measure => simp [intOf] <;> omega
            · have qn : ((mx : Int) != (mw : Int)) = true := bne_iff_ne.2 (by omega)
              have qe : ((mx : Int) == (mw : Int)) = false := beq_eq_false_iff_ne.2 (by omega)
              have HX := hide (show (0 < mh ∧ mx ≠ mw) ∨ mx = 0 from by omega)
              clear hx hxw
              have HN := hide (gndStop HR.out HC.out (HX.out))
              clear hown g1
              go_wp2
              refine bodyPost_ret (ret_grid2 Tryd.results35 rfl rfl (g0.set3 0 0 (.slice none 0 0))) rfl (gndPost_no HN.out rfl ?_)
              exact below_set3 hb (Nat.le_refl _) _ _ _
          · have hh1 : (mh : Int) ≤ 0 := by omega
            have hh2 : decide ((0 : Int) < (mh : Int)) = false := decide_eq_false (by omega)
            have HX := hide (show ¬ ((0 < mh ∧ mx ≠ mw) ∨ mx = 0) from by omega)
            clear hx hh
            have HN := hide (gndEnd HR.out HC.out HX.out)
            have HO := hide hown
            have hs1 := hb.size
            clear hown r0 r1 r2 s0 s1 s2
            go_wp2
            go_roundw
            case rel =>
              refine ⟨_, ⟨mx, mh + 1, 0, mc⟩, v, ?_, by go_num, rfl, by rw [HN.out.2.2, HO0.out], HN.out.1, (g0.other (by simp) _).other (by simp) _, ?_, ?_, ?_⟩
              · omega
              · have := (g1.set0 (mx : Int)).set1 ((mh : Int) + 1)
                simpa using this
              · rw [HN.out.2.1, HC0.out]
                exact ownsRow_setCell_below (ownsRow_setCell_below HO.out (by simp) _) (by simp) _
              · exact (hb.setCell (by simp) _).setCell (by simp) _
            case measure => simp [intOf] <;> omega
    · have hke : k = s.size + 1 := by omega
      subst hke
      have hrun := HR.out
      rw [List.take_of_length_le (Nat.le_of_eq (markL_len s))] at hrun
      obtain ⟨d1, d2, d3, d4, d5, d6, d7⟩ := gnd_read (L := s.data.toList) hrun
      have hl1 : s.data.toList.length = s.size := by simp
      have hC2 := HC0.out
      have hO2 := HO0.out
      rw [← hl1] at hC2 hO2
      rw [show labG (markL s) (s.data.toList.length + 1) = (splitP s.data.toList).flatten from labG_end _] at hC2
      rw [show cntO (markL s) (s.data.toList.length + 1) = s.data.toList.count 111 from cntO_end _] at hO2
      simp only at d1 d2 d3 d4 d5 d6 d7
      have HGS := hide (gd_split s.data.toList)
      rw [hO2] at HGS
      rw [hlab] at d2 d6 d7
      obtain ⟨gb, cap, rfl, hgb, hgl⟩ := own_form hown d2
      have hs1 := hb.size
      clear hrun hl1 hO2 d5 hlab
      cases hbd : isBd (ungl s.data.toList)
      · have hno := d7 hbd
        have HB := hide (show isGd s.data.toList = false from by rw [HGS.out, hbd]; rfl)
        clear hbd d3 d4 d6 d7 hown hC2
        by_cases n1 : 7 < mw
        · have n1' : (7 : Int) < (mw : Int) := by omega
          clear hno n1
          go_wp2
          refine bodyPost_ret (ret_grid2 Tryd.results35 rfl rfl (g0.set3 0 0 (.slice none 0 0))) rfl (gndPost_no HB.out rfl ?_)
          exact below_set3 hb (Nat.le_refl _) _ _ _
        · have n1' : (mw : Int) ≤ 7 := by omega
          by_cases n2 : 7 < mh
          · have n2' : (7 : Int) < (mh : Int) := by omega
            clear hno n1 n2
            go_wp2
            refine bodyPost_ret (ret_grid2 Tryd.results35 rfl rfl (g0.set3 0 0 (.slice none 0 0))) rfl (gndPost_no HB.out rfl ?_)
            exact below_set3 hb (Nat.le_refl _) _ _ _
          · have n2' : (mh : Int) ≤ 7 := by omega
            have n3' : (36 : Int) < (C.length : Int) := by omega
            clear hno n1 n2
            go_wp2
            refine bodyPost_ret (ret_grid2 Tryd.results35 rfl rfl (g0.set3 0 0 (.slice none 0 0))) rfl (gndPost_no HB.out rfl ?_)
            exact below_set3 hb (Nat.le_refl _) _ _ _
      · obtain ⟨y1, y2, y3⟩ := d6 hbd
        by_cases hO1 : O ≤ 1
        · have HB := hide (show isGd s.data.toList = true from by rw [HGS.out, hbd, decide_eq_true hO1]; rfl)
          have D3 := hide d3
          have D4 := hide d4
          have D5 := hide hC2
          have HO := hide hown
          clear hbd d3 d4 d6 d7 hC2 hown
          go_wp2
          refine bodyPost_ret (ret_grid2 Tryd.results35 rfl rfl (g0.set3 (mw : Int) (mh : Int) (.slice (some ⟨gb, 0, none⟩) C.length cap))) rfl (.inl ⟨HB.out, _, by rw [← D3.out, ← D4.out], ?_, ?_⟩)
          · rw [D5.out]
            exact own_mono (ownsRow_setCell_below (ownsRow_setCell_below (ownsRow_setCell_below HO.out (by simp) _) (by simp) _) (by simp) _) (by omega)
          · exact below_set3 hb (Nat.le_refl _) _ _ _
        · have HB := hide (show isGd s.data.toList = false from by rw [HGS.out, hbd, decide_eq_false hO1]; rfl)
          have hO1' : (1 : Int) < (O : Int) := by omega
          clear hbd d3 d4 d6 d7 hC2 hown hO1
          go_wp2
          refine bodyPost_ret (ret_grid2 Tryd.results35 rfl rfl (g0.set3 0 0 (.slice none 0 0))) rfl (gndPost_no HB.out rfl ?_)
          exact below_set3 hb (Nat.le_refl _) _ _ _

theorem bxRead_any (s : ByteArray) (w : World) (hs : s.size ≤ 1048576) : Calls Tryd.prog 35 #[.string s] w (GndPost s w) := by
  by_cases h : s.size ≤ 42
  · exact bxRead_short s w h
  · exact bxRead_long s w (by omega)
/-- A ground's numbers. -/
def GndOk (l : List UInt8) (W H n : Nat) : Prop := isGd l = true ∧ width l = W ∧ (splitP l).length = H ∧ (splitP l).flatten.length = n
theorem GndOk.grid {l : List UInt8} {W H n : Nat} (h : GndOk l W H n) : GridOk (ungl l) W H n := by
  obtain ⟨a, rfl, rfl, rfl⟩ := h
  exact ⟨gd_bd a, width_ungl l, rows_ungl l, by rw [flat_ungl, ungl_len]⟩
theorem bxRead_yes (s : ByteArray) (w : World) (hs : s.size ≤ 1048576) (h : isGd s.data.toList = true) : Calls Tryd.prog 35 #[.string s] w fun e w' => ∃ W H n g cap, GndOk s.data.toList W H n ∧ e = .returned (.tuple #[gridV W H n g cap, .bool true]) ∧ BytesAt w' g (splitP s.data.toList).flatten ∧ Below w.heap.size w w' :=
  (bxRead_any s w hs).mono fun e w' hp => by
    rcases hp with ⟨_, v, h1, h2, h3⟩ | ⟨hn, _⟩
    · have hp : 0 < (splitP s.data.toList).flatten.length := by
        have := flat_pos (gd_bd h)
        rwa [flat_ungl, ungl_len] at this
      obtain ⟨g, cap, rfl, _, _⟩ := own_form h2 hp
      exact ⟨_, _, _, g, cap, ⟨h, rfl, rfl, rfl⟩, h1, bytesAt_own h2, h3⟩
    · rw [h] at hn; cases hn
theorem bxRead_no (s : ByteArray) (w : World) (hs : s.size ≤ 1048576) (h : isGd s.data.toList = false) : Calls Tryd.prog 35 #[.string s] w fun e w' => e = .returned (.tuple #[.agg #[.int .i64 0, .int .i64 0, .slice none 0 0], .bool false]) ∧ Below w.heap.size w w' :=
  (bxRead_any s w hs).mono fun e w' hp => by
    rcases hp with ⟨hn, _⟩ | ⟨_, hp⟩
    · rw [h] at hn; cases hn
    · exact hp
end Go.Proofs.YtoojoghgbmpbpaaDoor
