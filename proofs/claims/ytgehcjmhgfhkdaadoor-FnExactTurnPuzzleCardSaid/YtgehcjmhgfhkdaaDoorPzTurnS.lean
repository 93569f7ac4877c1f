/- Turned puzzles: the model's TurnPuzzle. -/
import Derived.Test.YtgehcjmhgfhkdaaDoorPzTurn
namespace Go.Proofs.YtgehcjmhgfhkdaaDoor
set_option maxRecDepth 100000
set_option linter.all false
open Go.RowKit

theorem cell_set12P {w : World} {b c o : Nat} {u0 u1 u2 u3 u4 u5 u6 u7 u8 u9 u10 u11 : Value} (h : b ≠ c) : ((((((((((((w.setCell ⟨b, 0, none⟩ u0).setCell ⟨b, 1, none⟩ u1).setCell ⟨b, 2, none⟩ u2).setCell ⟨b, 3, none⟩ u3).setCell ⟨b, 4, none⟩ u4).setCell ⟨b, 5, none⟩ u5).setCell ⟨b, 6, none⟩ u6).setCell ⟨b, 7, none⟩ u7).setCell ⟨b, 8, none⟩ u8).setCell ⟨b, 9, none⟩ u9).setCell ⟨b, 10, none⟩ u10).setCell ⟨b, 11, none⟩ u11).cell? ⟨c, o, none⟩ = w.cell? ⟨c, o, none⟩ := by
  have hd : ∀ j, (⟨b, j, none⟩ : Addr) ≠ ⟨c, o, none⟩ := fun j e => h (by injection e)
  rw [World.cell?_setCell_other _ _ _ _ (hd 11), World.cell?_setCell_other _ _ _ _ (hd 10), World.cell?_setCell_other _ _ _ _ (hd 9), World.cell?_setCell_other _ _ _ _ (hd 8), World.cell?_setCell_other _ _ _ _ (hd 7), World.cell?_setCell_other _ _ _ _ (hd 6), World.cell?_setCell_other _ _ _ _ (hd 5), World.cell?_setCell_other _ _ _ _ (hd 4), World.cell?_setCell_other _ _ _ _ (hd 3), World.cell?_setCell_other _ _ _ _ (hd 2), World.cell?_setCell_other _ _ _ _ (hd 1), World.cell?_setCell_other _ _ _ _ (hd 0)]
set_option maxHeartbeats 6400000 in
theorem specTP_any (p : Pz) (w : World) (hs : p.b.size ≤ 1048576) : Calls Tryd.prog 23 #[Pz.v p] w fun e w' => e = .returned (.tuple #[Pz.v (tpP p), .bool (pzB p)]) ∧ Below w.heap.size w w' := by
  obtain ⟨W0, hW, P0, R0, q0, z0⟩ := pz_start2 p w
  have HW := hide hW
  have HIP := hide (fun wx => puGood_any p wx hs)
  obtain ⟨l0, ⟨a0, a1, a2, a3, a4, a5, a6, a7, a8, a9, a10, a11⟩, -⟩ := P0.all
  clear hW
  cases h : pzB p with
  | false =>
    rw [h] at HIP
    have HE := hide (tp_no h)
    clear h hs
    go_enter Tryd.func23, Tryd.ntmps23
    go_upto_region 1 with (fail)
    rw [HW.out]
    go_wp2_with fail
    refine (HIP.out _).mono ?_
    rintro e w1 ⟨rfl, hb1⟩
    have q1 := below_to hb1 q0 q0.size rfl rfl rfl rfl
    have R1 := isPz_to hb1 R0 rfl
    clear hb1
    obtain ⟨l1, ⟨b0, b1, b2, b3, b4, b5, b6, b7, b8, b9, b10, b11⟩, f0, f1, f2, f3, f4, f5, f6, f7, f8, f9, f10, f11⟩ := R1.all
    go_wp2
    refine bodyPost_ret (ret_puz2 Tryd.results23 rfl rfl (R1.set12 zeroPz)) rfl ⟨by rw [HE.out], ?_⟩
    exact below_set12P q1 (by omega) zeroPz
  | true =>
    rw [h] at HIP
    obtain ⟨t1, t2, t3, t4⟩ := tp_yes h
    have HE := hide t4
    have HBR := hide (fun wx => boRead_yes p.b wx hs t1)
    have HTS := hide (fun wx => specTS_on p.b p.s wx hs t1 t2)
    obtain ⟨⟨hx0, hx1⟩, ⟨hy0, hy1⟩, -⟩ := st_nearW t1 t3
    have HTB := hide (show tbS p.b.data.toList = ⟨(joinB (rowsT (splitP p.b.data.toList).flatten (width p.b.data.toList) (splitP p.b.data.toList).length)).toArray⟩ from by unfold tbS; rw [if_pos t1])
    clear h hs t1 t2 t3 t4
    simp only at hx0 hx1 hy0 hy1
    have HCX := hide (show (tsT p.b.data.toList ⟨p.x, p.y, p.s.d⟩).x = ((splitP p.b.data.toList).length : Int) - 1 - p.y ∧ (tsT p.b.data.toList ⟨p.x, p.y, p.s.d⟩).y = p.x from ⟨rfl, rfl⟩)
    generalize tsT p.b.data.toList p.s = u at HTS HE
    generalize tsT p.b.data.toList ⟨p.x, p.y, p.s.d⟩ = c at HCX HE
    go_enter Tryd.func23, Tryd.ntmps23
    go_upto_region 1 with (fail)
    rw [HW.out]
    go_wp2_with fail
    refine (HIP.out _).mono ?_
    rintro e w1 ⟨rfl, hb1⟩
    have q1 := below_to hb1 q0 q0.size rfl rfl rfl rfl
    have P1 := isPz_to hb1 P0 rfl
    have R1 := isPz_to hb1 R0 rfl
    clear hb1 a0 a1 a2 a3 a4 a5 a6 a7 a8 a9 a10 a11 l0 P0 R0 q0
    obtain ⟨l0, ⟨a0, a1, a2, a3, a4, a5, a6, a7, a8, a9, a10, a11⟩, -⟩ := P1.all
    go_wp2_with fail
    refine (HBR.out _).mono ?_
    rintro e w2 ⟨W, Hh, n, g, cap, hgr, rfl, hA, hb2⟩
    obtain ⟨w0, w7, h0, h7, hn⟩ := grid_facts hgr
    obtain ⟨-, hW, hH, hF⟩ := hgr
    rw [hW, hH] at HTB
    rw [hH] at HCX
    have HN := hide hn
    have HF := hide hF
    clear hn hF hW hH
    generalize (splitP p.b.data.toList).flatten = F at hA HF HTB
    have q2 := below_to hb2 q1 q1.size rfl rfl rfl rfl
    have P2 := (isPz_to hb2 P1 rfl).alloc (.cells #[.int .i64 (W : Int), .int .i64 (Hh : Int), .slice (some ⟨g, 0, none⟩) n cap] 77)
    have R2 := (isPz_to hb2 R1 rfl).alloc (.cells #[.int .i64 (W : Int), .int .i64 (Hh : Int), .slice (some ⟨g, 0, none⟩) n cap] 77)
    have q2a := q2.alloc q2.size (.cells #[.int .i64 (W : Int), .int .i64 (Hh : Int), .slice (some ⟨g, 0, none⟩) n cap] 77)
    have G2 : IsG (w2.alloc (.cells #[.int .i64 (W : Int), .int .i64 (Hh : Int), .slice (some ⟨g, 0, none⟩) n cap] 77)) w2.heap.size (W : Int) (Hh : Int) (.slice (some ⟨g, 0, none⟩) n cap) := IsG.new
    have A2 := bytesAt_to (w := w2) (w0 := w2) ((Below.refl _ _).alloc (Nat.le_refl _) (.cells #[.int .i64 (W : Int), .int .i64 (Hh : Int), .slice (some ⟨g, 0, none⟩) n cap] 77)) hA rfl
    have P1b := isPz_to hb2 P1 rfl
    clear hb2 a0 a1 a2 a3 a4 a5 a6 a7 a8 a9 a10 a11 l0 P1 R1 q1 hA q2
    obtain ⟨l0, ⟨a0, a1, a2, a3, a4, a5, a6, a7, a8, a9, a10, a11⟩, -⟩ := P1b.all
    go_upto_region 4 with (fail)
    clear a0 a1 a2 a3 a4 a5 a6 a7 a8 a9 a10 a11 l0 P1b
    have hgb : w.heap.size + 1 < w2.heap.size := by
      have := q2a.size
      have h5 := R2.lt
      rcases Nat.lt_or_ge (w.heap.size + 1) w2.heap.size with h | h
      · exact h
      · exfalso
        have h6 : w.heap.size + 1 = w2.heap.size := by simp at h5; omega
        have h7 := G2
        unfold IsG at h7
        unfold IsPz at R2
        rw [← h6, R2] at h7
        cases h7
    generalize w2.alloc (.cells #[.int .i64 (W : Int), .int .i64 (Hh : Int), .slice (some ⟨g, 0, none⟩) n cap] 77) = w3 at P2 R2 q2a G2 A2 ⊢
    generalize w2.heap.size = gb at G2 hgb ⊢
    obtain ⟨l0, ⟨a0, a1, a2, a3, a4, a5, a6, a7, a8, a9, a10, a11⟩, -⟩ := P2.all
    go_wp2_with fail
    refine (HTS.out _).mono ?_
    rintro e w4 ⟨rfl, hb4⟩
    have P4 := (isPz_to hb4 P2 rfl).alloc (.cells #[.int .i64 u.x, .int .i64 u.y, .int .i64 u.d.t, .int .i64 u.d.n, .int .i64 u.d.e, .int .i64 u.d.s, .int .i64 u.d.w, .int .i64 u.d.b] 32)
    have R4 := (isPz_to hb4 R2 rfl).alloc (.cells #[.int .i64 u.x, .int .i64 u.y, .int .i64 u.d.t, .int .i64 u.d.n, .int .i64 u.d.e, .int .i64 u.d.s, .int .i64 u.d.w, .int .i64 u.d.b] 32)
    have G4 := (isG_to hb4 G2 rfl).alloc (.cells #[.int .i64 u.x, .int .i64 u.y, .int .i64 u.d.t, .int .i64 u.d.n, .int .i64 u.d.e, .int .i64 u.d.s, .int .i64 u.d.w, .int .i64 u.d.b] 32)
    have A4 := bytesAt_to (w := w4) (w0 := w4) ((Below.refl _ _).alloc (Nat.le_refl _) (.cells #[.int .i64 u.x, .int .i64 u.y, .int .i64 u.d.t, .int .i64 u.d.n, .int .i64 u.d.e, .int .i64 u.d.s, .int .i64 u.d.w, .int .i64 u.d.b] 32)) (bytesAt_to hb4 A2 rfl) rfl
    have q4 := (below_to hb4 q2a q2a.size rfl rfl rfl rfl)
    have q4a := q4.alloc q4.size (.cells #[.int .i64 u.x, .int .i64 u.y, .int .i64 u.d.t, .int .i64 u.d.n, .int .i64 u.d.e, .int .i64 u.d.s, .int .i64 u.d.w, .int .i64 u.d.b] 32)
    have S4 : IsS (w4.alloc (.cells #[.int .i64 u.x, .int .i64 u.y, .int .i64 u.d.t, .int .i64 u.d.n, .int .i64 u.d.e, .int .i64 u.d.s, .int .i64 u.d.w, .int .i64 u.d.b] 32)) w4.heap.size u 32 := IsS.new
    have hbu : w.heap.size + 1 < w4.heap.size := (isPz_to hb4 R2 rfl).lt
    clear hb4 a0 a1 a2 a3 a4 a5 a6 a7 a8 a9 a10 a11 l0 P2 R2 G2 A2 q2a q4
    go_upto_region 5 with (fail)
    generalize w4.alloc (.cells #[.int .i64 u.x, .int .i64 u.y, .int .i64 u.d.t, .int .i64 u.d.n, .int .i64 u.d.e, .int .i64 u.d.s, .int .i64 u.d.w, .int .i64 u.d.b] 32) = w5 at P4 R4 G4 A4 q4a S4 ⊢
    generalize w4.heap.size = bu at S4 hbu ⊢
    have HA := hide A4
    have y1 : IntKind.i64.wrap ((Hh : Int) - 1) = (Hh : Int) - 1 := IntWalk.i64_in _ (by omega)
    have y2 : IntKind.i64.wrap ((Hh : Int) - 1 - p.y) = (Hh : Int) - 1 - p.y := IntWalk.i64_in _ (by omega)
    have q4 := q4a
    clear A4 q4a
    obtain ⟨lp4, ⟨p4_0, p4_1, p4_2, p4_3, p4_4, p4_5, p4_6, p4_7, p4_8, p4_9, p4_10, p4_11⟩, -⟩ := P4.all
    obtain ⟨ls4, ⟨s4_0, s4_1, s4_2, s4_3, s4_4, s4_5, s4_6, s4_7⟩, -⟩ := S4.all
    obtain ⟨lg4, ⟨g4_0, g4_1, g4_2⟩, -⟩ := G4.all
    have HX := hide (textT_rows F W Hh w0)
    go_region_held3 (fun w' => w'.cell? ⟨w.heap.size, 9, none⟩ = some (.int .i64 p.x) ∧ w'.cell? ⟨w.heap.size, 10, none⟩ = some (.int .i64 p.y) ∧ w'.cell? ⟨w.heap.size, 11, none⟩ = some (.int .i64 p.t) ∧ w'.cell? ⟨bu, 0, none⟩ = some (.int .i64 u.x) ∧ w'.cell? ⟨bu, 1, none⟩ = some (.int .i64 u.y) ∧ w'.cell? ⟨bu, 2, none⟩ = some (.int .i64 u.d.t) ∧ w'.cell? ⟨bu, 3, none⟩ = some (.int .i64 u.d.n) ∧ w'.cell? ⟨bu, 4, none⟩ = some (.int .i64 u.d.e) ∧ w'.cell? ⟨bu, 5, none⟩ = some (.int .i64 u.d.s) ∧ w'.cell? ⟨bu, 6, none⟩ = some (.int .i64 u.d.w) ∧ w'.cell? ⟨bu, 7, none⟩ = some (.int .i64 u.d.b) ∧ w'.cell? ⟨gb, 0, none⟩ = some (.int .i64 (W : Int)) ∧ w'.cell? ⟨gb, 1, none⟩ = some (.int .i64 (Hh : Int)) ∧ w'.cell? ⟨gb, 2, none⟩ = some (.slice (some ⟨g, 0, none⟩) n cap)) (first | (refine ⟨?_, ?_, ?_, ?_, ?_, ?_, ?_, ?_, ?_, ?_, ?_, ?_, ?_, ?_⟩ <;> with_reducible assumption) | (refine ⟨?_, ?_, ?_, ?_, ?_, ?_, ?_, ?_, ?_, ?_, ?_, ?_, ?_, ?_⟩ <;> (rw [cell_set12P (by omega)]; with_reducible assumption)) | (refine ⟨?_, ?_, ?_, ?_, ?_, ?_, ?_, ?_, ?_, ?_, ?_, ?_, ?_, ?_⟩ <;> assumption))
      (first
        | (go_at_call 48; refine Calls.mono (boTurn_any F W Hh n ⟨w0, w7⟩ ⟨h0, h7⟩ HN.out HF.out g cap _ ?_) ?_; exact HA.out; rintro e w6 ⟨g2, cap2, rfl, O, hb6⟩; have hcap := own_capT O; have hlt := (O.lt g2 rfl).2; have HL := hide (turnT_len F W Hh W); have HC := hide (show ∀ k, k < W → ∀ j cc, (colT F W Hh k Hh)[j]? = some cc → w6.cell? ⟨g2, k * Hh + j, none⟩ = some (.int .u8 (cc.toNat : Int)) from (fun k hk j cc hc => (O.cellAt (k * Hh + j) (by have h1 := turnT_get F W Hh W k j cc hk hc; have h2 := (List.getElem?_eq_some_iff.1 h1).1; omega)).trans (by have h1 := turnT_get F W Hh W k j cc hk hc; simp [bytesV, h1]))); generalize (turnT F W Hh W).length = m at hcap HL O ⊢; have P6 := isPz_to hb6 P4 rfl; have R6 := isPz_to hb6 R4 rfl; have S6 := isS_to hb6 S4 rfl; have G6 := isG_to hb6 G4 rfl; have q6 := below_to hb6 q4 q4.size rfl rfl rfl rfl; obtain ⟨lp6, ⟨p6_0, p6_1, p6_2, p6_3, p6_4, p6_5, p6_6, p6_7, p6_8, p6_9, p6_10, p6_11⟩, -⟩ := P6.all; obtain ⟨ls6, ⟨s6_0, s6_1, s6_2, s6_3, s6_4, s6_5, s6_6, s6_7⟩, -⟩ := S6.all; obtain ⟨lg6, ⟨g6_0, g6_1, g6_2⟩, -⟩ := G6.all; obtain ⟨lr6, ⟨r6_0, r6_1, r6_2, r6_3, r6_4, r6_5, r6_6, r6_7, r6_8, r6_9, r6_10, r6_11⟩, f6_0, f6_1, f6_2, f6_3, f6_4, f6_5, f6_6, f6_7, f6_8, f6_9, f6_10, f6_11⟩ := R6.all; clear O hb6)
        | (go_at_call 47; refine Calls.mono (boText_any (fun x => colT F W Hh x Hh) Hh W m g2 cap2 ⟨h0, h7⟩ ⟨w0, w7⟩ HL.out hcap (fun k _ => colT_len F W Hh k Hh) _ ?_ ?_) ?_; exact hlt; exact HC.out; rintro e w7x ⟨rfl, hb7⟩; have P7 := isPz_to hb7 P6 rfl; have R7 := isPz_to hb7 R6 rfl; have S7 := isS_to hb7 S6 rfl; have G7 := isG_to hb7 G6 rfl; have q7 := below_to hb7 q6 q6.size rfl rfl rfl rfl; obtain ⟨lp7, ⟨p7_0, p7_1, p7_2, p7_3, p7_4, p7_5, p7_6, p7_7, p7_8, p7_9, p7_10, p7_11⟩, -⟩ := P7.all; obtain ⟨ls7, ⟨s7_0, s7_1, s7_2, s7_3, s7_4, s7_5, s7_6, s7_7⟩, -⟩ := S7.all; obtain ⟨lg7, ⟨g7_0, g7_1, g7_2⟩, -⟩ := G7.all; obtain ⟨lr7, ⟨r7_0, r7_1, r7_2, r7_3, r7_4, r7_5, r7_6, r7_7, r7_8, r7_9, r7_10, r7_11⟩, f7_0, f7_1, f7_2, f7_3, f7_4, f7_5, f7_6, f7_7, f7_8, f7_9, f7_10, f7_11⟩ := R7.all; clear hb7))
    all_goals
      go_wp2
      refine bodyPost_ret (ret_puz2 Tryd.results23 rfl rfl (R7.set12 ⟨⟨(textT (fun x => colT F W Hh x Hh) W).toArray⟩, u, (Hh : Int) - 1 - p.y, p.x, p.t⟩)) rfl ⟨by rw [HE.out, HTB.out, ← HX.out, HCX.out.1, HCX.out.2], ?_⟩
      exact below_set12P q7 (by omega) ⟨⟨(textT (fun x => colT F W Hh x Hh) W).toArray⟩, u, (Hh : Int) - 1 - p.y, p.x, p.t⟩
end Go.Proofs.YtgehcjmhgfhkdaaDoor
