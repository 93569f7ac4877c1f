/- The law of TurnNet. Conditions: the chapters' variables as they were laid. -/
import Derived.Test.YtkknjokacinlaaaGreatDoorWalksTT
import Derived.Test.YtkknjokacinlaaaGreatDoorNeMir
import Derived.Test.YtkknjokacinlaaaGreatDoorNeH
import Derived.Test.YtkknjokacinlaaaGreatDoorNetH
namespace Go.Proofs.YtkknjokacinlaaaGreatDoor
set_option maxRecDepth 100000
set_option linter.all false
open Go.RowKit

theorem textM_T (R : Nat → List UInt8) : ∀ k, textM R k = textT R k
  | 0 => rfl
  | k + 1 => by
    show (if k = 0 then [] else textM R k ++ [47]) ++ R k = (if k = 0 then [] else textT R k ++ [47]) ++ R k
    rw [textM_T R k]
/-- The turned net's text. -/
def tnS (l : List UInt8) : ByteArray := ⟨(joinB (rowsT (flatL l) (width l) (splitP l).length)).toArray⟩
set_option maxHeartbeats 800000 in
/-- spec.neTurn: as spec.boTurn. -/
theorem neTurn_any (F : List UInt8) (W H n : Nat) (hW : 1 ≤ W ∧ W ≤ 7) (hH : 1 ≤ H ∧ H ≤ 7) (hn : n = W * H) (hF : F.length = n) (g cap : Nat) (w : World) (hA : AtB w g F) : Calls Tryz.prog 8 #[.agg #[.int .i64 (W : Int), .int .i64 (H : Int), .slice (some ⟨g, 0, none⟩) n cap]] w fun e w' => ∃ g' cap', e = .returned (.agg #[.int .i64 (H : Int), .int .i64 (W : Int), .slice (some ⟨g', 0, none⟩) (turnT F W H W).length cap']) ∧ w'.ownsRow w.heap.size 5 1 (.slice (some ⟨g', 0, none⟩) (turnT F W H W).length cap') (turnT F W H W).length (bytesV (turnT F W H W)) ∧ Below w.heap.size w w' := by
  have hBT := fun wx (hx : AtB wx g F) => boTurnA_any F W H n hW hH hn hF g cap wx hx
  have q0 : Below w.heap.size w ((w.alloc (.cells #[.int .i64 (W : Int), .int .i64 (H : Int), .slice (some ⟨g, 0, none⟩) n cap] 27)).alloc (.cells #[.int .i64 0, .int .i64 0, .slice none 0 0] 27)) := by go_grown
  have G0 := (IsGN.new (w := w) (x := (W : Int)) (y := (H : Int)) (v := .slice (some ⟨g, 0, none⟩) n cap)).alloc (.cells #[.int .i64 0, .int .i64 0, .slice none 0 0] 27)
  have G1 : IsGN ((w.alloc (.cells #[.int .i64 (W : Int), .int .i64 (H : Int), .slice (some ⟨g, 0, none⟩) n cap] 27)).alloc (.cells #[.int .i64 0, .int .i64 0, .slice none 0 0] 27)) (w.heap.size + 1) 0 0 (.slice none 0 0) := by
    have := IsGN.new (w := w.alloc (.cells #[.int .i64 (W : Int), .int .i64 (H : Int), .slice (some ⟨g, 0, none⟩) n cap] 27)) (x := 0) (y := 0) (v := .slice none 0 0)
    simpa using this
  have A0 := atB_to q0 hA rfl
  obtain ⟨m, hm⟩ : ∃ m, m = (turnT F W H W).length := ⟨_, rfl⟩
  obtain ⟨L, hL⟩ : ∃ L, L = bytesV (turnT F W H W) := ⟨_, rfl⟩
  simp only [← hm, ← hL] at hBT ⊢
  have HBT := hide hBT
  clear hBT hA hm hL hn hF
  go_enter Tryz.func8, Tryz.ntmps8
  obtain ⟨l0, ⟨a0, a1, a2⟩, -⟩ := G0.all
  go_upto_region 1 with (fail)
  generalize (w.alloc (.cells #[.int .i64 (W : Int), .int .i64 (H : Int), .slice (some ⟨g, 0, none⟩) n cap] 27)).alloc (.cells #[.int .i64 0, .int .i64 0, .slice none 0 0] 27) = W0 at q0 G0 G1 A0 a0 a1 a2 l0 ⊢
  go_wp2_with fail
  refine (HBT.out _ A0).mono ?_
  rintro e w2 ⟨g', c', rfl, O2, hb2⟩
  have q2 := below_after q0 hb2 q0.size
  have G2 := (isGN_to hb2 G1 rfl).alloc (.cells #[.int .i64 (H : Int), .int .i64 (W : Int), .slice (some ⟨g', 0, none⟩) m c'] 40)
  have q3 := q2.alloc q2.size (.cells #[.int .i64 (H : Int), .int .i64 (W : Int), .slice (some ⟨g', 0, none⟩) m c'] 40)
  have O3 := own_mono (O2.alloc (.cells #[.int .i64 (H : Int), .int .i64 (W : Int), .slice (some ⟨g', 0, none⟩) m c'] 40)) (B' := W0.heap.size) (by omega)
  obtain ⟨c0, c1, c2⟩ := boG_cells w2 (H : Int) (W : Int) (.slice (some ⟨g', 0, none⟩) m c')
  obtain ⟨l1, ⟨b0, b1, b2⟩, b3, b4, b5⟩ := G2.all
  have hlt := G1.lt
  have hzz := q0.size
  clear q0 G0 A0 a0 a1 a2 l0 O2 hb2 q2
  go_wp2
  refine bodyPost_ret (ret_gridM Tryz.results8 rfl (G2.set3 (H : Int) (W : Int) (.slice (some ⟨g', 0, none⟩) m c'))) rfl ⟨g', c', rfl, ?_, ?_⟩
  · exact own_mono (ownsRow_setCell_below (ownsRow_setCell_below (ownsRow_setCell_below O3 (a := ⟨w.heap.size + 1, 0, none⟩) (by show w.heap.size + 1 < W0.heap.size; omega) _) (a := ⟨w.heap.size + 1, 1, none⟩) (by show w.heap.size + 1 < W0.heap.size; omega) _) (a := ⟨w.heap.size + 1, 2, none⟩) (by show w.heap.size + 1 < W0.heap.size; omega) _) hzz
  · exact below_set3N q3 (Nat.le_succ _) _ _ _
theorem specTN_no (s : ByteArray) (w : World) (hn : netB s.data.toList = false) : Calls Tryz.prog 4 #[.string s] w fun e w' => e = .returned (.tuple #[.string ⟨#[]⟩, .bool false]) ∧ Below w.heap.size w w' := by
  have HN := hide hn
  clear hn
  go_enter Tryz.func4, Tryz.ntmps4
  go_wp2_with fail
  refine (neNet_any s _).mono ?_
  rintro e w2 (⟨hy, -⟩ | ⟨-, x, y, a, m, c, u, rfl, hb⟩)
  · rw [HN.out] at hy; cases hy
  · go_wp2
    go_returns
    exact ⟨rfl, hb.alloc hb.size _⟩
theorem six_of_net {l : List UInt8} (hn : netB l = true) : sixB l = true := by
  cases h : sixB l
  · rw [net_six h] at hn; cases hn
  · rfl
set_option maxHeartbeats 1600000 in
theorem specTN_yes (s : ByteArray) (w : World) (hn : netB s.data.toList = true) : Calls Tryz.prog 4 #[.string s] w fun e w' => e = .returned (.tuple #[.string (tnS s.data.toList), .bool true]) ∧ Below w.heap.size w w' := by
  have HNE := fun wx => neNet_any s wx
  obtain ⟨l, hl⟩ : ∃ l, l = s.data.toList := ⟨_, rfl⟩
  simp only [← hl] at HNE hn ⊢
  have h6 := six_of_net hn
  obtain ⟨W, hW⟩ : ∃ W, W = width l := ⟨_, rfl⟩
  obtain ⟨V, hV⟩ : ∃ V, V = (splitP l).length := ⟨_, rfl⟩
  obtain ⟨n, hnn⟩ : ∃ n, n = (flatL l).length := ⟨_, rfl⟩
  have hF : Filled l W V := by rw [hW, hV]; exact (six_parts h6).1
  have hW6 := hF.w6
  have hV6 := hF.h6
  have hW1 := hF.w1
  have hV1 := hF.h1
  obtain ⟨x, hx⟩ : ∃ x, x = tnS l := ⟨_, rfl⟩
  rw [← hx]
  have HX := hide (hx.trans (show tnS l = ⟨(textM (fun x => colT (flatL l) W V x V) W).toArray⟩ from by unfold tnS; rw [← hW, ← hV, ← textT_rows (flatL l) W V hW1, textM_T]))
  have HN := hide hn
  have HNE := hide HNE
  have hnW : n = W * V := by rw [hnn]; exact hF.toGrid6.flat_len
  obtain ⟨F, hFF⟩ : ∃ F, F = flatL l := ⟨_, rfl⟩
  rw [← hFF] at HX hnn
  have HFF := hide hFF
  have HTN := hide (fun gb cap wx (hx : AtB wx gb F) => neTurn_any F W V n ⟨hW1, by omega⟩ ⟨hV1, by omega⟩ hnW hnn.symm gb cap wx hx)
  have HTL := hide (turnT_len F W V W)
  have HTG := hide (fun k j c (hk : k < W) (h : (colT F W V k V)[j]? = some c) => turnT_get F W V W k j c hk h)
  clear hl hn h6 hx hF hnW
  go_enter Tryz.func4, Tryz.ntmps4
  go_wp2_with fail
  refine (HNE.out _).mono ?_
  rintro e w2 (⟨-, gb, cap, ob, rfl, hg, ho, A, R, hb⟩ | ⟨hy, -⟩)
  rotate_left
  · rw [HN.out] at hy; cases hy
  rw [← hFF] at A
  rw [← hFF, ← hW, ← hV, ← hnn]
  have q2 := hb.alloc hb.size (.cells #[.int .i64 (W : Int), .int .i64 (V : Int), .slice (some ⟨gb, 0, none⟩) n cap] 27)
  have A3 : AtB (w2.alloc (.cells #[.int .i64 (W : Int), .int .i64 (V : Int), .slice (some ⟨gb, 0, none⟩) n cap] 27)) gb F := byN_to ((Below.refl _ _).alloc (Nat.le_refl _) _) A rfl
  obtain ⟨l0, ⟨a0, a1, a2⟩, -⟩ := (IsGN.new (w := w2) (x := (W : Int)) (y := (V : Int)) (v := .slice (some ⟨gb, 0, none⟩) n cap)).all
  have HQ2 := hide q2
  have HA3 := hide A3
  clear hb A R hW hV hnn q2 A3 hFF
  go_wp2_with fail
  refine (HTN.out _ _ _ HA3.out).mono ?_
  rintro e w3 ⟨g', c', rfl, O3, hb3⟩
  have hcap := own_capT O3
  have hlt := (O3.lt g' rfl).2
  have HQ3 := hide (below_after HQ2.out hb3 HQ2.out.size)
  have HB3 := hide (byN_own (F := turnT F W V W) O3 rfl)
  have HNT := hide (neText_any (fun x => colT F W V x V) V W (turnT F W V W).length g' c' ⟨hV1, by omega⟩ ⟨hW1, by omega⟩ HTL.out hcap (fun k _ => colT_len F W V k V) w3 hlt (fun k hk j c h => HB3.out.2 _ c (HTG.out k j c hk h)))
  rw [← HX.out] at HNT
  clear O3 hb3 a0 a1 a2 l0 HTL HB3
  generalize (turnT F W V W).length = m at HNT hcap ⊢
  go_wp2_with (go_at_call 7; (with_reducible refine HNT.out.mono ?_); rintro e w4 ⟨rfl, hb4⟩; have HQ4 := hide (below_after HQ3.out hb4 HQ3.out.size))
  go_returns
  exact ⟨rfl, HQ4.out⟩
theorem cellB_inN {s : ByteArray} {W : Nat} (he : Even s.data.toList W) {x y : Nat} (hx : x < W) (hy : y < (splitP s.data.toList).length) : cellB (rowsB s) x y = cellI (splitP s.data.toList) x y := by
  have h1 := (even_row he hy).1
  have h2 := getD_rows s y
  have h3 : ((rowsB s).getD y ByteArray.empty).size = W := by
    have := congrArg List.length h2
    rw [h1] at this
    simpa using this
  have hb : hasB (rowsB s) x y = true := by
    unfold hasB
    rw [decide_eq_true_eq]
    refine ⟨by omega, ?_, by omega, ?_⟩
    · have := rows_lenT s
      omega
    · show (x : Int) < (((rowsB s).getD y ByteArray.empty).size : Int)
      omega
  unfold cellB
  rw [hb, if_pos rfl, getD_rows]
  unfold cellI
  rw [if_pos ⟨by omega, by omega⟩]
theorem quarterTurned_any (s : ByteArray) (w : World) (hs : s.size ≤ 1048576) (hg : Glob w) {W H : Nat} (hF : Filled s.data.toList W H) : Calls Tryz.prog 10 #[.string s] w fun e w' => e = .returned (.string (tnS s.data.toList)) ∧ Below w.heap.size w w' := by
  have HG := hide hg
  have hW := hF.ww
  have hH := hF.hh
  have he := hF.even
  have hW1 := hF.w1
  have hW6 := hF.w6
  have hH1 := hF.h1
  have hH6 := hF.h6
  have HE := hide (show tnS s.data.toList = ⟨(joinB (rowsT (flatL s.data.toList) W H)).toArray⟩ from by unfold tnS; rw [hW, hH])
  have hlen := rows_lenT s
  have hlt : 0 < (rowsB s).length := by omega
  have hr0 : (rowsB s)[0]? = some ((rowsB s)[0]'hlt) := List.getElem?_eq_getElem hlt
  have hr0s : ((rowsB s)[0]'hlt).size = W := by
    have e1 := getD_rows s 0
    have e2 : (rowsB s).getD 0 ByteArray.empty = (rowsB s)[0]'hlt := by simp [hlt]
    have e3 := congrArg List.length e1
    rw [e2, (even_row he (by omega)).1] at e3
    simpa using e3
  have HTX := hide (fun (gR : Nat) (wx : World) (RA : RowsAt wx gR (rowsB s)) => turnedText_any (rowsB s) gR (flatL s.data.toList) W H hW1 (by omega) hH1 (by omega) (hlen.trans hH) _ hr0 hr0s (fun x y hx hy => by rw [cellB_inN he hx (by rw [hH]; exact hy)]; exact cellI_flat he (by rw [hH]; exact hy) hx) (by omega) (fun r hr => Nat.le_trans (rowsB_fit s r hr) hs) wx RA)
  rw [← HE.out] at HTX
  generalize tnS s.data.toList = x at HTX ⊢
  clear hg hF hW hH he hlen hr0 hr0s hlt HE
  go_enter Tryz.func10, Tryz.ntmps10
  go_wp2_with fail
  refine (split_any s _ hs HG.out).mono ?_
  rintro e w2 ⟨rfl, RA, hb2⟩
  go_wp2_with fail
  refine (HTX.out _ _ RA).mono ?_
  rintro e w3 ⟨rfl, hb3⟩
  go_wp2
  go_returns
  exact ⟨rfl, below_after hb2 hb3 hb2.size⟩
theorem implTN_no (s : ByteArray) (w : World) (hs : s.size ≤ 1048576) (hn : netB s.data.toList = false) : Calls Tryz.prog 5 #[.string s] w fun e w' => e = .returned (.tuple #[.string ⟨#[]⟩, .bool false]) ∧ Below w.heap.size w w' := by
  have HI := hide (fun wx => isNet_any s wx hs)
  simp only [hn] at HI
  clear hn
  go_enter Tryz.func5, Tryz.ntmps5
  go_wp2_with (go_at_call 9; (refine (HI.out _).mono ?_); rintro e w2 ⟨rfl, hb2⟩)
  go_returns
  exact ⟨rfl, hb2⟩
theorem implTN_yes (s : ByteArray) (w : World) (hs : s.size ≤ 1048576) (hg : Glob w) (hn : netB s.data.toList = true) : Calls Tryz.prog 5 #[.string s] w fun e w' => e = .returned (.tuple #[.string (tnS s.data.toList), .bool true]) ∧ Below w.heap.size w w' := by
  have h6 := six_of_net hn
  have HI := hide (fun wx => isNet_any s wx hs)
  simp only [hn] at HI
  have HM := hide (fun wx (hx : Glob wx) => quarterTurned_any s wx hs hx (six_parts h6).1)
  generalize tnS s.data.toList = x at HM ⊢
  have HG := hide hg
  clear hn h6 hg
  go_enter Tryz.func5, Tryz.ntmps5
  go_wp2_with (first | (go_at_call 9; (refine (HI.out _).mono ?_); rintro e w2 ⟨rfl, hb2⟩; have HG2 := hide (glob_to hb2 HG.out rfl); have HB2 := hide hb2; clear hb2) | (go_at_call 10; (refine (HM.out _ HG2.out).mono ?_); rintro e w3 ⟨rfl, hb3⟩; have HB3 := hide (below_after HB2.out hb3 HB2.out.size)))
  go_returns
  exact ⟨rfl, HB3.out⟩
set_option maxHeartbeats 800000 in
theorem walk_TurnNet (v : ByteArray) (hv : v.size ≤ maxLen) (w : World) (hg : Glob w) : Calls Tryz.prog 3 #[.string v] w fun e w' => e = .returned (.bool true) ∧ Below w.heap.size w w' := by
  by_cases h1 : v.size ≤ 1048576
  · have h1i : (v.size : Int) ≤ 1048576 := by omega
    have HG := hide hg
    have key : ∀ (x : ByteArray) (ok : Bool), Hid (∀ wx, Calls Tryz.prog 4 #[.string v] wx fun e w' => e = .returned (.tuple #[.string x, .bool ok]) ∧ Below wx.heap.size wx w') → Hid (∀ wx, Glob wx → Calls Tryz.prog 5 #[.string v] wx fun e w' => e = .returned (.tuple #[.string x, .bool ok]) ∧ Below wx.heap.size wx w') → Calls Tryz.prog 3 #[.string v] w fun e w' => e = .returned (.bool true) ∧ Below w.heap.size w w' := by
      intro x ok HS HP
      have e1 : (ok != ok) = false := by simp
      have e2 : (x.toList != x.toList) = false := by simp
      go_enter Tryz.func3, Tryz.ntmps3
      go_wp2_with fail
      refine (HS.out _).mono ?_
      rintro e w1 ⟨rfl, hb1⟩
      go_wp2_with fail
      refine (HP.out _ (glob_to hb1 HG.out rfl)).mono ?_
      rintro e w2 ⟨rfl, hb2⟩
      go_wp2
      go_returns
      exact ⟨rfl, below_after hb1 hb2 hb1.size⟩
    cases hn : netB v.data.toList
    · exact key _ false (hide (fun wx => specTN_no v wx hn)) (hide (fun wx _ => implTN_no v wx h1 hn))
    · exact key _ true (hide (fun wx => specTN_yes v wx hn)) (hide (fun wx hx => implTN_yes v wx h1 hx hn))
  · have h1i : (1048576 : Int) < (v.size : Int) := by omega
    clear h1
    go_enter Tryz.func3, Tryz.ntmps3
    go_wp2
    go_returns
    exact ⟨rfl, Below.refl _ _⟩
end Go.Proofs.YtkknjokacinlaaaGreatDoor
