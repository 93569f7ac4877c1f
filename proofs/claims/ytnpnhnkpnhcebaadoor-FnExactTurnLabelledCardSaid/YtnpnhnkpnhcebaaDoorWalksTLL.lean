/- FnExactTurnLabelled's walk. -/
import Derived.Test.YtnpnhnkpnhcebaaDoorWalksTT
import Derived.Test.YtnpnhnkpnhcebaaDoorWalksFL
import Derived.Test.YtnpnhnkpnhcebaaDoorPrAsk
namespace Go.Proofs.YtnpnhnkpnhcebaaDoor
set_option maxRecDepth 100000
set_option linter.all false
open Go.RowKit

/-- The turned labelled board's text. -/
def tlS (l : List UInt8) : ByteArray := if isLab l = true then ⟨(joinB (rowsT (splitP l).flatten (width l) (splitP l).length)).toArray⟩ else ⟨#[]⟩
set_option maxHeartbeats 1600000 in
theorem specTL_yes (s : ByteArray) (w : World) (h : isLab s.data.toList = true) : Calls Tryd.prog 17 #[.string s] w fun e w' => e = .returned (.tuple #[.string (tlS s.data.toList), .bool true]) ∧ Below w.heap.size w w' := by
  have H := hide h
  clear h
  have HE := hide (show tlS s.data.toList = ⟨(joinB (rowsT (splitP s.data.toList).flatten (width s.data.toList) (splitP s.data.toList).length)).toArray⟩ from by unfold tlS; rw [if_pos H.out])
  go_enter Tryd.func17, Tryd.ntmps17
  go_wp2_with fail
  refine (prRead_yes s _ H.out).mono ?_
  rintro e w1 ⟨W, Hh, n, g0, cap0, g, cap, hgr, rfl, hA0, hcp0, hA, hb1⟩
  obtain ⟨w0, w7, h0, h7, hn⟩ := grid_facts hgr
  obtain ⟨he, hH, hF⟩ := lab_facts hgr
  have hW : width s.data.toList = W := by rw [← width_unlab]; exact hgr.2.1
  rw [hW, hH] at HE
  have HN := hide hn
  have HF := hide hF
  clear hn hF hgr he hA0 hcp0
  generalize (splitP s.data.toList).flatten = F at hA HF HE
  have q1 : Below w.heap.size w w1 := below_after (by go_grown) hb1 (by simp)
  have q1b := q1.alloc q1.size (.cells #[.int .i64 (W : Int), .int .i64 (Hh : Int), .slice (some ⟨g0, 0, none⟩) n cap0] 38)
  have HA := hide (bytesAt_to (w := w1) (w0 := w1) ((Below.refl _ _).alloc (Nat.le_refl _) (.cells #[.int .i64 (W : Int), .int .i64 (Hh : Int), .slice (some ⟨g0, 0, none⟩) n cap0] 38)) hA rfl)
  obtain ⟨l0, ⟨c0, c1, c2⟩, -⟩ := (IsG.new (w := w1) (x := (W : Int)) (y := (Hh : Int)) (v := .slice (some ⟨g0, 0, none⟩) n cap0)).all
  clear hb1 hW hH hA q1
  go_upto_region 4 with (fail)
  clear l0
  generalize w1.heap.size = b1 at c0 c1 c2 ⊢
  generalize w1.alloc (.cells #[.int .i64 (W : Int), .int .i64 (Hh : Int), .slice (some ⟨g0, 0, none⟩) n cap0] 38) = w1b at q1b HA c0 c1 c2 ⊢
  have q1 := q1b
  clear q1b
  go_wp2_with fail
  clear c0 c1 c2
  refine (boTurn_any F W Hh n ⟨w0, w7⟩ ⟨h0, h7⟩ HN.out HF.out g cap _ HA.out).mono ?_
  rintro e w2 ⟨g2, cap2, rfl, O, hb2⟩
  have q2 := below_after q1 hb2 q1.size
  have hcap := own_capT O
  have hlt := (O.lt g2 rfl).2
  have HL := hide (turnT_len F W Hh W)
  have HC := hide (show ∀ k, k < W → ∀ j c, (colT F W Hh k Hh)[j]? = some c → w2.cell? ⟨g2, k * Hh + j, none⟩ = some (.int .u8 (c.toNat : Int)) from fun k hk j c hc => by
    have h1 := turnT_get F W Hh W k j c hk hc
    have h2 := (List.getElem?_eq_some_iff.1 h1).1
    have h3 := (O.cellAt (k * Hh + j) (by omega)).trans (show (bytesV (turnT F W Hh W))[k * Hh + j]? = some (.int .u8 (c.toNat : Int)) from by simp [bytesV, h1])
    exact h3)
  generalize (turnT F W Hh W).length = m at hcap HL O ⊢
  have HX := hide (textT_rows F W Hh w0)
  clear O hb2 q1
  go_wp2_with fail
  refine (boText_any (fun x => colT F W Hh x Hh) Hh W m g2 cap2 ⟨h0, h7⟩ ⟨w0, w7⟩ HL.out hcap (fun k _ => colT_len F W Hh k Hh) _ hlt HC.out).mono ?_
  rintro e w3 ⟨rfl, hb3⟩
  have q3 := below_after q2 hb3 q2.size
  clear hb3
  go_wp2
  go_returns
  exact ⟨by rw [HE.out, ← HX.out]; rfl, q3⟩
set_option maxHeartbeats 400000 in
theorem specTL_no (s : ByteArray) (w : World) (h : isLab s.data.toList = false) : Calls Tryd.prog 17 #[.string s] w fun e w' => e = .returned (.tuple #[.string (tlS s.data.toList), .bool false]) ∧ Below w.heap.size w w' := by
  have H := hide h
  clear h
  have HE := hide (show tlS s.data.toList = ⟨#[]⟩ from by unfold tlS; rw [H.out]; rfl)
  go_enter Tryd.func17, Tryd.ntmps17
  go_wp2_with fail
  refine (prRead_no s _ H.out).mono ?_
  rintro e w1 ⟨v, rfl, hb1⟩
  have q1 : Below w.heap.size w w1 := below_after (by go_grown) hb1 (by simp)
  clear hb1
  go_wp2
  go_returns
  exact ⟨by rw [HE.out]; rfl, q1.alloc q1.size _⟩
theorem specTL_any (s : ByteArray) (w : World) (_hs : s.size ≤ 1048576) : Calls Tryd.prog 17 #[.string s] w fun e w' => e = .returned (.tuple #[.string (tlS s.data.toList), .bool (isLab s.data.toList)]) ∧ Below w.heap.size w w' := by
  cases h : isLab s.data.toList
  · exact specTL_no s w h
  · exact specTL_yes s w h
theorem cellB_in {s : ByteArray} {W : Nat} (he : Even s.data.toList W) {x y : Nat} (hx : x < W) (hy : y < (splitP s.data.toList).length) : cellB (rowsB s) x y = cellI (splitP s.data.toList) x y := by
  have h1 := (even_row he hy).1
  have h2 := getD_rows s y
  have h3 : ((rowsB s).getD y ByteArray.empty).size = W := by
    have := congrArg List.length h2
    rw [h1] at this
    simpa using this
  have hb : hasB (rowsB s) x y = true := by
    unfold hasB
    rw [decide_eq_true_eq]
    refine ⟨by omega, ?_, by omega, ?_⟩
    · have := rows_lenT s
      omega
    · show (x : Int) < (((rowsB s).getD y ByteArray.empty).size : Int)
      omega
  unfold cellB
  rw [hb, if_pos rfl, getD_rows]
  unfold cellI
  rw [if_pos ⟨by omega, by omega⟩]
set_option maxHeartbeats 800000 in
theorem implTL_any (s : ByteArray) (w : World) (hs : s.size ≤ 1048576) (hg : Glob w) : Calls Tryd.prog 18 #[.string s] w fun e w' => e = .returned (.tuple #[.string (tlS s.data.toList), .bool (isLab s.data.toList)]) ∧ Below w.heap.size w w' := by
  have HG := hide hg
  have HS := hide hs
  have HL := hide (implIsLab_any s)
  clear hg hs
  cases h : isLab s.data.toList
  · have HE := hide (show tlS s.data.toList = ⟨#[]⟩ from by unfold tlS; rw [h]; rfl)
    rw [h] at HL
    clear h
    go_enter Tryd.func18, Tryd.ntmps18
    go_wp2_with fail
    refine (HL.out _ HS.out HG.out).mono ?_
    rintro e w1 ⟨rfl, hb⟩
    go_wp2
    go_returns
    exact ⟨by rw [HE.out]; rfl, hb⟩
  · have HE := hide (show tlS s.data.toList = ⟨(joinB (rowsT (splitP s.data.toList).flatten (width s.data.toList) (splitP s.data.toList).length)).toArray⟩ from by unfold tlS; rw [if_pos h])
    have hgr : GridOk (unlab s.data.toList) (width (unlab s.data.toList)) (splitP (unlab s.data.toList)).length (splitP (unlab s.data.toList)).flatten.length := ⟨h, rfl, rfl, rfl⟩
    obtain ⟨w0, w7, h0, h7, hn⟩ := grid_facts hgr
    obtain ⟨he, hH, hfl⟩ := lab_facts hgr
    rw [width_unlab] at w0 w7 he
    rw [rows_unlab] at h0 h7
    have hlen := rows_lenT s
    have hlt : 0 < (rowsB s).length := by omega
    have hr0 : (rowsB s)[0]? = some ((rowsB s)[0]'hlt) := List.getElem?_eq_getElem hlt
    have hr0s : ((rowsB s)[0]'hlt).size = width s.data.toList := by
      have e1 := getD_rows s 0
      have e2 : (rowsB s).getD 0 ByteArray.empty = (rowsB s)[0]'hlt := by simp [hlt]
      have e3 := congrArg List.length e1
      rw [e2, (even_row he (by omega)).1] at e3
      simpa using e3
    have HTX := hide (show ∀ (gR : Nat) (wx : World), RowsAt wx gR (rowsB s) → Calls Tryd.prog 23 #[.slice (some ⟨gR, 0, none⟩) (rowsB s).length (rowsB s).length] wx fun e w' => e = .returned (.string ⟨(joinB (rowsT (splitP s.data.toList).flatten (width s.data.toList) (splitP s.data.toList).length)).toArray⟩) ∧ Below wx.heap.size wx w' from fun gR wx RA => turnedText_any (rowsB s) gR (splitP s.data.toList).flatten (width s.data.toList) (splitP s.data.toList).length w0 w7 h0 h7 hlen _ hr0 hr0s (fun x y hx hy => by rw [cellB_in he hx hy]; exact cellI_flat he hy hx) (by omega) (fun r hr => Nat.le_trans (rowsB_fit s r hr) HS.out) wx RA)
    rw [h] at HL
    clear h hgr hn he hH hfl w0 w7 h0 h7 hlen hr0 hr0s hlt
    go_enter Tryd.func18, Tryd.ntmps18
    go_wp2_with fail
    refine (HL.out _ HS.out HG.out).mono ?_
    rintro e w1 ⟨rfl, hb⟩
    have hg1 := hide (glob_to hb HG.out rfl)
    go_wp2_with fail
    refine (split_any s _ HS.out hg1.out).mono ?_
    rintro e w2 ⟨rfl, RA, hb2⟩
    have q2 := below_after hb hb2 hb.size
    go_wp2_with fail
    refine (HTX.out _ _ RA).mono ?_
    rintro e w3 ⟨rfl, hb3⟩
    go_wp2
    go_returns
    exact ⟨by rw [HE.out]; rfl, below_after q2 hb3 q2.size⟩
set_option maxHeartbeats 800000 in
theorem walk_TurnLabelled (v : ByteArray) (hv : v.size ≤ maxLen) (w : World) (hg : Glob w) : Calls Tryd.prog 7 #[.string v] w fun e w' => e = .returned (.bool true) ∧ Below w.heap.size w w' := by
  have HGL := hide hg
  clear hg
  by_cases h1 : v.size ≤ 1048576
  · have HS := hide h1
    go_enter Tryd.func7, Tryd.ntmps7
    go_wp2_with fail
    refine (specTL_any v _ HS.out).mono ?_
    rintro e w1 ⟨rfl, hb1⟩
    generalize hx : tlS v.data.toList = x
    generalize hy : isLab v.data.toList = g
    have HX := hide hx
    have HY := hide hy
    clear hx hy
    have hg1 := hide (glob_to hb1 HGL.out rfl)
    go_wp2_with fail
    refine (implTL_any v _ HS.out hg1.out).mono ?_
    rintro e w2 ⟨rfl, hb2⟩
    rw [HX.out, HY.out]
    have e1 : (x.toList != x.toList) = false := by simp
    have e2 : (g != g) = false := by simp
    go_wp2
    go_returns
    exact ⟨rfl, below_after hb1 hb2 hb1.size⟩
  · go_enter Tryd.func7, Tryd.ntmps7
    go_wp2
    go_returns
    exact ⟨rfl, Below.refl _ _⟩
end Go.Proofs.YtnpnhnkpnhcebaaDoor
