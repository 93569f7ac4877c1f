/- The walk of TurnGround's law. -/
import Derived.Test.YtoojoghgbmpbpaaDoorWalksTT
import Derived.Test.YtoojoghgbmpbpaaDoorWalksPG
namespace Go.Proofs.YtoojoghgbmpbpaaDoor
set_option maxRecDepth 100000
set_option linter.all false
open Go.RowKit

/-- The turned ground's text. -/
def tgS (l : List UInt8) : ByteArray := if isGd l = true then ⟨(joinB (rowsT (splitP l).flatten (width l) (splitP l).length)).toArray⟩ else ⟨#[]⟩
set_option maxHeartbeats 1600000 in
theorem specTG_yes (s : ByteArray) (w : World) (hs : s.size ≤ 1048576) (h : isGd s.data.toList = true) : Calls Tryd.prog 33 #[.string s] w fun e w' => e = .returned (.tuple #[.string (tgS s.data.toList), .bool true]) ∧ Below w.heap.size w w' := by
  have H := hide h
  clear h
  have HE := hide (show tgS s.data.toList = ⟨(joinB (rowsT (splitP s.data.toList).flatten (width s.data.toList) (splitP s.data.toList).length)).toArray⟩ from by unfold tgS; rw [if_pos H.out])
  go_enter Tryd.func33, Tryd.ntmps33
  go_wp2_with fail
  refine (bxRead_yes s _ hs H.out).mono ?_
  rintro e w1 ⟨W, Hh, n, g, cap, hgr, rfl, hA, hb1⟩
  obtain ⟨w0, w7, h0, h7, hn⟩ := grid_facts hgr.grid
  obtain ⟨-, hW, hH, hF⟩ := hgr
  rw [hW, hH] at HE
  have HN := hide hn
  have HF := hide hF
  clear hn
  clear hF
  generalize (splitP s.data.toList).flatten = F at hA HF HE
  have q1 : Below w.heap.size w w1 := below_after (by go_grown) hb1 (by simp)
  have q1b := q1.alloc q1.size (.cells #[.int .i64 (W : Int), .int .i64 (Hh : Int), .slice (some ⟨g, 0, none⟩) n cap] 44)
  have HA := hide (bytesAt_to (w := w1) (w0 := w1) ((Below.refl _ _).alloc (Nat.le_refl _) (.cells #[.int .i64 (W : Int), .int .i64 (Hh : Int), .slice (some ⟨g, 0, none⟩) n cap] 44)) hA rfl)
  obtain ⟨l0, ⟨c0, c1, c2⟩, -⟩ := (IsG.new (w := w1) (x := (W : Int)) (y := (Hh : Int)) (v := .slice (some ⟨g, 0, none⟩) n cap)).all
  clear hb1 hW hH hA q1
  go_upto_region 4 with (fail)
  clear l0
  generalize w1.alloc (.cells #[.int .i64 (W : Int), .int .i64 (Hh : Int), .slice (some ⟨g, 0, none⟩) n cap] 44) = w1b at q1b HA c0 c1 c2 ⊢
  have q1 := q1b
  clear q1b
  go_wp2_with fail
  clear c0 c1 c2
  refine (boTurn_any F W Hh n ⟨w0, w7⟩ ⟨h0, h7⟩ HN.out HF.out g cap _ HA.out).mono ?_
  rintro e w2 ⟨g2, cap2, rfl, O, hb2⟩
  have q2 := below_after q1 hb2 q1.size
  have hcap := own_capT O
  have hlt := (O.lt g2 rfl).2
  have HL := hide (turnT_len F W Hh W)
  have HC := hide (show ∀ k, k < W → ∀ j c, (colT F W Hh k Hh)[j]? = some c → w2.cell? ⟨g2, k * Hh + j, none⟩ = some (.int .u8 (c.toNat : Int)) from fun k hk j c hc => by
    have h1 := turnT_get F W Hh W k j c hk hc
    have h2 := (List.getElem?_eq_some_iff.1 h1).1
    have h3 := (O.cellAt (k * Hh + j) (by omega)).trans (show (bytesV (turnT F W Hh W))[k * Hh + j]? = some (.int .u8 (c.toNat : Int)) from by simp [bytesV, h1])
    exact h3)
  generalize (turnT F W Hh W).length = m at hcap HL O ⊢
  have HX := hide (textT_rows F W Hh w0)
  clear O hb2 q1
  go_wp2_with fail
  refine (boText_any (fun x => colT F W Hh x Hh) Hh W m g2 cap2 ⟨h0, h7⟩ ⟨w0, w7⟩ HL.out hcap (fun k _ => colT_len F W Hh k Hh) _ hlt HC.out).mono ?_
  rintro e w3 ⟨rfl, hb3⟩
  have q3 := below_after q2 hb3 q2.size
  clear hb3
  go_wp2
  go_returns
  exact ⟨by rw [HE.out, ← HX.out]; rfl, q3⟩
set_option maxHeartbeats 400000 in
theorem specTG_no (s : ByteArray) (w : World) (hs : s.size ≤ 1048576) (h : isGd s.data.toList = false) : Calls Tryd.prog 33 #[.string s] w fun e w' => e = .returned (.tuple #[.string (tgS s.data.toList), .bool false]) ∧ Below w.heap.size w w' := by
  have H := hide h
  clear h
  have HE := hide (show tgS s.data.toList = ⟨#[]⟩ from by unfold tgS; rw [H.out]; rfl)
  go_enter Tryd.func33, Tryd.ntmps33
  go_wp2_with fail
  refine (bxRead_no s _ hs H.out).mono ?_
  rintro e w1 ⟨rfl, hb1⟩
  have q1 : Below w.heap.size w w1 := below_after (by go_grown) hb1 (by simp)
  clear hb1
  go_wp2
  go_returns
  exact ⟨by rw [HE.out]; rfl, q1.alloc q1.size _⟩
set_option maxHeartbeats 800000 in
theorem implTG_yes (s : ByteArray) (w : World) (hs : s.size ≤ 1048576) (hg : Glob w) (h : isGd s.data.toList = true) : Calls Tryd.prog 34 #[.string s] w fun e w' => e = .returned (.tuple #[.string (tgS s.data.toList), .bool true]) ∧ Below w.heap.size w w' := by
  have HG := hide hg
  have HBD := hide h
  have HE := hide (show tgS s.data.toList = ⟨(joinB (rowsT (splitP s.data.toList).flatten (width s.data.toList) (splitP s.data.toList).length)).toArray⟩ from by unfold tgS; rw [if_pos h])
  have hbd := bd_facts (gd_bd h)
  rw [width_ungl, rows_ungl] at hbd
  obtain ⟨w1, w7, h1, h7, -, -⟩ := hbd
  obtain ⟨r0, hr0, hr0s⟩ := rowG h (y := 0) (by omega)
  have hN := rows_lenT s
  have HTX := hide (fun (gR : Nat) (wx : World) (RA : RowsAt wx gR (rowsB s)) => turnedText_any (rowsB s) gR (splitP s.data.toList).flatten (width s.data.toList) (splitP s.data.toList).length w1 w7 h1 h7 hN r0 hr0 hr0s (fun x y hx hy => by rw [cellB_G]; exact cellI_flat (gd_even h) hy hx) (by omega) (fun r hr => Nat.le_trans (rowsB_fit s r hr) hs) wx RA)
  rw [← HE.out] at HTX
  generalize tgS s.data.toList = x at HTX ⊢
  clear hg h hr0 hr0s hN HE
  go_enter Tryd.func34, Tryd.ntmps34
  go_wp2_with fail
  refine (groundOf_yes s _ hs HG.out HBD.out).mono ?_
  rintro e wa ⟨rfl, RA, b1⟩
  go_wp2_with fail
  refine (HTX.out _ _ RA).mono ?_
  rintro e w3 ⟨rfl, hb3⟩
  go_wp2
  go_returns
  exact ⟨rfl, below_after b1 hb3 b1.size⟩

theorem implTG_no (s : ByteArray) (w : World) (hs : s.size ≤ 1048576) (hg : Glob w) (h : isGd s.data.toList = false) : Calls Tryd.prog 34 #[.string s] w fun e w' => e = .returned (.tuple #[.string (tgS s.data.toList), .bool false]) ∧ Below w.heap.size w w' := by
  have HG := hide hg
  have H := hide h
  have HE := hide (show tgS s.data.toList = ⟨#[]⟩ from by unfold tgS; rw [h]; rfl)
  clear h hg
  go_enter Tryd.func34, Tryd.ntmps34
  go_wp2_with fail
  refine (groundOf_no s _ hs HG.out H.out).mono ?_
  rintro e w1 ⟨rfl, hb1⟩
  go_wp2
  go_returns
  exact ⟨by rw [HE.out]; rfl, hb1⟩
theorem specTG_any (s : ByteArray) (w : World) (hs : s.size ≤ 1048576) : Calls Tryd.prog 33 #[.string s] w fun e w' => e = .returned (.tuple #[.string (tgS s.data.toList), .bool (isGd s.data.toList)]) ∧ Below w.heap.size w w' := by
  cases h : isGd s.data.toList
  · exact specTG_no s w hs h
  · exact specTG_yes s w hs h
theorem implTG_any (s : ByteArray) (w : World) (hs : s.size ≤ 1048576) (hg : Glob w) : Calls Tryd.prog 34 #[.string s] w fun e w' => e = .returned (.tuple #[.string (tgS s.data.toList), .bool (isGd s.data.toList)]) ∧ Below w.heap.size w w' := by
  cases h : isGd s.data.toList
  · exact implTG_no s w hs hg h
  · exact implTG_yes s w hs hg h
set_option maxHeartbeats 800000 in
theorem walk_TurnGround (v : ByteArray) (hv : v.size ≤ maxLen) (w : World) (hg : Glob w) : Calls Tryd.prog 12 #[.string v] w fun e w' => e = .returned (.bool true) ∧ Below w.heap.size w w' := by
  have HGL := hide hg
  clear hg
  by_cases h1 : v.size ≤ 1048576
  · have HS := hide h1
    go_enter Tryd.func12, Tryd.ntmps12
    go_wp2_with fail
    refine (specTG_any v _ HS.out).mono ?_
    rintro e w1 ⟨rfl, hb1⟩
    generalize hx : tgS v.data.toList = x
    generalize hy : isGd v.data.toList = g
    have HX := hide hx
    have HY := hide hy
    clear hx hy
    have hg1 := hide (glob_to hb1 HGL.out rfl)
    go_wp2_with fail
    refine (implTG_any v _ HS.out hg1.out).mono ?_
    rintro e w2 ⟨rfl, hb2⟩
    rw [HX.out, HY.out]
    have e1 : (x.toList != x.toList) = false := by simp
    have e2 : (g != g) = false := by simp
    go_wp2
    go_returns
    exact ⟨rfl, below_after hb1 hb2 hb1.size⟩
  · go_enter Tryd.func12, Tryd.ntmps12
    go_wp2
    go_returns
    exact ⟨rfl, Below.refl _ _⟩
end Go.Proofs.YtoojoghgbmpbpaaDoor
