/- The model's TurnBoard. -/
import Derived.Test.YtnpnhnkpnhcebaaDoorWalksTB
namespace Go.Proofs.YtnpnhnkpnhcebaaDoor
set_option maxRecDepth 100000
set_option linter.all false
open Go.RowKit

set_option maxHeartbeats 1600000 in
theorem specTB_yes (s : ByteArray) (w : World) (hs : s.size ≤ 1048576) (h : isBd s.data.toList = true) : Calls Tryd.prog 8 #[.string s] w fun e w' => e = .returned (.tuple #[.string (tbS s.data.toList), .bool true]) ∧ Below w.heap.size w w' := by
  have H := hide h
  clear h
  have HE := hide (show tbS s.data.toList = ⟨(joinB (rowsT (splitP s.data.toList).flatten (width s.data.toList) (splitP s.data.toList).length)).toArray⟩ from by unfold tbS; rw [if_pos H.out])
  go_enter Tryd.func8, Tryd.ntmps8
  go_wp2_with fail
  refine (boRead_yes s _ hs H.out).mono ?_
  rintro e w1 ⟨W, Hh, n, g, cap, hgr, rfl, hA, hb1⟩
  obtain ⟨w0, w7, h0, h7, hn⟩ := grid_facts hgr
  obtain ⟨-, hW, hH, hF⟩ := hgr
  rw [hW, hH] at HE
  have HN := hide hn
  have HF := hide hF
  clear hn
  clear hF
  generalize (splitP s.data.toList).flatten = F at hA HF HE
  have q1 : Below w.heap.size w w1 := below_after (by go_grown) hb1 (by simp)
  have q1b := q1.alloc q1.size (.cells #[.int .i64 (W : Int), .int .i64 (Hh : Int), .slice (some ⟨g, 0, none⟩) n cap] 38)
  have HA := hide (bytesAt_to (w := w1) (w0 := w1) ((Below.refl _ _).alloc (Nat.le_refl _) (.cells #[.int .i64 (W : Int), .int .i64 (Hh : Int), .slice (some ⟨g, 0, none⟩) n cap] 38)) hA rfl)
  obtain ⟨l0, ⟨c0, c1, c2⟩, -⟩ := (IsG.new (w := w1) (x := (W : Int)) (y := (Hh : Int)) (v := .slice (some ⟨g, 0, none⟩) n cap)).all
  clear hb1 hW hH hA q1
  go_upto_region 4 with (fail)
  clear l0
  generalize w1.alloc (.cells #[.int .i64 (W : Int), .int .i64 (Hh : Int), .slice (some ⟨g, 0, none⟩) n cap] 38) = w1b at q1b HA c0 c1 c2 ⊢
  have q1 := q1b
  clear q1b
  go_wp2_with fail
  clear c0 c1 c2
  refine (boTurn_any F W Hh n ⟨w0, w7⟩ ⟨h0, h7⟩ HN.out HF.out g cap _ HA.out).mono ?_
  rintro e w2 ⟨g2, cap2, rfl, O, hb2⟩
  have q2 := below_after q1 hb2 q1.size
  have hcap := own_capT O
  have hlt := (O.lt g2 rfl).2
  have HL := hide (turnT_len F W Hh W)
  have HC := hide (show ∀ k, k < W → ∀ j c, (colT F W Hh k Hh)[j]? = some c → w2.cell? ⟨g2, k * Hh + j, none⟩ = some (.int .u8 (c.toNat : Int)) from fun k hk j c hc => by
    have h1 := turnT_get F W Hh W k j c hk hc
    have h2 := (List.getElem?_eq_some_iff.1 h1).1
    have h3 := (O.cellAt (k * Hh + j) (by omega)).trans (show (bytesV (turnT F W Hh W))[k * Hh + j]? = some (.int .u8 (c.toNat : Int)) from by simp [bytesV, h1])
    exact h3)
  generalize (turnT F W Hh W).length = m at hcap HL O ⊢
  have HX := hide (textT_rows F W Hh w0)
  clear O hb2 q1
  go_wp2_with fail
  refine (boText_any (fun x => colT F W Hh x Hh) Hh W m g2 cap2 ⟨h0, h7⟩ ⟨w0, w7⟩ HL.out hcap (fun k _ => colT_len F W Hh k Hh) _ hlt HC.out).mono ?_
  rintro e w3 ⟨rfl, hb3⟩
  have q3 := below_after q2 hb3 q2.size
  clear hb3
  go_wp2
  go_returns
  exact ⟨by rw [HE.out, ← HX.out]; rfl, q3⟩
set_option maxHeartbeats 400000 in
theorem specTB_no (s : ByteArray) (w : World) (hs : s.size ≤ 1048576) (h : isBd s.data.toList = false) : Calls Tryd.prog 8 #[.string s] w fun e w' => e = .returned (.tuple #[.string (tbS s.data.toList), .bool false]) ∧ Below w.heap.size w w' := by
  have H := hide h
  clear h
  have HE := hide (show tbS s.data.toList = ⟨#[]⟩ from by unfold tbS; rw [H.out]; rfl)
  go_enter Tryd.func8, Tryd.ntmps8
  go_wp2_with fail
  refine (boRead_no s _ hs H.out).mono ?_
  rintro e w1 ⟨rfl, hb1⟩
  have q1 : Below w.heap.size w w1 := below_after (by go_grown) hb1 (by simp)
  clear hb1
  go_wp2
  go_returns
  exact ⟨by rw [HE.out]; rfl, q1.alloc q1.size _⟩
end Go.Proofs.YtnpnhnkpnhcebaaDoor
