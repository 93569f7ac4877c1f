/- The program's landingsOnSix, and small functions of landings. Condition: at most 1048576 bytes. -/
import Derived.Test.YtbfclnigjijkbaaNetF
import Derived.Test.YtbfclnigjijkbaaNetL
import Derived.Test.YtbfclnigjijkbaaBuf
namespace Go.Proofs.Ytbfclnigjijkbaa
set_option maxRecDepth 100000
set_option linter.all false
open Go.RowKit

theorem below_grown {B : Nat} {a b c : World} {g : Nat} (h : Below B a b) (k : b.grownBy c (some g)) (hB : B ≤ b.heap.size) (hg : B ≤ g) : Below B a c := h.grown k hB (fun j e => by rw [← Option.some.inj e]; exact hg)
/-- What landingsOnSix hands back. -/
def SixPost (l : List UInt8) (w : World) (e : Ending) (w' : World) : Prop :=
  (sixB l = true ∧ ∃ g' cap', e = .returned (.tuple #[.slice (some ⟨g', 0, none⟩) 6 cap', .bool true]) ∧ w.heap.size ≤ g' ∧ LandsAt w' g' (lands l) ∧ Below w.heap.size w w') ∨
  (sixB l = false ∧ ∃ v, e = .returned (.tuple #[v, .bool false]) ∧ Below w.heap.size w w')
theorem six_of {l : List UInt8} (h1 : cntD l = 6) (h2 : filledB l = true) (h3 : (lgs l).length = 6) : sixB l = true := by unfold sixB; rw [h1, h2, h3]; rfl
theorem six_no1 {l : List UInt8} (h : ¬ cntD l = 6) : sixB l = false := by unfold sixB; rw [decide_eq_false h]; rfl
theorem six_no2 {l : List UInt8} (h : filledB l = false) : sixB l = false := by unfold sixB; rw [h]; simp
theorem six_no3 {l : List UInt8} (h : ¬ (lgs l).length = 6) : sixB l = false := by unfold sixB; rw [decide_eq_false h]; simp
set_option maxHeartbeats 3200000 in
theorem landingsOnSix_any (s : ByteArray) (w : World) (hs : s.size ≤ 1048576) : Calls Try.prog 24 #[.string s] w (SixPost s.data.toList w) := by
  obtain ⟨l, hl⟩ : ∃ l, l = s.data.toList := ⟨_, rfl⟩
  have hls : l.length ≤ 1048576 := by rw [hl]; simpa using hs
  obtain ⟨cap, W1, hcv, hcap, B1, q1, hz⟩ := bytes_new s w
  have hcut := cutG_any s.data.toList w.heap.size s.size cap (by simp) hs hcap W1 B1
  have hcn := fun wx => countLabels_any s wx hs
  rw [← hl] at hcut hcn B1 ⊢
  obtain ⟨H, hH⟩ : ∃ H, H = (splitP l).length := ⟨_, rfl⟩
  have haf := fun h cap wx (hR : RowsIn wx h w.heap.size l) => areFilled_any l h w.heap.size cap wx hls hR
  rw [← hH] at hcut
  simp only [← hH] at haf
  have HCUT := hide hcut
  have HB1 := hide B1
  have HH := hide hH
  have HQ1 := hide q1
  clear hcut B1 q1 hl hs hz
  by_cases hc : cntD l = 6
  · have hcn' : ∀ wx, Calls Try.prog 34 #[.string s] wx fun e w' => e = .returned (.int .i64 6) ∧ wx = w' := fun wx => by
      have := hcn wx
      rw [hc] at this
      exact this
    have HCN := hide hcn'
    clear hcn hcn'
    cases hf : filledB l
    · simp only [hf] at haf
      have HAF := hide haf
      have HY := hide (six_no2 hf)
      clear haf hf hc hH
      go_enter Try.func24, Try.ntmps24
      go_wp2_with (first | (go_at_call 33; (with_reducible refine HCUT.out.mono ?_); rintro e w2 ⟨h, cap2, rfl, O2, hb2⟩; have HR2 := hide (rowsIn_new (bufAt_to hb2 HB1.out rfl) HH.out O2); have HQ2 := hide (below_after HQ1.out hb2 HQ1.out.size); clear O2 hb2) | (go_at_call 34; (with_reducible refine (HCN.out _).mono ?_); rintro e w3 ⟨rfl, rfl⟩) | (go_at_call 35; (with_reducible refine (HAF.out h cap2 w2 HR2.out).mono ?_); rintro e w4 ⟨rfl, hb4⟩; have HR4 := hide (rowsIn_to hb4 HR2.out rfl); have HQ4 := hide (below_after HQ2.out hb4 HQ2.out.size); clear hb4))
      go_returns
      exact .inr ⟨HY.out, _, rfl, HQ4.out⟩
    · simp only [hf] at haf
      have HAF := hide haf
      have hF := filled_of hf hc
      have hro : ∀ h cap wx (_ : RowsIn wx h w.heap.size l), Calls Try.prog 36 #[.slice (some ⟨h, 0, none⟩) (splitP l).length cap] wx fun e w' => ∃ g' cap' Qs, e = .returned (.slice (some ⟨g', 0, none⟩) (lgs l).length cap') ∧ wx.heap.size ≤ g' ∧ LandsAt w' g' Qs ∧ Qs.Perm ((lgs l).map (ldOf l)) ∧ SortedL Qs ∧ wx.grownBy w' (some w.heap.size) := fun h cap wx (hR : RowsIn wx h w.heap.size l) => rolledOver_any l _ _ h w.heap.size cap hF wx hR
      rw [← hH] at hro
      have HF := hide hF
      by_cases h6 : (lgs l).length = 6
      · simp only [h6] at hro
        have HRO := hide hro
        have HY := hide (six_of hc hf h6)
        have H6 := hide h6
        clear haf hf hc hH hro hF h6
        go_enter Try.func24, Try.ntmps24
        go_wp2_with (first | (go_at_call 33; (with_reducible refine HCUT.out.mono ?_); rintro e w2 ⟨h, cap2, rfl, O2, hb2⟩; have HR2 := hide (rowsIn_new (bufAt_to hb2 HB1.out rfl) HH.out O2); have HQ2 := hide (below_after HQ1.out hb2 HQ1.out.size); clear O2 hb2) | (go_at_call 34; (with_reducible refine (HCN.out _).mono ?_); rintro e w3 ⟨rfl, rfl⟩) | (go_at_call 35; (with_reducible refine (HAF.out h cap2 w2 HR2.out).mono ?_); rintro e w4 ⟨rfl, hb4⟩; have HR4 := hide (rowsIn_to hb4 HR2.out rfl); have HQ4 := hide (below_after HQ2.out hb4 HQ2.out.size); clear hb4) | (go_at_call 36; (with_reducible refine (HRO.out h cap2 w4 HR4.out).mono ?_); rintro e w5 ⟨g5, cap5, Qs, rfl, hg5, P1, P2, P3, G5⟩; have HP1 := hide P1; have HP2 := hide P2; have HP3 := hide P3; have HG5 := hide G5; clear P1 P2 P3 G5))
        go_returns
        have e := sorted_lands HF.out H6.out HP2.out HP3.out
        refine .inl ⟨HY.out, g5, cap5, rfl, Nat.le_trans HQ4.out.size hg5, ?_, below_grown HQ4.out HG5.out HQ4.out.size (Nat.le_refl _)⟩
        rw [← e]
        exact HP1.out
      · have HY := hide (six_no3 h6)
        have e6 : (((lgs l).length : Int) == 6) = false := beq_eq_false_iff_ne.2 (by omega)
        generalize (lgs l).length = m6 at *
        have HRO := hide hro
        clear haf hf hc hH hro hF h6
        go_enter Try.func24, Try.ntmps24
        go_wp2_with (first | (go_at_call 33; (with_reducible refine HCUT.out.mono ?_); rintro e w2 ⟨h, cap2, rfl, O2, hb2⟩; have HR2 := hide (rowsIn_new (bufAt_to hb2 HB1.out rfl) HH.out O2); have HQ2 := hide (below_after HQ1.out hb2 HQ1.out.size); clear O2 hb2) | (go_at_call 34; (with_reducible refine (HCN.out _).mono ?_); rintro e w3 ⟨rfl, rfl⟩) | (go_at_call 35; (with_reducible refine (HAF.out h cap2 w2 HR2.out).mono ?_); rintro e w4 ⟨rfl, hb4⟩; have HR4 := hide (rowsIn_to hb4 HR2.out rfl); have HQ4 := hide (below_after HQ2.out hb4 HQ2.out.size); clear hb4) | (go_at_call 36; (with_reducible refine (HRO.out h cap2 w4 HR4.out).mono ?_); rintro e w5 ⟨g5, cap5, Qs, rfl, hg5, P1, P2, P3, G5⟩; have HP1 := hide P1; have HP2 := hide P2; have HP3 := hide P3; have HG5 := hide G5; clear P1 P2 P3 G5))
        go_returns
        exact .inr ⟨HY.out, _, rfl, below_grown HQ4.out HG5.out HQ4.out.size (Nat.le_refl _)⟩
  · have HCN := hide hcn
    have HY := hide (six_no1 hc)
    have hl20 : cntD l ≤ 4294967296 := by
      unfold cntD
      exact Nat.le_trans List.countP_le_length (by omega)
    have e1 : (((cntD l : Nat) : Int) != 6) = true := bne_iff_ne.2 (by omega)
    generalize cntD l = m at *
    clear haf hcn hc hH
    go_enter Try.func24, Try.ntmps24
    go_wp2_with (first | (go_at_call 33; (with_reducible refine HCUT.out.mono ?_); rintro e w2 ⟨h, cap2, rfl, O2, hb2⟩; have HR2 := hide (rowsIn_new (bufAt_to hb2 HB1.out rfl) HH.out O2); have HQ2 := hide (below_after HQ1.out hb2 HQ1.out.size); clear O2 hb2) | (go_at_call 34; (with_reducible refine (HCN.out _).mono ?_); rintro e w3 ⟨rfl, rfl⟩))
    go_returns
    exact .inr ⟨HY.out, _, rfl, HQ2.out⟩
theorem isSix_any (s : ByteArray) (w : World) (hs : s.size ≤ 1048576) : Calls Try.prog 9 #[.string s] w fun e w' => e = .returned (.bool (sixB s.data.toList)) ∧ Below w.heap.size w w' := by
  cases h : sixB s.data.toList
  · have H := hide h
    clear h
    go_enter Try.func9, Try.ntmps9
    go_wp2_with (go_at_call 24; (refine (landingsOnSix_any s _ hs).mono ?_); rintro e w2 (⟨hy, -⟩ | ⟨-, v, rfl, hb⟩); (rw [H.out] at hy; cases hy))
    go_returns
    exact ⟨rfl, hb⟩
  · have H := hide h
    clear h
    go_enter Try.func9, Try.ntmps9
    go_wp2_with (go_at_call 24; (refine (landingsOnSix_any s _ hs).mono ?_); rintro e w2 (⟨-, g', cap', rfl, hg, hL, hb⟩ | ⟨hy, -⟩); rotate_left; (rw [H.out] at hy; cases hy))
    go_returns
    exact ⟨rfl, hb⟩
/-- The face that lies on the digit. -/
theorem place_any (q : Ld) (w : World) : Calls Try.prog 28 #[Ld.v q] w fun e w' => e = .returned (.int .i64 q.s.d.b) ∧ Below w.heap.size w w' := by
  go_enter Try.func28, Try.ntmps28
  go_wp2
  go_returns
  exact ⟨rfl, by go_grown⟩
end Go.Proofs.Ytbfclnigjijkbaa
