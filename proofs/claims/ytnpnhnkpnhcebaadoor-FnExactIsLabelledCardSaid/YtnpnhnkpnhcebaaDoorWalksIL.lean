/- FnExactIsLabelled's walk. -/
import Derived.Test.YtnpnhnkpnhcebaaDoorPrRead
import Derived.Test.YtnpnhnkpnhcebaaDoorWalksP
namespace Go.Proofs.YtnpnhnkpnhcebaaDoor
set_option maxRecDepth 100000
set_option linter.all false
open Go.RowKit

theorem specIsLab_any (s : ByteArray) (w : World) : Calls Tryd.prog 10 #[.string s] w fun e w' => e = .returned (.bool (isLab s.data.toList)) ∧ Below w.heap.size w w' := by
  cases h : isLab s.data.toList
  · have H := hide h
    clear h
    go_enter Tryd.func10, Tryd.ntmps10
    go_wp2_with fail
    refine (prRead_no s _ H.out).mono ?_
    rintro e w1 ⟨v, rfl, hb⟩
    go_wp2
    go_returns
    exact ⟨rfl, hb.alloc hb.size _⟩
  · have H := hide h
    clear h
    go_enter Tryd.func10, Tryd.ntmps10
    go_wp2_with fail
    refine (prRead_yes s _ H.out).mono ?_
    rintro e w1 ⟨W, H, n, g, cap, g2, cap2, _, rfl, _, _, _, hb⟩
    go_wp2
    go_returns
    exact ⟨rfl, hb.alloc hb.size _⟩
theorem floor_text (s : ByteArray) (hs : s.size ≤ 1048576) : ∃ t : ByteArray, t = ⟨(unlab s.data.toList).toArray⟩ ∧ t.data.toList = unlab s.data.toList ∧ t.size ≤ 1048576 := by
  refine ⟨_, rfl, by simp, ?_⟩
  show (unlab s.data.toList).toArray.size ≤ _
  rw [List.size_toArray, unlab_len]
  simpa using hs
theorem implIsLab_any (s : ByteArray) (w : World) (hs : s.size ≤ 1048576) (hg : Glob w) : Calls Tryd.prog 11 #[.string s] w fun e w' => e = .returned (.bool (isLab s.data.toList)) ∧ Below w.heap.size w w' := by
  have HG := hide hg
  clear hg
  obtain ⟨t, ht, hl, hz⟩ := floor_text s hs
  have HF := hide (floorText_any s)
  rw [← ht] at HF
  have HE := hide (show isLab s.data.toList = isBd t.data.toList from by rw [hl]; rfl)
  clear ht hl
  rw [HE.out]
  clear HE
  have HB := hide (implIsBoard_any t)
  generalize isBd t.data.toList = x at HB ⊢
  go_enter Tryd.func11, Tryd.ntmps11
  go_wp2_with fail
  refine (HF.out _ hs).mono ?_
  rintro e w1 ⟨rfl, hb⟩
  have hg1 := hide (glob_to hb HG.out rfl)
  go_wp2_with fail
  refine (HB.out _ hz hg1.out).mono ?_
  rintro e w2 ⟨rfl, hb2⟩
  go_wp2
  go_returns
  exact ⟨rfl, below_after hb hb2 hb.size⟩

set_option maxHeartbeats 400000 in
theorem walk_IsLabelled (v : ByteArray) (hv : v.size ≤ maxLen) (w : World) (hg : Glob w) : Calls Tryd.prog 4 #[.string v] w fun e w' => e = .returned (.bool true) ∧ Below w.heap.size w w' := by
  have HGL := hide hg
  clear hg
  by_cases h1 : v.size ≤ 1048576
  · have HS := hide h1
    go_enter Tryd.func4, Tryd.ntmps4
    go_wp2_with fail
    refine (specIsLab_any v _).mono ?_
    rintro e w1 ⟨rfl, hb1⟩
    generalize hx : isLab v.data.toList = x
    have HX := hide hx
    clear hx
    have hg1 := hide (glob_to hb1 HGL.out rfl)
    go_wp2_with fail
    refine (implIsLab_any v _ HS.out hg1.out).mono ?_
    rintro e w2 ⟨rfl, hb2⟩
    rw [HX.out]
    have e1 : (x != x) = false := by simp
    go_wp2
    go_returns
    exact ⟨rfl, below_after hb1 hb2 hb1.size⟩
  · go_enter Tryd.func4, Tryd.ntmps4
    go_wp2
    go_returns
    exact ⟨rfl, Below.refl _ _⟩
end Go.Proofs.YtnpnhnkpnhcebaaDoor
