/- The contracts of the program's reading of grounds: groundOf; IsGround's law. Condition: at most 1048576 bytes. -/
import Derived.Test.YtoojoghgbmpbpaaDoorBxRead
import Derived.Test.YtoojoghgbmpbpaaDoorBox
namespace Go.Proofs.YtoojoghgbmpbpaaDoor
set_option maxRecDepth 100000
set_option linter.all false
open Go.RowKit

theorem signs_gnd : Signs ⟨#[46, 35, 45, 111]⟩ okG := by
  have : ∀ n : Fin 256, decide (0 ≤ Lib.indexByte [46, 35, 45, 111] (UInt8.ofNat n.val)) = okG (UInt8.ofNat n.val) := by decide +kernel
  intro c
  have h := this ⟨c.toNat, c.toNat_lt⟩
  simpa using h
theorem isGd_W (l : List UInt8) : isGd l = (isW okG l && decide (l.count 111 ≤ 1)) := by rw [isW_gd]; rfl
set_option maxHeartbeats 800000 in
theorem groundOf_yes (s : ByteArray) (w : World) (hs : s.size ≤ 1048576) (hg : Glob w) (h : isGd s.data.toList = true) : Calls Tryd.prog 36 #[.string s] w fun e w' => e = .returned (.tuple #[.slice (some ⟨w.heap.size, 0, none⟩) (rowsB s).length (rowsB s).length, .bool true]) ∧ RowsAt w' w.heap.size (rowsB s) ∧ Below w.heap.size w w' := by
  have HC := hide (Tryd.strings_Count_one s 111 w)
  have HS := hide (rowsWith_any s ⟨#[46, 35, 45, 111]⟩ okG signs_gnd w hs hg)
  rw [isGd_W, Bool.and_eq_true, decide_eq_true_eq] at h
  have HW := hide h.1
  have hc : Lib.countByte s.data.toList 111 ≤ 1 := h.2
  generalize Lib.countByte s.data.toList 111 = k at HC hc
  have hk : (k : Int) ≤ 1 := by omega
  clear h hg
  go_enter Tryd.func36, Tryd.ntmps36
  go_wp2_with fail
  refine HC.out.mono ?_
  rintro e w1 ⟨rfl, rfl⟩
  go_wp2_with fail
  refine HS.out.mono ?_
  rintro e w1 (⟨_, rfl, ha, hb⟩ | ⟨hn, _⟩)
  · go_wp2
    go_returns
    exact ⟨rfl, ha, hb⟩
  · rw [HW.out] at hn
    cases hn
set_option maxHeartbeats 800000 in
theorem groundOf_no (s : ByteArray) (w : World) (hs : s.size ≤ 1048576) (hg : Glob w) (h : isGd s.data.toList = false) : Calls Tryd.prog 36 #[.string s] w fun e w' => e = .returned (.tuple #[.slice none 0 0, .bool false]) ∧ Below w.heap.size w w' := by
  have HC := hide (Tryd.strings_Count_one s 111 w)
  have HS := hide (rowsWith_any s ⟨#[46, 35, 45, 111]⟩ okG signs_gnd w hs hg)
  have e0 : isGd s.data.toList = (isW okG s.data.toList && decide (Lib.countByte s.data.toList 111 ≤ 1)) := isGd_W _
  rw [h] at e0
  generalize Lib.countByte s.data.toList 111 = k at HC e0
  by_cases hk : k ≤ 1
  · have hk1 : (k : Int) ≤ 1 := by omega
    rw [decide_eq_true hk, Bool.and_true] at e0
    have HW := hide e0.symm
    clear h hg e0 hk
    go_enter Tryd.func36, Tryd.ntmps36
    go_wp2_with fail
    refine HC.out.mono ?_
    rintro e w1 ⟨rfl, rfl⟩
    go_wp2_with fail
    refine HS.out.mono ?_
    rintro e w1 (⟨hn, _⟩ | ⟨_, rfl, hb⟩)
    · rw [HW.out] at hn
      cases hn
    · go_wp2
      go_returns
      exact ⟨rfl, hb⟩
  · have hk1 : (1 : Int) < (k : Int) := by omega
    clear h hg e0 hk
    go_enter Tryd.func36, Tryd.ntmps36
    go_wp2_with fail
    refine HC.out.mono ?_
    rintro e w1 ⟨rfl, rfl⟩
    go_wp2
    go_returns
    exact ⟨rfl, Below.refl _ _⟩

/-! ### IsGround -/
theorem specIsGround_any (s : ByteArray) (w : World) (hs : s.size ≤ 1048576) : Calls Tryd.prog 13 #[.string s] w fun e w' => e = .returned (.bool (isGd s.data.toList)) ∧ Below w.heap.size w w' := by
  cases h : isGd s.data.toList
  · have H := hide h
    clear h
    go_enter Tryd.func13, Tryd.ntmps13
    go_wp2_with fail
    refine (bxRead_no s _ hs H.out).mono ?_
    rintro e w1 ⟨rfl, hb⟩
    go_wp2
    go_returns
    exact ⟨rfl, hb.alloc hb.size _⟩
  · have H := hide h
    clear h
    go_enter Tryd.func13, Tryd.ntmps13
    go_wp2_with fail
    refine (bxRead_yes s _ hs H.out).mono ?_
    rintro e w1 ⟨W, Hh, n, g, cap, hG, rfl, _, hb⟩
    clear hG
    go_wp2
    go_returns
    exact ⟨rfl, hb.alloc hb.size _⟩
theorem implIsGround_any (s : ByteArray) (w : World) (hs : s.size ≤ 1048576) (hg : Glob w) : Calls Tryd.prog 14 #[.string s] w fun e w' => e = .returned (.bool (isGd s.data.toList)) ∧ Below w.heap.size w w' := by
  have HG := hide hg
  clear hg
  cases h : isGd s.data.toList
  · have H := hide h
    clear h
    go_enter Tryd.func14, Tryd.ntmps14
    go_wp2_with fail
    refine (groundOf_no s _ hs HG.out H.out).mono ?_
    rintro e w1 ⟨rfl, hb⟩
    go_wp2
    go_returns
    exact ⟨rfl, hb⟩
  · have H := hide h
    clear h
    go_enter Tryd.func14, Tryd.ntmps14
    go_wp2_with fail
    refine (groundOf_yes s _ hs HG.out H.out).mono ?_
    rintro e w1 ⟨rfl, _, hb⟩
    go_wp2
    go_returns
    exact ⟨rfl, hb⟩
set_option maxHeartbeats 800000 in
theorem walk_IsGround (v : ByteArray) (hv : v.size ≤ maxLen) (w : World) (hg : Glob w) : Calls Tryd.prog 3 #[.string v] w fun e w' => e = .returned (.bool true) ∧ Below w.heap.size w w' := by
  have HGL := hide hg
  clear hg
  by_cases h1 : v.size ≤ 1048576
  · have HS := hide h1
    go_enter Tryd.func3, Tryd.ntmps3
    go_wp2_with fail
    refine (specIsGround_any v _ HS.out).mono ?_
    rintro e w1 ⟨rfl, hb1⟩
    generalize hz0 : isGd v.data.toList = z0
    have HZ0 := hide hz0
    clear hz0
    have hg1 := hide (glob_to hb1 HGL.out rfl)
    go_wp2_with fail
    refine (implIsGround_any v _ HS.out hg1.out).mono ?_
    rintro e w2 ⟨rfl, hb2⟩
    rw [HZ0.out]
    have e0 : (z0 != z0) = false := by simp
    go_wp2
    go_returns
    exact ⟨rfl, below_after hb1 hb2 hb1.size⟩
  · go_enter Tryd.func3, Tryd.ntmps3
    go_wp2
    go_returns
    exact ⟨rfl, Below.refl _ _⟩

/-! ### Cells -/
theorem cellB_G (s : ByteArray) (x y : Int) : cellB (rowsB s) x y = cellI (splitP s.data.toList) x y := by
  unfold cellB cellI
  have hlen : (rowsB s).length = (splitP s.data.toList).length := by rw [← rowsB_data, List.length_map]
  by_cases hxy : 0 ≤ x ∧ 0 ≤ y
  · rw [if_pos hxy]
    have hrow := getD_rows s y.toNat
    have hsz : ((rowsB s).getD y.toNat ByteArray.empty).size = ((splitP s.data.toList).getD y.toNat []).length := by
      have := congrArg List.length hrow
      simpa using this
    cases hh : hasB (rowsB s) x y
    · rw [if_neg (by simp)]
      unfold hasB at hh
      rw [decide_eq_false_iff_not] at hh
      by_cases hy : y.toNat < (splitP s.data.toList).length
      · have : ¬ x.toNat < ((splitP s.data.toList).getD y.toNat []).length := by
          intro hx
          apply hh
          refine ⟨hxy.2, by omega, hxy.1, by rw [hsz]; omega⟩
        rw [List.getD_eq_getElem?_getD (l := (splitP s.data.toList).getD y.toNat []), List.getElem?_eq_none (Nat.not_lt.1 this)]
        rfl
      · have : (splitP s.data.toList).getD y.toNat [] = [] := by rw [List.getD_eq_getElem?_getD, List.getElem?_eq_none (Nat.not_lt.1 hy)]; rfl
        rw [this]
        rfl
    · rw [if_pos rfl, hrow]
  · rw [if_neg hxy]
    have : hasB (rowsB s) x y = false := by
      unfold hasB
      rw [decide_eq_false_iff_not]
      intro h
      exact hxy ⟨h.2.2.1, h.1⟩
    rw [this, if_neg (by simp)]
theorem rows_fitG {s : ByteArray} (hs : s.size ≤ 1048576) (h : isGd s.data.toList = true) : (rowsB s).length ≤ 1048576 ∧ ∀ r ∈ rowsB s, r.size ≤ 1048576 := by
  obtain ⟨_, _, _, h1, _, _⟩ := bd_facts (gd_bd h)
  rw [rows_ungl] at h1
  have hlen : (rowsB s).length = (splitP s.data.toList).length := by rw [← rowsB_data, List.length_map]
  exact ⟨by omega, fun r hr => Nat.le_trans (rowsB_fit s r hr) hs⟩
theorem cellAtG_any (s : ByteArray) (g : Nat) (x y : Int) (w : World) (hs : s.size ≤ 1048576) (h : isGd s.data.toList = true) (ha : RowsAt w g (rowsB s)) :
    Calls Tryd.prog 61 #[.slice (some ⟨g, 0, none⟩) (rowsB s).length (rowsB s).length, .int .i64 x, .int .i64 y] w fun e w' => e = .returned (.int .u8 ((cellI (splitP s.data.toList) x y).toNat : Int)) ∧ w = w' := by
  rw [← cellB_G]
  exact cellAt_any (rowsB s) g x y w ha (rows_fitG hs h).1 (rows_fitG hs h).2
end Go.Proofs.YtoojoghgbmpbpaaDoor
