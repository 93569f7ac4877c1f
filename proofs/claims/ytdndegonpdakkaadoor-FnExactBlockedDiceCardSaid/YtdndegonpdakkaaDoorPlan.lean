/- Plans: which texts are plans, undone plans; the contracts of IsPlan and BackPlan in the program and in the model, and the walks of their laws. -/
import Derived.Test.YtdndegonpdakkaaDoorWalksA
import Derived.Test.YtdndegonpdakkaaDoorWords
import Derived.Test.YtdndegonpdakkaaDoorNext
import Derived.Test.YtdndegonpdakkaaDoorWalksD

namespace Go.Proofs.YtdndegonpdakkaaDoor
set_option maxRecDepth 100000
set_option linter.all false
open Go.RowKit

/-- A sign that tells an index. -/
def ixOk (c : UInt8) : Bool := decide (48 ≤ c.toNat ∧ c.toNat ≤ 50)
/-- The j-th move of a text is one. -/
def plAt (l : List UInt8) (j : Nat) : Bool := ixOk (l.getD (2 * j) 0) && decide (0 ≤ dirIx (l.getD (2 * j + 1) 0).toNat)
def plK (l : List UInt8) (k : Nat) : Bool := (List.range k).all (plAt l)
theorem plK_succ (l : List UInt8) (k : Nat) : plK l (k + 1) = (plK l k && plAt l k) := by simp [plK, List.range_succ]
theorem plK_no {l : List UInt8} {j k : Nat} (h : plAt l j = false) (hj : j < k) : plK l k = false := by
  unfold plK
  rw [List.all_eq_false]
  exact ⟨j, by simpa using hj, by simp [h]⟩
theorem plK_at {l : List UInt8} {j k : Nat} (h : plK l k = true) (hj : j < k) : plAt l j = true := by
  unfold plK at h
  rw [List.all_eq_true] at h
  exact h j (by simpa using hj)
/-- A text is a plan. -/
def isPl (l : List UInt8) : Bool := decide (l.length % 2 = 0) && decide (l.length ≤ 120) && plK l (l.length / 2)
theorem isPl_odd {l : List UInt8} (h : ¬ l.length % 2 = 0) : isPl l = false := by simp [isPl, h]
theorem isPl_long {l : List UInt8} (h : ¬ l.length ≤ 120) : isPl l = false := by simp [isPl, h]
theorem isPl_all {l : List UInt8} {m : Nat} (hm : l.length = 2 * m) (h : l.length ≤ 120) : isPl l = plK l m := by
  unfold isPl
  rw [show l.length / 2 = m by omega, show l.length % 2 = 0 by omega]
  simp [h]

theorem ext_one (s : ByteArray) (p : Nat) (h : p < s.size) : (s.extract p (p + 1)).data.toList = [s[p]] := by
  rw [Lib.extract_data, show p + 1 - p = 1 from by omega, List.drop_eq_getElem_cons (by simpa using h)]
  rfl
theorem ext_size (s : ByteArray) (p : Nat) (h : p < s.size) : (s.extract p (p + 1)).size = 1 := by
  have := congrArg List.length (ext_one s p h)
  rw [Array.length_toList] at this
  exact this
theorem getD_at (s : ByteArray) (p : Nat) (h : p < s.size) : s.data.toList.getD p 0 = s[p] := by
  rw [List.getD_eq_getElem?_getD, List.getElem?_eq_getElem (by simpa using h)]
  rfl
theorem index_ix (c : UInt8) : decide (0 ≤ Lib.indexByte [48, 49, 50] c) = ixOk c := by
  have : ∀ n : Fin 256, decide (0 ≤ Lib.indexByte [48, 49, 50] (UInt8.ofNat n.val)) = ixOk (UInt8.ofNat n.val) := by decide +kernel
  have h := this ⟨c.toNat, c.toNat_lt⟩
  simpa using h
theorem hasOnly_ix (s : ByteArray) (p : Nat) (h : p < s.size) (hs : s.size ≤ maxLen) (w : World) : Calls Tryd.prog 77 #[.string (s.extract p (p + 1)), .string ⟨#[48, 49, 50]⟩] w fun e w' => e = .returned (.bool (ixOk s[p])) ∧ w = w' := by
  have e : onlyB [48, 49, 50] (s.extract p (p + 1)).data.toList = ixOk s[p] := by
    rw [ext_one s p h]
    unfold onlyB
    simp only [List.all_cons, List.all_nil, Bool.and_true]
    exact index_ix _
  rw [← e]
  exact hasOnly_any _ ⟨#[48, 49, 50]⟩ w (by rw [ext_size s p h]; unfold maxLen; omega)
theorem isDir_at (s : ByteArray) (p : Nat) (h : p < s.size) (w : World) : Calls Tryd.prog 52 #[.string (s.extract p (p + 1))] w fun e w' => e = .returned (.bool (decide (0 ≤ dirIx s[p].toNat))) ∧ w = w' := by
  rw [← dirS_one s p h]
  exact isDirection_any _ w (by rw [ext_size s p h]; unfold maxLen; omega)
theorem diDir_at (s : ByteArray) (p : Nat) (h : p < s.size) (w : World) : Calls Tryd.prog 51 #[.string (s.extract p (p + 1))] w fun e w' => e = .returned (.int .i64 (dirIx s[p].toNat)) ∧ w = w' := by
  rw [← dirS_one s p h]
  exact diDir_any _ w

set_option maxHeartbeats 800000 in
theorem isPlan_any (s : ByteArray) (w : World) (hs : s.size ≤ maxLen) : Calls Tryd.prog 54 #[.string s] w fun e w' => e = .returned (.bool (isPl s.data.toList)) ∧ w = w' := by
  have hs' := hs
  unfold maxLen at hs
  by_cases h2 : s.size % 2 = 0
  · obtain ⟨m, hm⟩ : ∃ m, s.size = 2 * m := ⟨s.size / 2, by omega⟩
    have e1 : (((s.size : Int) % 2) != 0) = false := by simp; omega
    by_cases h3 : s.size ≤ 120
    · have HI := hide (isPl_all (l := s.data.toList) (m := m) (by simpa using hm) (by simpa using h3))
      have hm1 := hide hm
      have hmle : 2 * m ≤ s.size := by omega
      have hmge : s.size ≤ 2 * m := by omega
      clear hm h2
      go_enter Tryd.func54, Tryd.ntmps54
      go_wp2
      clear e1
      go_loop [3] (fun i => ∃ k p : Nat, k ≤ m ∧ p ≤ 2 * k ∧ 2 * k ≤ p ∧ i = .int .i64 (p : Int) ∧ plK s.data.toList k = true) (fun i => s.size - (intOf i).toNat)
      case atStart => exact ⟨0, 0, Nat.zero_le _, Nat.le_refl _, Nat.le_refl _, rfl, rfl⟩
      case round =>
        obtain ⟨k, p, hk, hp, hq, rfl, hd⟩ := hrel
        have HD := hide hd
        clear hd
        by_cases hlt : p < s.size
        · have hp1 : p + 1 < s.size := by omega
          have hA := hide (show plAt s.data.toList k = (ixOk s[p] && decide (0 ≤ dirIx s[p + 1].toNat)) from by
            unfold plAt
            rw [show 2 * k = p by omega, getD_at s p hlt, getD_at s (p + 1) hp1])
          have C1 := hide (fun w => hasOnly_ix s p hlt hs' w)
          have C2 := hide (fun w => isDir_at s (p + 1) hp1 w)
          cases h5 : ixOk s[p]
          · have H5 := hide h5
            clear h5
            go_wp2_with (go_at_call 77; refine (C1.out _).mono ?_; rintro e w' ⟨rfl, rfl⟩; rw [H5.out])
            go_ret
            exact ⟨ret_bool (by rw [HI.out, plK_no (j := k) (by rw [hA.out, H5.out]; rfl) (by omega)]), rfl⟩
          · have H5 := hide h5
            clear h5
            by_cases h6 : 0 ≤ dirIx s[p + 1].toNat
            · have H6 := hide (decide_eq_true h6)
              clear h6
              go_wp2_with (first | (go_at_call 77; refine (C1.out _).mono ?_; rintro e w' ⟨rfl, rfl⟩; rw [H5.out]) | (go_at_call 52; refine (C2.out _).mono ?_; rintro e w' ⟨rfl, rfl⟩; rw [H6.out]))
              go_round
              case rel => exact ⟨k + 1, p + 2, by omega, by omega, by omega, by go_num, by rw [plK_succ, HD.out, hA.out, H5.out, H6.out]; rfl⟩
              case measure => simp [intOf]; omega
            · have H6 := hide (decide_eq_false h6)
              clear h6
              go_wp2_with (first | (go_at_call 77; refine (C1.out _).mono ?_; rintro e w' ⟨rfl, rfl⟩; rw [H5.out]) | (go_at_call 52; refine (C2.out _).mono ?_; rintro e w' ⟨rfl, rfl⟩; rw [H6.out]))
              go_ret
              exact ⟨ret_bool (by rw [HI.out, plK_no (j := k) (by rw [hA.out, H5.out, H6.out]; rfl) (by omega)]), rfl⟩
        · obtain rfl : k = m := by omega
          go_wp2
          go_ret
          exact ⟨ret_bool (by rw [HI.out, HD.out]), rfl⟩
    · have HI := hide (isPl_long (l := s.data.toList) (by simpa using h3))
      clear hm h2
      go_enter Tryd.func54, Tryd.ntmps54
      go_wp2
      go_ret
      exact ⟨ret_bool (by rw [HI.out]), rfl⟩
  · have HI := hide (isPl_odd (l := s.data.toList) (by simpa using h2))
    have e1 : (((s.size : Int) % 2) != 0) = true := by simp; omega
    clear h2
    go_enter Tryd.func54, Tryd.ntmps54
    go_wp2
    go_ret
    exact ⟨ret_bool (by rw [HI.out]), rfl⟩

set_option maxHeartbeats 800000 in
theorem myPlan_any (s : ByteArray) (w : World) (hs : s.size ≤ maxLen) : Calls Tryd.prog 53 #[.string s] w fun e w' => e = .returned (.bool (isPl s.data.toList)) ∧ w = w' := by
  have hs' := hs
  unfold maxLen at hs
  by_cases h2 : s.size % 2 = 0
  · obtain ⟨m, hm⟩ : ∃ m, s.size = 2 * m := ⟨s.size / 2, by omega⟩
    have e1 : (((s.size : Int) % 2) != 0) = false := by simp; omega
    by_cases h3 : s.size ≤ 120
    · have HI := hide (isPl_all (l := s.data.toList) (m := m) (by simpa using hm) (by simpa using h3))
      have hmle : 2 * m ≤ s.size := by omega
      have hmge : s.size ≤ 2 * m := by omega
      clear hm h2
      go_enter Tryd.func53, Tryd.ntmps53
      go_wp2
      clear e1
      go_loop [3] (fun i => ∃ k p : Nat, k ≤ m ∧ p ≤ 2 * k ∧ 2 * k ≤ p ∧ i = .int .i64 (p : Int) ∧ plK s.data.toList k = true) (fun i => s.size - (intOf i).toNat)
      case atStart => exact ⟨0, 0, Nat.zero_le _, Nat.le_refl _, Nat.le_refl _, rfl, rfl⟩
      case round =>
        obtain ⟨k, p, hk, hp, hq, rfl, hd⟩ := hrel
        have HD := hide hd
        clear hd
        by_cases hlt : p < s.size
        · have hp1 : p + 1 < s.size := by omega
          have hA := hide (show plAt s.data.toList k = (ixOk s[p] && decide (0 ≤ dirIx s[p + 1].toNat)) from by
            unfold plAt
            rw [show 2 * k = p by omega, getD_at s p hlt, getD_at s (p + 1) hp1])
          have C2 := hide (fun w => diDir_at s (p + 1) hp1 w)
          by_cases h5 : 48 ≤ (s[p].toNat : Int)
          · by_cases h5' : (s[p].toNat : Int) ≤ 50
            · have H5 := hide (show ixOk s[p] = true from decide_eq_true (by omega))
              have hx := dirIx_hi s[p + 1].toNat
              generalize hxx : dirIx s[p + 1].toNat = x at C2 hA hx
              clear hxx
              by_cases h6 : 0 ≤ x
              · have h6' : ¬ x < 0 := by omega
                go_wp2_with (go_at_call 51; refine (C2.out _).mono ?_; rintro e w' ⟨rfl, rfl⟩)
                go_round
                case rel => exact ⟨k + 1, p + 2, by omega, by omega, by omega, by go_num, by rw [plK_succ, HD.out, hA.out, H5.out, decide_eq_true h6]; rfl⟩
                case measure => simp [intOf]; omega
              · have h6' : x < 0 := by omega
                go_wp2_with (go_at_call 51; refine (C2.out _).mono ?_; rintro e w' ⟨rfl, rfl⟩)
                go_ret
                exact ⟨ret_bool (by rw [HI.out, plK_no (j := k) (by rw [hA.out, H5.out, decide_eq_false (show ¬ 0 ≤ x by omega)]; rfl) (by omega)]), rfl⟩
            · have H5 := hide (show ixOk s[p] = false from decide_eq_false (by omega))
              go_wp2
              go_ret
              exact ⟨ret_bool (by rw [HI.out, plK_no (j := k) (by rw [hA.out, H5.out]; rfl) (by omega)]), rfl⟩
          · have H5 := hide (show ixOk s[p] = false from decide_eq_false (by omega))
            go_wp2
            go_ret
            exact ⟨ret_bool (by rw [HI.out, plK_no (j := k) (by rw [hA.out, H5.out]; rfl) (by omega)]), rfl⟩
        · obtain rfl : k = m := by omega
          go_wp2
          go_ret
          exact ⟨ret_bool (by rw [HI.out, HD.out]), rfl⟩
    · have HI := hide (isPl_long (l := s.data.toList) (by simpa using h3))
      clear hm h2
      go_enter Tryd.func53, Tryd.ntmps53
      go_wp2
      go_ret
      exact ⟨ret_bool (by rw [HI.out]), rfl⟩
  · have HI := hide (isPl_odd (l := s.data.toList) (by simpa using h2))
    have e1 : (((s.size : Int) % 2) != 0) = true := by simp; omega
    clear h2
    go_enter Tryd.func53, Tryd.ntmps53
    go_wp2
    go_ret
    exact ⟨ret_bool (by rw [HI.out]), rfl⟩
end Go.Proofs.YtdndegonpdakkaaDoor
