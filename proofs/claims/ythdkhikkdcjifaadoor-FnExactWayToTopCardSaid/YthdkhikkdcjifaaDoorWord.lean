/- Contracts of words: which texts are words, dice rolled along them, in the program and in the model. No condition but that a text is at most maxLen bytes. -/
import Derived.Test.YthdkhikkdcjifaaDoorBase
import Derived.Test.YthdkhikkdcjifaaDoorShelf
import Derived.Lib.Strings
namespace Go.Proofs.YthdkhikkdcjifaaDoor
set_option maxRecDepth 100000
set_option linter.all false
open Go.RowKit

theorem indexByte_dir (c : UInt8) : Lib.indexByte [110, 101, 115, 119] c = dirIx c.toNat := by
  have : ∀ n : Fin 256, Lib.indexByte [110, 101, 115, 119] (UInt8.ofNat n.val) = dirIx (UInt8.ofNat n.val).toNat := by decide +kernel
  have h := this ⟨c.toNat, c.toNat_lt⟩
  simpa using h

theorem indexNesw_any (c : UInt8) (w : World) :
    Calls Tryd.prog 145 #[.string ⟨#[110, 101, 115, 119]⟩, .int .u8 c.toNat] w fun e w' => e = .returned (.int .i64 (dirIx c.toNat)) ∧ w = w' :=
  (Tryd.strings_IndexByte _ _ w).mono fun e w' h => by
    obtain ⟨rfl, rfl⟩ := h
    refine ⟨?_, rfl⟩
    have : ((c.toNat : Int)).toNat.toUInt8 = c := by simp
    rw [this]
    congr 2
    exact indexByte_dir c

theorem take_snoc (s : ByteArray) (k : Nat) (h : k < s.size) : s.data.toList.take (k + 1) = s.data.toList.take k ++ [s[k]] := by
  rw [List.take_succ_eq_append_getElem (by simpa using h)]; rfl

def dirs (l : List UInt8) : Bool := l.all (fun c => decide (0 ≤ dirIx c.toNat))
theorem dirs_snoc (s : ByteArray) (k : Nat) (h : k < s.size) (hd : dirs (s.data.toList.take k) = true) (hc : 0 ≤ dirIx s[k].toNat) : dirs (s.data.toList.take (k + 1)) = true := by
  rw [take_snoc s k h]
  simp [dirs] at hd ⊢
  exact ⟨hd, hc⟩
theorem dirs_no (s : ByteArray) (k : Nat) (h : k < s.size) (hc : dirIx s[k].toNat < 0) : isWord s.data.toList = false := by
  unfold isWord
  rw [Bool.and_eq_false_iff]
  right
  rw [List.all_eq_false]
  exact ⟨s[k], by simp [ByteArray.getElem_eq_getElem_data], by simp; omega⟩
theorem dirs_yes (s : ByteArray) (h60 : s.size ≤ 60) (hd : dirs (s.data.toList.take s.size) = true) : isWord s.data.toList = true := by
  rw [List.take_of_length_le (by simp)] at hd
  unfold isWord
  rw [Bool.and_eq_true]
  exact ⟨by simpa using h60, hd⟩

/-- All signs of a text are some of a row of signs. -/
def onlyB (sg l : List UInt8) : Bool := l.all (fun c => decide (0 ≤ Lib.indexByte sg c))
theorem indexIn_any (sg : ByteArray) (c : UInt8) (w : World) :
    Calls Tryd.prog 145 #[.string sg, .int .u8 c.toNat] w fun e w' => e = .returned (.int .i64 (Lib.indexByte sg.data.toList c)) ∧ w = w' :=
  (Tryd.strings_IndexByte _ _ w).mono fun e w' h => by
    obtain ⟨rfl, rfl⟩ := h
    refine ⟨?_, rfl⟩
    have : ((c.toNat : Int)).toNat.toUInt8 = c := by simp
    rw [this]
theorem only_snoc {sg : List UInt8} {s : ByteArray} {k : Nat} (h : k < s.size) (hd : onlyB sg (s.data.toList.take k) = true) (hc : 0 ≤ Lib.indexByte sg s[k]) : onlyB sg (s.data.toList.take (k + 1)) = true := by
  rw [take_snoc s k h]
  simp [onlyB] at hd ⊢
  exact ⟨hd, hc⟩
theorem only_no {sg : List UInt8} {s : ByteArray} {k : Nat} (h : k < s.size) (hc : Lib.indexByte sg s[k] < 0) : onlyB sg s.data.toList = false := by
  unfold onlyB
  rw [List.all_eq_false]
  exact ⟨s[k], by simp [ByteArray.getElem_eq_getElem_data], by simp; omega⟩
set_option maxHeartbeats 400000 in
theorem hasOnly_any (s sg : ByteArray) (w : World) (hs : s.size ≤ maxLen) :
    Calls Tryd.prog 128 #[.string s, .string sg] w fun e w' => e = .returned (.bool (onlyB sg.data.toList s.data.toList)) ∧ w = w' := by
  unfold maxLen at hs
  go_enter Tryd.func128, Tryd.ntmps128
  go_wp2
  go_loop [8, 5] (fun i _ => ∃ k : Nat, k ≤ s.size ∧ i = .int .i64 k ∧ onlyB sg.data.toList (s.data.toList.take k) = true) (fun i _ => s.size - (intOf i).toNat)
  case atStart => exact ⟨0, Nat.zero_le _, rfl, rfl⟩
  case round =>
    obtain ⟨k, hk, rfl, hd⟩ := hrel
    have HD := hide hd
    clear hd
    by_cases hlt : k < s.size
    · have hi := Lib.indexByte_ge sg.data.toList s[k]
      generalize hx : Lib.indexByte sg.data.toList s[k] = x at hi
      have HX := hide hx
      clear hx
      by_cases hc : 0 ≤ x
      · go_wp2_with (go_at_call 145; refine (indexIn_any _ _ _).mono ?_; rintro e w' ⟨rfl, rfl⟩; rw [HX.out])
        go_round
        case rel => exact ⟨k + 1, by omega, by go_num, only_snoc hlt HD.out (by rw [HX.out]; exact hc)⟩
        case measure => simp [intOf]; omega
      · have hc' : x < 0 := by omega
        go_wp2_with (go_at_call 145; refine (indexIn_any _ _ _).mono ?_; rintro e w' ⟨rfl, rfl⟩; rw [HX.out])
        go_ret
        exact ⟨ret_bool (only_no hlt (by rw [HX.out]; exact hc')).symm, rfl⟩
    · go_wp2
      go_ret
      have e : k = s.size := by omega
      subst e
      have ht : s.data.toList.take s.size = s.data.toList := List.take_of_length_le (by simp)
      exact ⟨ret_bool (by have := HD.out; rw [ht] at this; exact this.symm), rfl⟩
theorem onlyB_nesw (l : List UInt8) : onlyB [110, 101, 115, 119] l = dirs l := by
  unfold onlyB dirs
  congr 1
  funext c
  rw [indexByte_dir]
theorem isWord_dirs {l : List UInt8} : isWord l = (decide (l.length ≤ 60) && dirs l) := rfl
/-- The number of a text's direction, or -1. -/
def dirS (l : List UInt8) : Int := if l = [110] then 0 else if l = [101] then 1 else if l = [115] then 2 else if l = [119] then 3 else -1

theorem dirS_one (s : ByteArray) (k : Nat) (h : k < s.size) : dirS (s.extract k (k + 1)).data.toList = dirIx s[k].toNat := by
  have e : (s.extract k (k + 1)).data.toList = [s[k]] := by
    rw [Lib.extract_data, show k + 1 - k = 1 from by omega, List.drop_eq_getElem_cons (by simpa using h)]
    rfl
  rw [e]
  unfold dirS dirIx
  have h1 : ∀ (c a : UInt8), ([c] = [a]) = ((c.toNat : Int) = (a.toNat : Int)) := by
    intro c a
    simp [← UInt8.toNat_inj]
    omega
  simp only [h1]
  rfl

end Go.Proofs.YthdkhikkdcjifaaDoor
