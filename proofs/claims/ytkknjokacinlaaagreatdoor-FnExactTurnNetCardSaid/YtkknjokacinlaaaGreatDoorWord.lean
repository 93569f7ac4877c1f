/- Contracts of words: which texts are words, dice rolled along them, in the program and in the model. No condition but that a text is at most maxLen bytes. -/
import Derived.Test.YtkknjokacinlaaaGreatDoorBase
import Derived.Test.YtkknjokacinlaaaGreatDoorShelf
import Derived.Lib.Strings
namespace Go.Proofs.YtkknjokacinlaaaGreatDoor
set_option maxRecDepth 100000
set_option linter.all false
open Go.RowKit

theorem indexByte_dir (c : UInt8) : Lib.indexByte [110, 101, 115, 119] c = dirIx c.toNat := by
  have : ∀ n : Fin 256, Lib.indexByte [110, 101, 115, 119] (UInt8.ofNat n.val) = dirIx (UInt8.ofNat n.val).toNat := by decide +kernel
  have h := this ⟨c.toNat, c.toNat_lt⟩
  simpa using h

theorem take_snoc (s : ByteArray) (k : Nat) (h : k < s.size) : s.data.toList.take (k + 1) = s.data.toList.take k ++ [s[k]] := by
  rw [List.take_succ_eq_append_getElem (by simpa using h)]; rfl

def dirs (l : List UInt8) : Bool := l.all (fun c => decide (0 ≤ dirIx c.toNat))
theorem dirs_snoc (s : ByteArray) (k : Nat) (h : k < s.size) (hd : dirs (s.data.toList.take k) = true) (hc : 0 ≤ dirIx s[k].toNat) : dirs (s.data.toList.take (k + 1)) = true := by
  rw [take_snoc s k h]
  simp [dirs] at hd ⊢
  exact ⟨hd, hc⟩
theorem dirs_no (s : ByteArray) (k : Nat) (h : k < s.size) (hc : dirIx s[k].toNat < 0) : isWord s.data.toList = false := by
  unfold isWord
  rw [Bool.and_eq_false_iff]
  right
  rw [List.all_eq_false]
  exact ⟨s[k], by simp [ByteArray.getElem_eq_getElem_data], by simp; omega⟩
theorem dirs_yes (s : ByteArray) (h60 : s.size ≤ 60) (hd : dirs (s.data.toList.take s.size) = true) : isWord s.data.toList = true := by
  rw [List.take_of_length_le (by simp)] at hd
  unfold isWord
  rw [Bool.and_eq_true]
  exact ⟨by simpa using h60, hd⟩

/-- The number of a text's direction, or -1. -/
def dirS (l : List UInt8) : Int := if l = [110] then 0 else if l = [101] then 1 else if l = [115] then 2 else if l = [119] then 3 else -1

theorem dirS_one (s : ByteArray) (k : Nat) (h : k < s.size) : dirS (s.extract k (k + 1)).data.toList = dirIx s[k].toNat := by
  have e : (s.extract k (k + 1)).data.toList = [s[k]] := by
    rw [Lib.extract_data, show k + 1 - k = 1 from by omega, List.drop_eq_getElem_cons (by simpa using h)]
    rfl
  rw [e]
  unfold dirS dirIx
  have h1 : ∀ (c a : UInt8), ([c] = [a]) = ((c.toNat : Int) = (a.toNat : Int)) := by
    intro c a
    simp [← UInt8.toNat_inj]
    omega
  simp only [h1]
  rfl

end Go.Proofs.YtkknjokacinlaaaGreatDoor
