/- Plain mathematics of words: where they lead, turned and undone words. No Go in sight. -/
import Derived.Test.YthdkhikkdcjifaaDoorRows
import Derived.Test.YthdkhikkdcjifaaDoorPure
namespace Go.Proofs.YthdkhikkdcjifaaDoor
set_option maxRecDepth 100000
set_option linter.all false
open Go

theorem dir_cases (c : UInt8) : 0 ≤ dirIx c.toNat → c = 110 ∨ c = 101 ∨ c = 115 ∨ c = 119 := by
  have : ∀ n : Fin 256, 0 ≤ dirIx (UInt8.ofNat n.val).toNat → UInt8.ofNat n.val = 110 ∨ UInt8.ofNat n.val = 101 ∨ UInt8.ofNat n.val = 115 ∨ UInt8.ofNat n.val = 119 := by decide +kernel
  have h := this ⟨c.toNat, c.toNat_lt⟩
  simpa using h
theorem isWord_dir {l : List UInt8} (h : isWord l = true) {k : Nat} (hk : k < l.length) : 0 ≤ dirIx (l[k]'hk).toNat := by
  simp only [isWord, Bool.and_eq_true, List.all_eq_true, decide_eq_true_eq] at h
  exact h.2 _ (List.getElem_mem hk)
theorem isWord_len {l : List UInt8} (h : isWord l = true) : l.length ≤ 60 := by
  simp only [isWord, Bool.and_eq_true, decide_eq_true_eq] at h
  exact h.1

/-! ### Closed ways -/
def nextX (x k : Int) : Int := if k = 0 then x else if k = 1 then x + 1 else if k = 2 then x else x - 1
def nextY (y k : Int) : Int := if k = 0 then y - 1 else if k = 1 then y else if k = 2 then y + 1 else y
def cntX (l : List UInt8) : Int := (l.count 101 : Int) - l.count 119
def cntY (l : List UInt8) : Int := (l.count 115 : Int) - l.count 110
theorem cntX_snoc (l : List UInt8) (c : UInt8) (h : 0 ≤ dirIx c.toNat) : cntX (l ++ [c]) = nextX (cntX l) (dirIx c.toNat) := by
  unfold cntX
  rcases dir_cases c h with rfl | rfl | rfl | rfl <;> simp [List.count_append, nextX, dirIx] <;> omega
theorem cntY_snoc (l : List UInt8) (c : UInt8) (h : 0 ≤ dirIx c.toNat) : cntY (l ++ [c]) = nextY (cntY l) (dirIx c.toNat) := by
  unfold cntY
  rcases dir_cases c h with rfl | rfl | rfl | rfl <;> simp [List.count_append, nextY, dirIx] <;> omega
def closedB (l : List UInt8) : Bool := decide (l.count 110 = l.count 115) && decide (l.count 101 = l.count 119)
theorem closedB_cnt (l : List UInt8) : closedB l = decide (cntX l = 0 ∧ cntY l = 0) := by
  unfold closedB cntX cntY
  rw [Bool.eq_iff_iff]
  simp
  omega
theorem cnt_le (l : List UInt8) : -(l.length : Int) ≤ cntX l ∧ cntX l ≤ l.length ∧ -(l.length : Int) ≤ cntY l ∧ cntY l ≤ l.length := by
  unfold cntX cntY
  have h1 := List.count_le_length (a := (101 : UInt8)) (l := l)
  have h2 := List.count_le_length (a := (119 : UInt8)) (l := l)
  have h3 := List.count_le_length (a := (115 : UInt8)) (l := l)
  have h4 := List.count_le_length (a := (110 : UInt8)) (l := l)
  omega

/-! ### Turned words, undone words -/
def turnC (c : UInt8) : UInt8 := if c = 110 then 101 else if c = 101 then 115 else if c = 115 then 119 else 110
def oppC (c : UInt8) : UInt8 := if c = 110 then 115 else if c = 101 then 119 else if c = 115 then 110 else 101
def turnW (l : List UInt8) : List UInt8 := l.map turnC
def backW (l : List UInt8) : List UInt8 := (l.map oppC).reverse
theorem backW_step (l : List UInt8) (k : Nat) (h : k < l.length) : backW (l.drop k) = backW (l.drop (k + 1)) ++ [oppC (l[k]'h)] := by
  unfold backW
  rw [List.drop_eq_getElem_cons h, List.map_cons, List.reverse_cons]
theorem turnW_step (l : List UInt8) (k : Nat) (h : k < l.length) : turnW (l.take (k + 1)) = turnW (l.take k) ++ [turnC (l[k]'h)] := by
  unfold turnW
  rw [List.take_succ_eq_append_getElem h, List.map_append]
  rfl
theorem backW_len (l : List UInt8) : (backW l).length = l.length := by simp [backW]
theorem turnW_len (l : List UInt8) : (turnW l).length = l.length := by simp [turnW]
/-- A row of bytes, as cells. -/
def bytesV (l : List UInt8) : List Value := l.map fun c => .int .u8 (c.toNat : Int)
theorem bytesV_len (l : List UInt8) : (bytesV l).length = l.length := by simp [bytesV]
theorem bytesV_snoc (l : List UInt8) (c : UInt8) : bytesV (l ++ [c]) = bytesV l ++ [.int .u8 (c.toNat : Int)] := by simp [bytesV]
theorem str_snoc (l : List UInt8) (c : UInt8) : (⟨l.toArray⟩ : ByteArray) ++ ⟨#[c]⟩ = ⟨(l ++ [c]).toArray⟩ := by
  apply ByteArray.ext
  simp
end Go.Proofs.YthdkhikkdcjifaaDoor
