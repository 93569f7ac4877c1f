/- The walk of the law of RollDie. -/
import Derived.Test.YtdndegonpdakkaaDoorGood
import Derived.Test.YtdndegonpdakkaaDoorRun
import Derived.Test.YtdndegonpdakkaaDoorWalksA
namespace Go.Proofs.YtdndegonpdakkaaDoor
set_option maxRecDepth 100000
set_option linter.all false
open Go.RowKit

theorem list_one {l : List UInt8} (h : l.length = 1) : ∃ c, l = [c] := by
  match l, h with
  | [c], _ => exact ⟨c, rfl⟩
theorem dirS_sing (c : UInt8) : dirS [c] = dirIx c.toNat := by
  have h1 : ∀ (c a : UInt8), ([c] = [a]) = ((c.toNat : Int) = (a.toNat : Int)) := by
    intro c a
    simp [← UInt8.toNat_inj]
    omega
  unfold dirS dirIx
  simp only [h1]
  rfl
theorem dirS_len {l : List UInt8} (h : l.length ≠ 1) : dirS l = -1 := by
  have h1 : ∀ c : UInt8, l ≠ [c] := by
    intro c e
    subst e
    simp at h
  unfold dirS
  simp [h1]
theorem isWord_one {l : List UInt8} (h : l.length = 1) : isWord l = decide (0 ≤ dirS l) := by
  obtain ⟨c, rfl⟩ := list_one h
  rw [dirS_sing]
  simp [isWord]

set_option maxHeartbeats 400000 in
theorem isDirection_any (s : ByteArray) (w : World) (hs : s.size ≤ maxLen) :
    Calls Tryd.prog 52 #[.string s] w fun e w' => e = .returned (.bool (decide (0 ≤ dirS s.data.toList))) ∧ w = w' := by
  by_cases h1 : s.size = 1
  · have e1 : ((s.size : Int) == 1) = true := by simp [h1]
    have e2 := hide (isWord_one (l := s.data.toList) (by simpa using h1))
    have hs' := hs
    clear h1 hs
    go_enter Tryd.func52, Tryd.ntmps52
    go_wp2_with fail
    refine (isRolls_any s _ hs').mono ?_
    rintro e w1 ⟨rfl, rfl⟩
    rw [e2.out]
    go_wp2
    go_returns
    exact ⟨rfl, rfl⟩
  · have e1 : ((s.size : Int) == 1) = false := by simp; omega
    have e2 : decide (0 ≤ dirS s.data.toList) = false := by
      rw [dirS_len (by simpa using h1)]
      rfl
    rw [e2]
    clear h1 e2
    go_enter Tryd.func52, Tryd.ntmps52
    go_wp2
    go_returns
    exact ⟨rfl, rfl⟩

/-- What both say. -/
def rdS (d : D) (l : List UInt8) : D := if goodB d = true ∧ 0 ≤ dirS l then rollK (dirS l) d else zeroD
def rdF (d : D) (l : List UInt8) : Bool := goodB d && decide (0 ≤ dirS l)
end Go.Proofs.YtdndegonpdakkaaDoor
