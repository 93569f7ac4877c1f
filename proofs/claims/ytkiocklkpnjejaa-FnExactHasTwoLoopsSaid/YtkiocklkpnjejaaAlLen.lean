/- How many loops there are at most. -/
import Derived.Test.YtkiocklkpnjejaaAllS
namespace Go.Proofs.Ytkiocklkpnjejaa
set_option maxRecDepth 100000
set_option linter.all false
open Go.RowKit

theorem alL_len (L : List D) : (alL L).length ≤ 100000 ∧ sumL (alL L) ≤ 100000 := by
  unfold alL
  cases h : towB L
  · rw [if_neg (by decide)]
    simp [sumL]
  · rw [if_pos rfl]
    have hl := towB_len h
    have h1 := loopsK_len L L.length (3 ^ L.length)
    have h2 := loopsK_sum L L.length (3 ^ L.length)
    have hp : 3 ^ L.length ≤ 81 := by
      have : L.length = 1 ∨ L.length = 2 ∨ L.length = 3 ∨ L.length = 4 := by omega
      rcases this with e | e | e | e <;> rw [e] <;> decide
    have h3 : 3 ^ L.length * L.length ≤ 81 * 4 := Nat.mul_le_mul hp hl.2
    omega
end Go.Proofs.Ytkiocklkpnjejaa
