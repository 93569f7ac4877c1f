/- A byte against a number. -/
import Derived.Test.YtbfclnigjijkbaaBase
import Derived.Test.YtbfclnigjijkbaaLabel
namespace Go.Proofs.Ytbfclnigjijkbaa
set_option maxRecDepth 100000
set_option linter.all false
open Go.RowKit

theorem byte_eq {c : UInt8} {n : Int} (h : (c.toNat : Int) = n) : (((c.toNat : Nat) : Int) == n) = true ∧ (((c.toNat : Nat) : Int) != n) = false := by
  rw [h]; simp
theorem byte_ne {c : UInt8} {n : Int} (h : ¬ (c.toNat : Int) = n) : (((c.toNat : Nat) : Int) == n) = false ∧ (((c.toNat : Nat) : Int) != n) = true := by
  constructor
  · exact beq_eq_false_iff_ne.2 h
  · exact bne_iff_ne.2 h
theorem u8_eq (a b : UInt8) : (a == b) = decide ((a.toNat : Int) = (b.toNat : Int)) := by
  rw [Bool.eq_iff_iff]
  simp [← UInt8.toNat_inj]
  omega
theorem okC_int (c : UInt8) : okC c = (decide ((c.toNat : Int) = 46) || decide ((c.toNat : Int) = 35)) := by
  unfold okC
  rw [u8_eq, u8_eq]
  rfl

end Go.Proofs.Ytbfclnigjijkbaa
