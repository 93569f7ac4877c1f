/- The contracts of the model's labelled boards: prMatch, prAsked. -/
import Derived.Test.YtmlfkcmmjmdhmaaDoorPrRead
import Derived.Test.YtmlfkcmmjmdhmaaDoorAsk
import Derived.Test.YtmlfkcmmjmdhmaaDoorMatchI
namespace Go.Proofs.YtmlfkcmmjmdhmaaDoor
set_option maxRecDepth 100000
set_option linter.all false
open Go.RowKit

theorem lab_facts {L : List UInt8} {W H n : Nat} (h : GridOk (unlab L) W H n) : Even L W ∧ (splitP L).length = H ∧ (splitP L).flatten.length = n := by
  obtain ⟨h1, h2, h3, h4⟩ := h
  refine ⟨?_, by rw [← h3, rows_unlab], by rw [← h4, flat_unlab, unlab_len]⟩
  have := bd_even h1
  rw [h2] at this
  exact even_unlab.1 this
/-- Does this face match a sign, as the model asks? -/
def prB (c : UInt8) (t : Int) : Bool := !isDig c || decide ((c.toNat : Int) - 48 = t)
theorem prB_hit {c : UInt8} (t : Int) (h : unl c = 46) : prB c t = hitB c t := by
  unfold prB hitB labB
  cases hd : isDig c
  · rw [unl_no hd] at h
    subst h
    simp
  · have h2 := hd
    unfold isDig at h2
    rw [decide_eq_true_eq] at h2
    rw [Bool.eq_iff_iff]
    simp
    omega
/-- The sign of a cell that is floor under its label. -/
theorem floor_unl {L : List UInt8} {x y : Int} (h : floorL (unlab L) x y = true) : unl (cellI (splitP L) x y) = 46 := by
  unfold floorL at h
  rw [decide_eq_true_eq, cellI_unlab] at h
  apply UInt8.toNat_inj.1
  have : (unl (cellI (splitP L) x y)).toNat = 46 := by omega
  rw [this]; rfl
theorem floor_in {l : List UInt8} {W H n : Nat} (hg : GridOk l W H n) {x y : Int} (h : floorL l x y = true) : ∃ j k : Nat, x = (j : Int) ∧ y = (k : Int) ∧ j < W ∧ k < H := by
  have hi : inL l x y = true := by
    cases hin : inL l x y
    · have := cellI_out hg.1 hin
      unfold floorL at h
      rw [this] at h
      exact absurd h (by decide)
    · rfl
  rw [inL_eq hg, Bool.and_eq_true, decide_eq_true_eq, decide_eq_true_eq] at hi
  obtain ⟨⟨x0, x1⟩, y0, y1⟩ := hi
  exact ⟨x.toNat, y.toNat, by omega, by omega, by omega, by omega⟩
theorem u8_sub {c : UInt8} (h : isDig c = true) : IntKind.u8.wrap ((c.toNat : Int) - 48) = (c.toNat : Int) - 48 ∧ IntKind.i64.wrap ((c.toNat : Int) - 48) = (c.toNat : Int) - 48 := by
  unfold isDig at h
  rw [decide_eq_true_eq] at h
  constructor
  · simp [IntKind.wrap, IntKind.signed, IntKind.bits]; omega
  · exact IntWalk.i64_in _ (by omega)
end Go.Proofs.YtmlfkcmmjmdhmaaDoor
