/- The law of IsNet. -/
import Derived.Test.YtbfclnigjijkbaaNeH
import Derived.Test.YtbfclnigjijkbaaNetH
namespace Go.Proofs.Ytbfclnigjijkbaa
set_option maxRecDepth 100000
set_option linter.all false
open Go.RowKit

set_option maxHeartbeats 800000 in
theorem walk_IsNet (v : ByteArray) (hv : v.size ≤ maxLen) (w : World) : Calls Try.prog 4 #[.string v] w fun e w' => e = .returned (.bool true) ∧ Below w.heap.size w w' := by
  by_cases h1 : v.size ≤ 1048576
  · generalize hx : netB v.data.toList = x
    have HS := hide (fun wx => specNet_any v wx)
    have HP := hide (fun wx => isNet_any v wx h1)
    rw [hx] at HS HP
    clear hx
    have e1 : (x != x) = false := by simp
    have h1i : (v.size : Int) ≤ 1048576 := by omega
    go_enter Try.func4, Try.ntmps4
    go_wp2_with fail
    refine (HS.out _).mono ?_
    rintro e w1 ⟨rfl, hb1⟩
    go_wp2_with fail
    refine (HP.out _).mono ?_
    rintro e w2 ⟨rfl, hb2⟩
    go_wp2
    go_returns
    exact ⟨rfl, below_after hb1 hb2 hb1.size⟩
  · have h1i : (1048576 : Int) < (v.size : Int) := by omega
    clear h1
    go_enter Try.func4, Try.ntmps4
    go_wp2
    go_returns
    exact ⟨rfl, Below.refl _ _⟩
end Go.Proofs.Ytbfclnigjijkbaa
