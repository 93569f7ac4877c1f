/- The model's next place in a direction. -/
import Derived.Test.YthdkhikkdcjifaaDoorBase
import Derived.Test.YthdkhikkdcjifaaDoorWords
import Derived.Deep.QuietTactic
import Derived.BigQuiet
namespace Go.Proofs.YthdkhikkdcjifaaDoor
set_option maxRecDepth 100000
set_option linter.all false
open Go.RowKit

theorem boNext_any (x y k : Int) (w : World) (hx : -100000 ≤ x ∧ x ≤ 100000) (hy : -100000 ≤ y ∧ y ≤ 100000) :
    Calls Tryd.prog 98 #[.int .i64 x, .int .i64 y, .int .i64 k] w fun e w' => e = .returned (.tuple #[.int .i64 (nextX x k), .int .i64 (nextY y k)]) ∧ w = w' := by
  obtain ⟨x0, x1⟩ := hx
  obtain ⟨y0, y1⟩ := hy
  by_cases h0 : k = 0
  · subst h0
    go_enter Tryd.func98, Tryd.ntmps98
    go_wp2
    go_returns
    exact ⟨rfl, rfl⟩
  · by_cases h1 : k = 1
    · subst h1
      go_enter Tryd.func98, Tryd.ntmps98
      go_wp2
      go_returns
      exact ⟨rfl, rfl⟩
    · by_cases h2 : k = 2
      · subst h2
        go_enter Tryd.func98, Tryd.ntmps98
        go_wp2
        go_returns
        exact ⟨rfl, rfl⟩
      · have e0 : (k == 0) = false := by simpa using h0
        have e1 : (k == 1) = false := by simpa using h1
        have e2 : (k == 2) = false := by simpa using h2
        have E1 : nextX x k = x - 1 := by unfold nextX; rw [if_neg h0, if_neg h1, if_neg h2]
        have E2 : nextY y k = y := by unfold nextY; rw [if_neg h0, if_neg h1, if_neg h2]
        rw [E1, E2]
        clear E1 E2
        go_enter Tryd.func98, Tryd.ntmps98
        go_wp2
        go_returns
        exact ⟨rfl, rfl⟩

end Go.Proofs.YthdkhikkdcjifaaDoor
