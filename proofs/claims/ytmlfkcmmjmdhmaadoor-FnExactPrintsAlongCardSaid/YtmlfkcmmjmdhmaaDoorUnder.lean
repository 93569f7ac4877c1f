/- The contract of labelsUnder. -/
import Derived.Test.YtmlfkcmmjmdhmaaDoorPrAsk
import Derived.Test.YtmlfkcmmjmdhmaaDoorWalksIL
namespace Go.Proofs.YtmlfkcmmjmdhmaaDoor
set_option maxRecDepth 100000
set_option linter.all false
open Go.RowKit

theorem rowsUnder_v (s : ByteArray) (t : St) (w : World) (hs : s.size ≤ 1048576) (hg : Glob w) : Calls Tryd.prog 35 #[.string s, St.v t] w fun e w' => ∃ v, e = .returned (.tuple #[v, .bool (isBd s.data.toList && stL s.data.toList t)]) ∧ Below w.heap.size w w' := by
  cases h : isBd s.data.toList
  · refine (rowsUnder_bad s t w hs hg h).mono ?_
    rintro e w' ⟨rfl, hb⟩
    exact ⟨_, rfl, hb⟩
  · cases h2 : stL s.data.toList t
    · refine (rowsUnder_off s t w hs hg h h2).mono ?_
      rintro e w' ⟨rfl, hb⟩
      exact ⟨_, rfl, hb⟩
    · refine (rowsUnder_on s t w hs hg h h2).mono ?_
      rintro e w' ⟨rfl, _, hb⟩
      exact ⟨_, rfl, hb⟩
end Go.Proofs.YtmlfkcmmjmdhmaaDoor
