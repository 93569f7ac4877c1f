/- The walks of the law of IsClosedWay. -/
import Derived.Test.YthdkhikkdcjifaaDoorWalksA
import Derived.Test.YthdkhikkdcjifaaDoorWords
import Derived.Test.YthdkhikkdcjifaaDoorNext
import Derived.Deep.QuietTactic
import Derived.BigQuiet
namespace Go.Proofs.YthdkhikkdcjifaaDoor
set_option maxRecDepth 100000
set_option linter.all false
open Go.RowKit

theorem count_as (s : ByteArray) (c : UInt8) (n : Nat) (h : s.data.toList.count c = n) (w : World) : Calls Tryd.prog 151 #[.string s, .string ⟨#[c]⟩] w fun e w' => e = .returned (.int .i64 (n : Int)) ∧ w = w' :=
  (Tryd.strings_Count_one s c w).mono fun e w' h2 => ⟨h2.1.trans (by rw [← h]; rfl), h2.2.symm⟩

end Go.Proofs.YthdkhikkdcjifaaDoor
