/- Contracts: dice rolled along words. -/
import Derived.Test.YtjikpkembcnfnaaDoorDie
import Derived.Test.YtjikpkembcnfnaaDoorWord
import Derived.StillTailTactics
namespace Go.Proofs.YtjikpkembcnfnaaDoor
set_option maxRecDepth 100000
set_option linter.all false
open Go.RowKit

theorem runC_snoc (d : D) (s : ByteArray) (k : Nat) (h : k < s.size) : runC d (s.data.toList.take (k + 1)) = rollC s[k].toNat (runC d (s.data.toList.take k)) := by
  rw [take_snoc s k h]; simp [runC]

theorem runK_snoc (d : D) (s : ByteArray) (k : Nat) (h : k < s.size) : runK d (s.data.toList.take (k + 1)) = rollK (dirIx s[k].toNat) (runK d (s.data.toList.take k)) := by
  rw [take_snoc s k h]; simp [runK]
end Go.Proofs.YtjikpkembcnfnaaDoor
