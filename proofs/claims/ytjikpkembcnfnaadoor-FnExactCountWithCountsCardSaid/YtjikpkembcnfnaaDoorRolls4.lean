/- The program's allRolls: the row of the four directions. -/
import Derived.Test.YtjikpkembcnfnaaDoorStrs
import Derived.Test.YtjikpkembcnfnaaDoorShelf
import Derived.Test.YtjikpkembcnfnaaDoorOwnK
import Derived.Shelf.Strings.Explode
namespace Go.Proofs.YtjikpkembcnfnaaDoor
set_option maxRecDepth 100000
set_option linter.all false
open Go.RowKit

/-- strings.Split of a text by the empty one. -/
theorem split_chars (s : ByteArray) (w : World) (hs : s.size ≤ 100) (ha : ∀ (j : Nat) b, s.data.toList[j]? = some b → b.toNat < 128) : Calls Tryd.prog 103 #[.string s, .string ⟨#[]⟩] w fun e w' => ∃ v, e = .returned v ∧ w'.ownsRow w.heap.size 9 1 v s.size ((Lib.charsB s).map Value.string) ∧ Below w.heap.size w w' := by
  refine (Any.strings_Split_chars Tryd.lays146 (by kernel_rfl) s ⟨#[]⟩ w rfl (by omega) ha).mono ?_
  rintro e w' ⟨rfl, rfl⟩
  have hl : ((Lib.charsB s).map Value.string).length = s.size := by
    rw [List.length_map]
    exact Lib.charsUpTo_length s s.size
  have hnew : ∀ (x : World) (o : Obj), (x.alloc o).heap[x.heap.size]? = some o := by
    intro x o
    show (x.heap.push o)[x.heap.size]? = _
    simp
  generalize (Lib.charsB s).map Value.string = cs at hl
  refine ⟨_, rfl, ⟨by rw [hl]; omega, .inr ⟨_, s.size, cs.toArray, rfl, ?_, hnew _ _, Nat.le_refl _, by unfold maxLen; omega, ?_, ?_⟩⟩, ?_⟩
  · show w.heap.size ≤ (w.alloc _).heap.size
    simp
  · rw [List.size_toArray, hl, Nat.mul_one]
  · show List.take (s.size * 1) cs = cs
    exact List.take_of_length_le (by omega)
  exact ((Below.refl w.heap.size w).alloc (Nat.le_refl _) _).alloc (by simp) _
/-- The signs of rolls. -/
def rollsL : List (List UInt8) := [[110], [101], [115], [119]]
theorem chars_rolls : (Lib.charsB ⟨#[110, 101, 115, 119]⟩).map Value.string = strs rollsL := by kernel_rfl
theorem ascii_of (l : List UInt8) (h : l.all (fun b => decide (b.toNat < 128)) = true) : ∀ (j : Nat) b, l[j]? = some b → b.toNat < 128 := fun _ _ hb => of_decide_eq_true (List.all_eq_true.1 h _ (List.mem_of_getElem? hb))
theorem allRolls_any (w : World) : Calls Tryd.prog 112 #[] w fun e w' => ∃ v, e = .returned v ∧ w'.ownsRow w.heap.size 9 1 v 4 (strs rollsL) ∧ Below w.heap.size w w' := by
  go_enter Tryd.func112, Tryd.ntmps112
  go_wp2_with fail
  refine (split_chars ⟨#[110, 101, 115, 119]⟩ _ (by decide) (ascii_of _ (by decide))).mono ?_
  rintro e w1 ⟨v, rfl, O, hb⟩
  rw [chars_rolls] at O
  go_wp2
  go_returns
  exact ⟨_, rfl, O, hb⟩
end Go.Proofs.YtjikpkembcnfnaaDoor
