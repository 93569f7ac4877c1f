/- strings.Join of a few short texts, out of the builder's contracts (the kit's own laying of Join falls at copyCheck's refused statement). -/
import Derived.Test.YtmlfkcmmjmdhmaaDoorShelf
import Derived.Test.YtmlfkcmmjmdhmaaDoorBase
import Derived.Test.YtmlfkcmmjmdhmaaDoorState
import Derived.Lib.AppendStr
import Derived.Lib.Builder
import Derived.Deep.Cut
namespace Go.Proofs.YtmlfkcmmjmdhmaaDoor
set_option maxRecDepth 100000
set_option linter.all false
open Go.RowKit

theorem info_u8J : (Tryd.prog.info? 5).map (fun i => (i.zero, i.size, i.bytes)) = some (some (.int .u8 0), 1, 1) := by kernel_rfl
/-- Texts with a slash between them. -/
def joinB : List (List UInt8) → List UInt8
  | [] => []
  | x :: xs => x ++ xs.flatMap fun y => 47 :: y
def sizeB (xs : List ByteArray) : Nat := (xs.map (·.size)).sum
theorem sizeB_take (xs : List ByteArray) (k : Nat) (x : ByteArray) (h : xs[k]? = some x) : sizeB (xs.take (k + 1)) = sizeB (xs.take k) + x.size := by
  unfold sizeB
  rw [List.take_add_one, h, List.map_append, List.sum_append]
  simp
theorem sizeB_le (xs : List ByteArray) : ∀ k, (∀ x ∈ xs, x.size ≤ 100) → sizeB (xs.take k) ≤ 100 * k
  | 0, _ => by simp [sizeB]
  | k + 1, h => by
    cases hk : xs[k]? with
    | none =>
      have : xs.take (k + 1) = xs.take k := by rw [List.take_add_one, hk]; simp
      rw [this]
      have := sizeB_le xs k h
      omega
    | some x =>
      rw [sizeB_take xs k x hk]
      have h1 := sizeB_le xs k h
      have h2 := h x (List.mem_of_getElem? hk)
      omega
theorem strCells_byte (s : ByteArray) : Lib.strCells s = Lib.byteCells s.data.toList := by
  simp [Lib.strCells, Lib.byteCells]

/-- The text behind the first text and k more. -/
def partB (x : List UInt8) (xs : List (List UInt8)) (k : Nat) : List UInt8 := x ++ (xs.take k).flatMap fun y => 47 :: y
theorem partB_zero (x : List UInt8) (xs : List (List UInt8)) : partB x xs 0 = x := by simp [partB]
theorem partB_succ (x : List UInt8) (xs : List (List UInt8)) (k : Nat) (y : List UInt8) (h : xs[k]? = some y) : partB x xs (k + 1) = partB x xs k ++ [47] ++ y := by
  unfold partB
  rw [List.take_add_one, h]
  simp
theorem partB_done (x : List UInt8) (xs : List (List UInt8)) : partB x xs xs.length = joinB (x :: xs) := by simp [partB, joinB]
theorem byteCells_append (a b : List UInt8) : Lib.byteCells (a ++ b) = Lib.byteCells a ++ Lib.byteCells b := by simp [Lib.byteCells]
theorem partB_len (x : List UInt8) (xs : List (List UInt8)) (hx : x.length ≤ 100) (h : ∀ y ∈ xs, y.length ≤ 100) : ∀ k, (partB x xs k).length ≤ 100 + 101 * k
  | 0 => by simp [partB]; omega
  | k + 1 => by
    have ih := partB_len x xs hx h k
    cases hk : xs[k]? with
    | none =>
      have : partB x xs (k + 1) = partB x xs k := by unfold partB; rw [List.take_add_one, hk]; simp
      rw [this]
      omega
    | some y =>
      rw [partB_succ x xs k y hk]
      have := h y (List.mem_of_getElem? hk)
      simp
      omega
theorem run_tail (g n c : Nat) (h1 : 1 ≤ n) (h2 : n ≤ c) (h3 : 2 ≤ c) (wx : World) : (Instr.slice 62 (.slice (some ⟨g, 0, none⟩) n c) (some (.int .i64 1)) none none).run Tryd.prog wx = .ok (.slice (some ⟨g, 1, none⟩) (n - 1) (c - 1)) wx := by
  have e1 : ¬ c = 1 := by omega
  have e2 : (0 : Int) ≤ 1 ∧ (1 : Int) ≤ (n : Int) := by omega
  simp [Instr.slice, run_underlying Tryd.underlying62, Instr.sliceBounds, Instr.sliceBound, asIntOf, go_sem, e1, Addr.add]
  try (intro h; omega)

end Go.Proofs.YtmlfkcmmjmdhmaaDoor
