/- The model's turning of a board: spec.boTurn. Condition: a board's grid. -/
import Derived.Test.YtmlfkcmmjmdhmaaDoorCells
import Derived.Deep.Cut
namespace Go.Proofs.YtmlfkcmmjmdhmaaDoor
set_option maxRecDepth 100000
set_option linter.all false
open Go.RowKit
attribute [local go_sem ↓] Go.wp_at_zero Go.wp_at_succ

/-- The first signs of a turned board's row. -/
def colT (F : List UInt8) (W H x : Nat) : Nat → List UInt8
  | 0 => []
  | i + 1 => colT F W H x i ++ [F.getD ((H - 1 - i) * W + x) 0]
/-- The first rows of a turned board. -/
def turnT (F : List UInt8) (W H : Nat) : Nat → List UInt8
  | 0 => []
  | x + 1 => turnT F W H x ++ colT F W H x H
/-- What the model has built. -/
def tcells (F : List UInt8) (W H x i : Nat) : List UInt8 := turnT F W H x ++ colT F W H x i
theorem colT_len (F : List UInt8) (W H x : Nat) : ∀ i, (colT F W H x i).length = i
  | 0 => rfl
  | i + 1 => by rw [colT, List.length_append, colT_len F W H x i]; rfl
theorem turnT_len (F : List UInt8) (W H : Nat) : ∀ x, (turnT F W H x).length = x * H
  | 0 => by simp [turnT]
  | x + 1 => by rw [turnT, List.length_append, turnT_len F W H x, colT_len, Nat.add_mul]; omega
theorem tcells_len (F : List UInt8) (W H x i : Nat) : (tcells F W H x i).length = x * H + i := by
  rw [tcells, List.length_append, turnT_len, colT_len]
theorem tcells_step {F : List UInt8} {W H x i : Nat} {c : UInt8} (h : F[(H - 1 - i) * W + x]? = some c) : tcells F W H x (i + 1) = tcells F W H x i ++ [c] := by
  rw [tcells, tcells, colT, ← List.append_assoc]
  congr 2
  rw [List.getD, h]
  rfl
theorem tcells_end (F : List UInt8) (W H x : Nat) : tcells F W H (x + 1) 0 = tcells F W H x H := by
  simp [tcells, turnT, colT]
theorem tcells_le {W H x i : Nat} (F : List UInt8) (hx : x ≤ 7) (hh : H ≤ 7) (hi : i ≤ H) : (tcells F W H x i).length ≤ 56 := by
  rw [tcells_len]
  have := Nat.mul_le_mul hx hh
  omega
theorem ret_grid1 {fn : Func} {p : Tmp} {tmps : Array Value} {w : World} {b : Nat} {x y : Int} {v : Value} (h : fn.results = #[.cell p 43]) (hp : tmps.getD p undef = .pointer (some ⟨b, 0, none⟩)) (hd : IsG w b x y v) :
    (results fn tmps).run Tryd.prog w = .ok (.agg #[.int .i64 x, .int .i64 y, v]) w := by
  rw [results_cell h, hp]
  exact hd.load

/-- What holds at each head of the turning's loops. -/
def TurnBI (w wr : World) (W H n g cap : Nat) (F : List UInt8) (v : Value) (L : List UInt8) : Prop :=
  IsG wr w.heap.size (W : Int) (H : Int) (.slice (some ⟨g, 0, none⟩) n cap) ∧ IsG wr (w.heap.size + 1) 0 0 (.slice none 0 0) ∧ IsG wr (w.heap.size + 2) (H : Int) (W : Int) v ∧ wr.ownsRow (w.heap.size + 3) 5 1 v L.length (bytesV L) ∧ Below w.heap.size w wr

/-- Block g holds the bytes F, as far as they go. -/
def AtB (w : World) (g : Nat) (F : List UInt8) : Prop := g < w.heap.size ∧ ∀ (j : Nat) (c : UInt8), F[j]? = some c → w.cell? ⟨g, j, none⟩ = some (.int .u8 (c.toNat : Int))
theorem atB_to {w w0 w1 : World} {g : Nat} {F : List UInt8} (hb : Below w0.heap.size w0 w1) (h : AtB w g F) (e : w0.heap = w.heap) : AtB w1 g F := by
  have hs := hb.size
  refine ⟨by rw [e] at hs; have := h.1; omega, fun j c hc => ?_⟩
  rw [hb.cell (p := ⟨g, j, none⟩) (by rw [e]; exact h.1)]
  have h5 : w0.heap[(⟨g, j, none⟩ : Addr).block]? = w.heap[(⟨g, j, none⟩ : Addr).block]? := by rw [e]
  rw [World.cell?_of_block h5]
  exact h.2 j c hc
end Go.Proofs.YtmlfkcmmjmdhmaaDoor
