/- The model of nets: spec.neMirror, spec.neText. Condition: a grid of at most 6 rows of at most 6 cells. -/
import Derived.Test.YtkknjokacinlaaaGreatDoorBoTxt
import Derived.Test.YtkknjokacinlaaaGreatDoorNeB
import Derived.Deep.RegionLaw
import Derived.Deep.DrawnRows
namespace Go.Proofs.YtkknjokacinlaaaGreatDoor
set_option maxRecDepth 100000
set_option linter.all false
open Go.RowKit
attribute [local go_sem ↓] Go.wp_at_zero Go.wp_at_succ

/-- The first signs of a mirrored row. -/
def rowM (F : List UInt8) (W y : Nat) : Nat → List UInt8
  | 0 => []
  | i + 1 => rowM F W y i ++ [F.getD (y * W + (W - 1 - i)) 0]
/-- The first mirrored rows. -/
def gridM (F : List UInt8) (W : Nat) : Nat → List UInt8
  | 0 => []
  | y + 1 => gridM F W y ++ rowM F W y W
def mcells (F : List UInt8) (W y i : Nat) : List UInt8 := gridM F W y ++ rowM F W y i
theorem rowM_len (F : List UInt8) (W y : Nat) : ∀ i, (rowM F W y i).length = i
  | 0 => rfl
  | i + 1 => by rw [rowM, List.length_append, rowM_len F W y i]; rfl
theorem gridM_len (F : List UInt8) (W : Nat) : ∀ y, (gridM F W y).length = y * W
  | 0 => by simp [gridM]
  | y + 1 => by rw [gridM, List.length_append, gridM_len F W y, rowM_len, Nat.add_mul]; omega
theorem mcells_len (F : List UInt8) (W y i : Nat) : (mcells F W y i).length = y * W + i := by
  rw [mcells, List.length_append, gridM_len, rowM_len]
theorem mcells_step {F : List UInt8} {W y i : Nat} {c : UInt8} (h : F[y * W + (W - 1 - i)]? = some c) : mcells F W y (i + 1) = mcells F W y i ++ [c] := by
  rw [mcells, mcells, rowM, ← List.append_assoc]
  congr 2
  rw [List.getD, h]
  rfl
theorem mcells_end (F : List UInt8) (W y : Nat) : mcells F W (y + 1) 0 = mcells F W y W := by
  simp [mcells, gridM, rowM]
theorem mcells_le {W y i : Nat} (F : List UInt8) (hy : y ≤ 6) (hw : W ≤ 6) (hi : i ≤ W) : (mcells F W y i).length ≤ 42 := by
  rw [mcells_len]
  have := Nat.mul_le_mul hy hw
  omega
theorem rowM_get (F : List UInt8) (W y : Nat) : ∀ i j, j < i → (rowM F W y i)[j]? = some (F.getD (y * W + (W - 1 - j)) 0)
  | i + 1, j, h => by
    rw [rowM]
    by_cases e : j < i
    · rw [List.getElem?_append_left (by rw [rowM_len]; exact e)]
      exact rowM_get F W y i j e
    · obtain rfl : j = i := by omega
      rw [List.getElem?_append_right (by rw [rowM_len]; omega), rowM_len, Nat.sub_self]
      rfl
theorem gridM_get (F : List UInt8) (W : Nat) : ∀ Y y j, y < Y → j < W → (gridM F W Y)[y * W + j]? = some (F.getD (y * W + (W - 1 - j)) 0)
  | Y + 1, y, j, h, hj => by
    rw [gridM]
    by_cases e : y < Y
    · have h1 : (y + 1) * W ≤ Y * W := Nat.mul_le_mul_right W (by omega)
      rw [Nat.succ_mul] at h1
      rw [List.getElem?_append_left (by rw [gridM_len]; omega)]
      exact gridM_get F W Y y j e hj
    · obtain rfl : y = Y := by omega
      rw [List.getElem?_append_right (by rw [gridM_len]; omega), gridM_len, show y * W + j - y * W = j from by omega]
      exact rowM_get F W y W j hj
theorem info_byteM : (Tryz.prog.info? 5).map (fun i => (i.zero, i.size, i.bytes)) = some (some (.int .u8 0), 1, 1) := by kernel_rfl
theorem ret_gridM {fn : Func} {p : Tmp} {tmps : Array Value} {w : World} {b : Nat} {x y : Int} {v : Value} (h : fn.results = #[.cell p 27]) (hp : tmps.getD p undef = .pointer (some ⟨b, 0, none⟩)) (hd : IsGN w b x y v) :
    (results fn tmps).run Tryz.prog w = .ok (.agg #[.int .i64 x, .int .i64 y, v]) w := by
  rw [results_cell h, hp]
  exact hd.load

/-- What holds at each head of the turning's loops. -/
def MirI (w wr : World) (W H n g cap : Nat) (F : List UInt8) (v : Value) (L : List UInt8) : Prop :=
  IsGN wr w.heap.size (W : Int) (H : Int) (.slice (some ⟨g, 0, none⟩) n cap) ∧ IsGN wr (w.heap.size + 1) 0 0 (.slice none 0 0) ∧ IsGN wr (w.heap.size + 2) (W : Int) (H : Int) v ∧ wr.ownsRow (w.heap.size + 3) 5 1 v L.length (bytesV L) ∧ Below w.heap.size w wr

/-- spec.neText: as spec.boText. -/
theorem neText_any (R : Nat → List UInt8) (a b n g cap : Nat) (ha : 1 ≤ a ∧ a ≤ 7) (hb : 1 ≤ b ∧ b ≤ 7) (hn : n = b * a) (hcap : n ≤ cap) (hR : ∀ k, k < b → (R k).length = a) (w : World) (hg : g < w.heap.size) (hc : ∀ k, k < b → ∀ j c, (R k)[j]? = some c → w.cell? ⟨g, k * a + j, none⟩ = some (.int .u8 (c.toNat : Int))) : Calls Tryz.prog 7 #[.agg #[.int .i64 (a : Int), .int .i64 (b : Int), .slice (some ⟨g, 0, none⟩) n cap]] w fun e w' => e = .returned (.string ⟨(textM R b).toArray⟩) ∧ Below w.heap.size w w' := by
  have HC := hide hc
  have q0 : Below w.heap.size w (w.alloc (.cells #[.int .i64 (a : Int), .int .i64 (b : Int), .slice (some ⟨g, 0, none⟩) n cap] 27)) := by go_grown
  have HBT := hide (fun (wx : World) (hx : Below w.heap.size w wx) => boTextM_any R a b n g cap ha hb hn hcap hR wx (by have := hx.size; omega) (fun k hk j c h => (hx.cell (p := ⟨g, k * a + j, none⟩) hg).trans (HC.out k hk j c h)))
  clear hc hn hR
  go_enter Tryz.func7, Tryz.ntmps7
  go_wp2_with (go_at_call 14; (refine (HBT.out _ q0).mono ?_); rintro e w2 ⟨rfl, hb2⟩; have HB2 := hide (below_after q0 hb2 q0.size))
  go_returns
  exact ⟨rfl, HB2.out⟩
end Go.Proofs.YtkknjokacinlaaaGreatDoor
