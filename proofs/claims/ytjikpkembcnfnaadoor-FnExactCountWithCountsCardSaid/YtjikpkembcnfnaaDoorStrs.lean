/- Slices of strings in laws: eqStringS, markText, markStringS, heldStringS. -/
import Derived.Test.YtjikpkembcnfnaaDoorBase
import Derived.Test.YtjikpkembcnfnaaDoorOwnK
import Derived.Test.YtjikpkembcnfnaaDoorWords
import Derived.Test.YtjikpkembcnfnaaDoorInts
import Derived.Test.YtjikpkembcnfnaaDoorBuf
namespace Go.Proofs.YtjikpkembcnfnaaDoor
set_option maxRecDepth 100000
set_option linter.all false
open Go.RowKit

abbrev sV (l : List UInt8) : Value := .string ⟨l.toArray⟩
def strs (L : List (List UInt8)) : List Value := L.map sV
theorem strs_len (L : List (List UInt8)) : (strs L).length = L.length := by simp [strs]
theorem strs_snoc (L : List (List UInt8)) (x : List UInt8) : strs (L ++ [x]) = strs L ++ [sV x] := by simp [strs]
theorem strs_cell {w : World} {B g n cap : Nat} {L : List (List UInt8)} (h : w.ownsRow B 9 1 (.slice (some ⟨g, 0, none⟩) n cap) n (strs L)) (j : Nat) (x : List UInt8) (hx : L[j]? = some x) : w.cell? ⟨g, j, none⟩ = some (sV x) := by
  have hj := (List.getElem?_eq_some_iff.1 hx).1
  have hl := h.1
  rw [strs_len, Nat.mul_one] at hl
  rw [h.cellAt j (by omega)]
  unfold strs
  rw [List.getElem?_map, hx]
  rfl
theorem strs_set (L : List (List UInt8)) (j : Nat) (x : List UInt8) : (strs L).set j (sV x) = strs (L.set j x) := by
  unfold strs; rw [List.map_set]
/-- The digits of a number. -/
def dg (k : Nat) : List UInt8 := if h : k = 0 then [] else dg (k / 10) ++ [UInt8.ofNat (48 + k % 10)]
  termination_by k
  decreasing_by omega
theorem dg_zero : dg 0 = [] := by rw [dg]; rfl
theorem dg_pos {k : Nat} (h : 0 < k) : dg k = dg (k / 10) ++ [UInt8.ofNat (48 + k % 10)] := by rw [dg, dif_neg (by omega)]
theorem dg_len : ∀ (f k : Nat), k ≤ f → (dg k).length ≤ k
  | 0, k, h => by obtain rfl : k = 0 := by omega
                  rw [dg_zero]; exact Nat.le_refl _
  | f + 1, k, h => by
    by_cases h0 : k = 0
    · subst h0; rw [dg_zero]; exact Nat.le_refl _
    · have ih := dg_len f (k / 10) (by omega)
      rw [dg_pos (by omega), List.length_append, List.length_singleton]
      omega
def mtx (k : Nat) : List UInt8 := 109 :: dg k
/-- mtx k, mtx (k + 1), .. -/
def mtxs (k : Nat) (n : Nat) : List (List UInt8) := (List.range n).map (fun (j : Nat) => mtx (k + j))
theorem mtxs_len (k n : Nat) : (mtxs k n).length = n := by simp [mtxs]
theorem mtxs_get (k n j : Nat) (h : j < n) : (mtxs k n)[j]? = some (mtx (k + j)) := by
  unfold mtxs
  rw [List.getElem?_map, List.getElem?_range h]
  rfl
def markX (k : Nat) (L : List (List UInt8)) (j : Nat) : List (List UInt8) := mtxs k j ++ L.drop j
theorem markX_zero (k : Nat) (L : List (List UInt8)) : markX k L 0 = L := rfl
theorem markX_done (k : Nat) (L : List (List UInt8)) : markX k L L.length = mtxs k L.length := by simp [markX]
theorem markX_set (k : Nat) (L : List (List UInt8)) (j : Nat) (h : j < L.length) : (markX k L j).set j (mtx (k + j)) = markX k L (j + 1) := by
  unfold markX
  rw [List.set_append_right _ _ (by rw [mtxs_len]; exact Nat.le_refl _), mtxs_len, Nat.sub_self, List.drop_eq_getElem_cons h, List.set_cons_zero]
  unfold mtxs
  rw [List.range_succ, List.map_append]
  simp
theorem cons_str (c : UInt8) (t : List UInt8) : (⟨#[c]⟩ : ByteArray) ++ ⟨t.toArray⟩ = ⟨(c :: t).toArray⟩ := by
  apply ByteArray.ext
  simp
theorem one_out (w : World) (c : UInt8) : (convert 91 9 (.slice (some ⟨w.heap.size, 0, none⟩) 1 1)).run Tryd.prog (w.alloc (.cells #[.int .u8 (c.toNat : Int)] 5)) = .ok (.string ⟨#[c]⟩) (w.alloc (.cells #[.int .u8 (c.toNat : Int)] 5)) := by
  refine run_convert_bytes_back _ _ _ 5 _ 1 [c] Tryd.underlying91 Tryd.underlying5 Tryd.underlying9 (fun j hj => ?_)
  have h0 : j = 0 := by simpa using hj
  subst h0
  simp [Addr.add, World.cell?_alloc_mark]
end Go.Proofs.YtjikpkembcnfnaaDoor
