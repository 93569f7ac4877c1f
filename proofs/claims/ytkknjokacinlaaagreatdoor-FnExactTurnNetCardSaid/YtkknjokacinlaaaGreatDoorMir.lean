/- Mirrored texts: the rows of a text backwards, swapped in place or joined anew. -/
import Derived.Test.YtkknjokacinlaaaGreatDoorBoard
namespace Go.Proofs.YtkknjokacinlaaaGreatDoor
set_option maxRecDepth 100000
set_option linter.all false

/-- The part of W signs from p on, with i signs at either end exchanged. -/
def revI (L : List UInt8) (p W i : Nat) : List UInt8 := (List.range L.length).map fun q => if (p ≤ q ∧ q < p + i) ∨ (p + W ≤ q + i ∧ q < p + W) then L.getD (2 * p + W - 1 - q) 0 else L.getD q 0
theorem revI_len (L : List UInt8) (p W i : Nat) : (revI L p W i).length = L.length := by simp [revI]
theorem revI_get {L : List UInt8} {p W i q : Nat} (hq : q < L.length) : (revI L p W i)[q]? = some (if (p ≤ q ∧ q < p + i) ∨ (p + W ≤ q + i ∧ q < p + W) then L.getD (2 * p + W - 1 - q) 0 else L.getD q 0) := by
  unfold revI
  rw [List.getElem?_map, List.getElem?_range hq]
  rfl
theorem getD_some {L : List UInt8} {q : Nat} (hq : q < L.length) : L[q]? = some (L.getD q 0) := by
  rw [List.getD_eq_getElem?_getD, List.getElem?_eq_getElem hq]
  rfl
theorem revI_zero (L : List UInt8) (p W : Nat) : revI L p W 0 = L := by
  apply List.ext_getElem?
  intro q
  by_cases hq : q < L.length
  · rw [revI_get hq, if_neg (by omega), getD_some hq]
  · rw [List.getElem?_eq_none (by rw [revI_len]; omega), List.getElem?_eq_none (by omega)]
theorem revI_lo {L : List UInt8} {p W i : Nat} (hp : p + W ≤ L.length) (h : 2 * i + 1 < W) : (revI L p W i)[p + i]? = some (L.getD (p + i) 0) := by
  rw [revI_get (by omega), if_neg (by omega)]
theorem revI_hi {L : List UInt8} {p W i : Nat} (hp : p + W ≤ L.length) (h : 2 * i + 1 < W) : (revI L p W i)[p + (W - 1 - i)]? = some (L.getD (p + (W - 1 - i)) 0) := by
  rw [revI_get (by omega), if_neg (by omega)]
theorem revI_swap {L : List UInt8} {p W i : Nat} (hp : p + W ≤ L.length) (h : 2 * i + 1 < W) : ((revI L p W i).set (p + i) (L.getD (p + (W - 1 - i)) 0)).set (p + (W - 1 - i)) (L.getD (p + i) 0) = revI L p W (i + 1) := by
  apply List.ext_getElem?
  intro q
  by_cases hq : q < L.length
  · rw [revI_get (i := i + 1) hq]
    by_cases e1 : q = p + (W - 1 - i)
    · rw [e1, List.getElem?_set_self (by rw [List.length_set, revI_len]; omega), if_pos (by omega)]
      congr 2
      omega
    · rw [List.getElem?_set_ne (by omega)]
      by_cases e2 : q = p + i
      · rw [e2, List.getElem?_set_self (by rw [revI_len]; omega), if_pos (by omega)]
        congr 2
        omega
      · rw [List.getElem?_set_ne (by omega), revI_get hq]
        by_cases hc : (p ≤ q ∧ q < p + i) ∨ (p + W ≤ q + i ∧ q < p + W)
        · rw [if_pos hc, if_pos (by omega)]
        · rw [if_neg hc, if_neg (by omega)]
  · rw [List.getElem?_eq_none (by rw [List.length_set, List.length_set, revI_len]; omega), List.getElem?_eq_none (by rw [revI_len]; omega)]
theorem revI_end {L : List UInt8} {p W i : Nat} (h : W ≤ 2 * i + 1) (hi : i ≤ W) : revI L p W i = revI L p W W := by
  apply List.ext_getElem?
  intro q
  by_cases hq : q < L.length
  · rw [revI_get hq, revI_get hq]
    by_cases hc : (p ≤ q ∧ q < p + i) ∨ (p + W ≤ q + i ∧ q < p + W)
    · rw [if_pos hc, if_pos (by omega)]
    · rw [if_neg hc]
      by_cases h2 : (p ≤ q ∧ q < p + W) ∨ (p + W ≤ q + W ∧ q < p + W)
      · rw [if_pos h2]
        congr 2
        omega
      · rw [if_neg h2]
  · rw [List.getElem?_eq_none (by rw [revI_len]; omega), List.getElem?_eq_none (by rw [revI_len]; omega)]
/-- The text with its first y rows backwards. -/
def mirTo (l : List UInt8) (W y : Nat) : List UInt8 := (List.range l.length).map fun q => if q / (W + 1) < y ∧ q % (W + 1) < W then l.getD (q / (W + 1) * (W + 1) + (W - 1 - q % (W + 1))) 0 else l.getD q 0
theorem mirTo_len (l : List UInt8) (W y : Nat) : (mirTo l W y).length = l.length := by simp [mirTo]
theorem mirTo_get {l : List UInt8} {W y q : Nat} (hq : q < l.length) : (mirTo l W y)[q]? = some (if q / (W + 1) < y ∧ q % (W + 1) < W then l.getD (q / (W + 1) * (W + 1) + (W - 1 - q % (W + 1))) 0 else l.getD q 0) := by
  unfold mirTo
  rw [List.getElem?_map, List.getElem?_range hq]
  rfl
theorem mirTo_zero (l : List UInt8) (W : Nat) : mirTo l W 0 = l := by
  apply List.ext_getElem?
  intro q
  by_cases hq : q < l.length
  · rw [mirTo_get hq, if_neg (fun h => absurd h.1 (Nat.not_lt_zero _)), getD_some hq]
  · rw [List.getElem?_eq_none (by rw [mirTo_len]; omega), List.getElem?_eq_none (by omega)]
theorem row_of {W y q : Nat} (h1 : y * (W + 1) ≤ q) (h2 : q < y * (W + 1) + (W + 1)) : q / (W + 1) = y ∧ q % (W + 1) = q - y * (W + 1) := by
  have hd : q / (W + 1) = y := by
    apply Nat.div_eq_of_lt_le
    · exact h1
    · rw [Nat.add_mul, Nat.one_mul]; exact h2
  refine ⟨hd, ?_⟩
  have := Nat.div_add_mod q (W + 1)
  rw [hd, Nat.mul_comm] at this
  omega
theorem in_row {W q y : Nat} (h : q / (W + 1) = y) : y * (W + 1) ≤ q ∧ q < y * (W + 1) + (W + 1) := by
  have h1 := Nat.div_add_mod q (W + 1)
  have h2 := Nat.mod_lt q (show 0 < W + 1 by omega)
  rw [h, Nat.mul_comm] at h1
  omega
theorem mirTo_row {l : List UInt8} {W y : Nat} (hp : y * (W + 1) + W ≤ l.length) : revI (mirTo l W y) (y * (W + 1)) W W = mirTo l W (y + 1) := by
  apply List.ext_getElem?
  intro q
  by_cases hq : q < l.length
  · rw [revI_get (by rw [mirTo_len]; exact hq), mirTo_get (y := y + 1) hq]
    by_cases hr : q / (W + 1) = y
    · obtain ⟨h1, h2⟩ := in_row hr
      obtain ⟨-, h3⟩ := row_of h1 h2
      rw [hr, h3]
      generalize hpp : y * (W + 1) = p at hp h1 h2 h3 ⊢
      by_cases hw : q < p + W
      · rw [if_pos (by omega), if_pos ⟨by omega, by omega⟩, List.getD_eq_getElem?_getD, mirTo_get (by omega)]
        obtain ⟨g1, -⟩ := row_of (W := W) (y := y) (q := 2 * p + W - 1 - q) (by rw [hpp]; omega) (by rw [hpp]; omega)
        rw [g1, if_neg (by omega), Option.getD_some]
        congr 2
        omega
      · rw [if_neg (by omega), if_neg (by omega), List.getD_eq_getElem?_getD, mirTo_get hq, hr, if_neg (by omega), Option.getD_some]
    · have hn : ¬ (y * (W + 1) ≤ q ∧ q < y * (W + 1) + W) := fun ⟨a, b⟩ => hr (row_of a (by omega)).1
      rw [if_neg (by omega), List.getD_eq_getElem?_getD, mirTo_get hq, Option.getD_some]
      by_cases hc : q / (W + 1) < y ∧ q % (W + 1) < W
      · rw [if_pos hc, if_pos ⟨by omega, hc.2⟩]
      · rw [if_neg hc, if_neg (by omega)]
  · rw [List.getElem?_eq_none (by rw [revI_len, mirTo_len]; omega), List.getElem?_eq_none (by rw [mirTo_len]; omega)]
/-- The text of the first rows. -/
def textM (R : Nat → List UInt8) : Nat → List UInt8
  | 0 => []
  | k + 1 => (if k = 0 then [] else textM R k ++ [47]) ++ R k
theorem textM_full {R : Nat → List UInt8} {a : Nat} : ∀ b, (∀ k, k < b + 1 → (R k).length = a) → (textM R (b + 1)).length + 1 = (b + 1) * (a + 1) ∧ (∀ k j, k < b + 1 → j < a → (textM R (b + 1))[k * (a + 1) + j]? = (R k)[j]?) ∧ ∀ k, k < b → (textM R (b + 1))[k * (a + 1) + a]? = some 47
  | 0, hR => by
    have h0 := hR 0 (by omega)
    have e : textM R 1 = R 0 := by simp [textM]
    rw [e]
    refine ⟨by omega, fun k j hk _ => ?_, fun k hk => by omega⟩
    obtain rfl : k = 0 := by omega
    rw [Nat.zero_mul, Nat.zero_add]
  | b + 1, hR => by
    obtain ⟨h1, h2, h3⟩ := textM_full b (fun k hk => hR k (by omega))
    have hb := hR (b + 1) (by omega)
    have e : textM R (b + 2) = textM R (b + 1) ++ [47] ++ R (b + 1) := by
      show (if b + 1 = 0 then [] else textM R (b + 1) ++ [47]) ++ R (b + 1) = _
      rw [if_neg (by omega)]
    rw [e]
    generalize textM R (b + 1) = T at h1 h2 h3
    have hm : (b + 1 + 1) * (a + 1) = (b + 1) * (a + 1) + (a + 1) := Nat.succ_mul _ _
    refine ⟨by simp; omega, fun k j hk hj => ?_, fun k hk => ?_⟩
    · by_cases hkb : k < b + 1
      · have hm2 : (k + 1) * (a + 1) ≤ (b + 1) * (a + 1) := Nat.mul_le_mul_right _ (by omega)
        rw [Nat.succ_mul] at hm2
        rw [List.append_assoc, List.getElem?_append_left (by omega)]
        exact h2 k j hkb hj
      · obtain rfl : k = b + 1 := by omega
        rw [List.getElem?_append_right (by simp; omega)]
        congr 1
        simp
        omega
    · by_cases hkb : k < b
      · have hm2 : (k + 1) * (a + 1) ≤ b * (a + 1) := Nat.mul_le_mul_right _ (by omega)
        have hm3 : (b + 1) * (a + 1) = b * (a + 1) + (a + 1) := Nat.succ_mul _ _
        rw [Nat.succ_mul] at hm2
        rw [List.append_assoc, List.getElem?_append_left (by omega)]
        exact h3 k hkb
      · obtain rfl : k = b := by omega
        have hm3 : (k + 1) * (a + 1) = k * (a + 1) + (a + 1) := Nat.succ_mul _ _
        rw [List.append_assoc, List.getElem?_append_right (by omega)]
        have : k * (a + 1) + a - T.length = 0 := by omega
        rw [this]
        rfl
/-- The mirrored row of a text. -/
def mirR (l : List UInt8) (k : Nat) : List UInt8 := ((splitP l).getD k []).reverse
theorem mirTo_text {l : List UInt8} {W b : Nat} (he : Even l W) (hb : (splitP l).length = b + 1) : mirTo l W (b + 1) = textM (mirR l) (b + 1) := by
  have hlen := even_len he
  have hR : ∀ k, k < b + 1 → (mirR l k).length = W := fun k hk => by
    unfold mirR
    rw [List.length_reverse]
    exact (even_row he (by omega)).1
  obtain ⟨h1, h2, h3⟩ := textM_full b hR
  rw [hb] at hlen
  apply List.ext_getElem?
  intro q
  by_cases hq : q < l.length
  · rw [mirTo_get hq]
    have hdm := Nat.div_add_mod q (W + 1)
    have hml := Nat.mod_lt q (show 0 < W + 1 by omega)
    have hr : q / (W + 1) < b + 1 := Nat.div_lt_of_lt_mul (by rw [Nat.mul_comm]; omega)
    generalize q / (W + 1) = r at hdm hr ⊢
    generalize q % (W + 1) = c at hdm hml ⊢
    rw [Nat.mul_comm] at hdm
    have hrow := even_row he (k := r) (by omega)
    by_cases hc : c < W
    · rw [if_pos ⟨hr, hc⟩, ← hdm, h2 r c hr hc]
      unfold mirR
      rw [List.getElem?_reverse (by rw [hrow.1]; exact hc), hrow.1]
      have ha := even_at he (k := r) (j := W - 1 - c) (by omega) (by omega)
      rw [List.getD_eq_getElem?_getD, ha, List.getElem?_eq_getElem (by rw [hrow.1]; omega)]
      rfl
    · obtain rfl : c = W := by omega
      have hr2 : r < b := by
        have : (r + 1) * (c + 1) < (b + 1) * (c + 1) := by rw [Nat.succ_mul]; omega
        have := Nat.lt_of_mul_lt_mul_right this
        omega
      rw [if_neg (by omega), ← hdm, h3 r hr2, List.getD_eq_getElem?_getD, even_mark he (by omega)]
      rfl
  · rw [List.getElem?_eq_none (by rw [mirTo_len]; omega), List.getElem?_eq_none (by omega)]
end Go.Proofs.YtkknjokacinlaaaGreatDoor
