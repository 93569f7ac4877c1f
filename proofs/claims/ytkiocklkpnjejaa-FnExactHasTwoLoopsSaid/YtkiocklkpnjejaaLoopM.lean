/- Loops of towers: mathematics. No Go in sight but the rows of integers. -/
import Derived.Test.YtkiocklkpnjejaaCycM
import Derived.Test.YtkiocklkpnjejaaWalksPP
import Derived.Test.YtkiocklkpnjejaaWalksCO
import Derived.Test.YtkiocklkpnjejaaArr
namespace Go.Proofs.Ytkiocklkpnjejaa
set_option maxRecDepth 100000
set_option linter.all false

/-- The pairs that a code chooses, one for each die: its digits to the base of three. -/
def choice (n c : Nat) : List Int := (List.range n).map (fun i => ((c / 3 ^ (n - 1 - i) % 3 : Nat) : Int))
theorem choice_len (n c : Nat) : (choice n c).length = n := by simp [choice]
theorem choice_get (n c i : Nat) (h : i < n) : (choice n c)[i]? = some ((c / 3 ^ (n - 1 - i) % 3 : Nat) : Int) := by
  unfold choice
  rw [List.getElem?_map, List.getElem?_range h]
  rfl
/-- The next choice: the last place that can go on does so, those behind it begin anew. -/
def nxt : List Int → Nat → Bool × List Int
  | X, 0 => (false, X)
  | X, p + 1 => if X.getD p 0 + 1 < 3 then (true, X.set p (X.getD p 0 + 1)) else nxt (X.set p 0) p
theorem nxt_choice : ∀ n ∈ List.range 5, ∀ c ∈ List.range (3 ^ n), 1 ≤ n → nxt (choice n c) n = (decide (c + 1 < 3 ^ n), choice n (c + 1)) := by decide +kernel
theorem nxt_len : ∀ (p : Nat) (X : List Int), (nxt X p).2.length = X.length
  | 0, _ => rfl
  | p + 1, X => by
    unfold nxt
    split
    · simp
    · rw [nxt_len p, List.length_set]
/-- The number of a choice. -/
def codeL (X : List Int) : Nat := X.foldl (fun a x => a * 3 + x.toNat) 0
theorem code_choice : ∀ n ∈ List.range 5, ∀ c ∈ List.range (3 ^ n), codeL (choice n c) = c := by decide +kernel
theorem choice_zero : ∀ n ∈ List.range 5, choice n 0 = List.replicate n 0 := by decide +kernel
/-- The pair of a die that a choice tells. -/
def pk (d : D) (x : Int) : List Int := (pairsL d).getD x.toNat []
/-- The numbers of the pairs of the first k dice. -/
def numK (L : List D) (ch : List Int) : Nat → List Int
  | 0 => []
  | k + 1 => numK L ch k ++ pk (L.getD k ⟨0, 0, 0, 0, 0, 0⟩) (ch.getD k 0)
theorem pk_len (d : D) (x : Int) (h : 0 ≤ x ∧ x < 3) : (pk d x).length = 2 := by
  unfold pk
  have h3 : x.toNat < 3 := by omega
  generalize x.toNat = j at h3
  match j, h3 with
  | 0, _ => exact pr_len _ _
  | 1, _ => exact pr_len _ _
  | 2, _ => exact pr_len _ _
theorem choice_digit (n c k : Nat) : 0 ≤ (choice n c).getD k 0 ∧ (choice n c).getD k 0 < 3 := by
  by_cases h : k < n
  · rw [List.getD_eq_getElem?_getD, choice_get n c k h]
    simp only [Option.getD_some]
    omega
  · rw [List.getD_eq_getElem?_getD, List.getElem?_eq_none (by rw [choice_len]; omega)]
    simp
theorem numK_len (L : List D) (n c : Nat) : ∀ k, (numK L (choice n c) k).length = 2 * k
  | 0 => rfl
  | k + 1 => by
    unfold numK
    rw [List.length_append, numK_len L n c k, pk_len _ _ (choice_digit n c k)]
    omega
def lpP (n : Nat) (xs : List Int) : Prop := (∀ x ∈ xs, 1 ≤ x ∧ x ≤ (n : Int)) ∧ ∀ i : Nat, i < n → xs.count ((i : Int) + 1) = 2
instance (n : Nat) (xs : List Int) : Decidable (lpP n xs) := by unfold lpP; infer_instance
/-- Is the choice of a code a loop? -/
def lpB (L : List D) (n c : Nat) : Bool := decide (lpP n (numK L (choice n c) n))
theorem lp_cnt {n : Nat} {xs : List Int} (hn : n ≤ 9) (hx : ∀ x ∈ xs, 0 ≤ x ∧ x ≤ 9) : decide (cntU xs = eachU n 2) = decide (lpP n xs) := by
  rw [decide_eq_decide]
  unfold lpP
  constructor
  · intro h
    have hc : ∀ j : Nat, j < 10 → ((xs.count (j : Int) : Nat) : Int) = if 1 ≤ j ∧ j ≤ n then 2 else 0 := by
      intro j hj
      have h1 := cntU_get xs j hj
      rw [h, eachU_get n 2 j hj] at h1
      exact (Option.some.inj h1).symm
    constructor
    · intro x hm
      obtain ⟨h0, h9⟩ := hx x hm
      obtain ⟨j, rfl⟩ := Int.eq_ofNat_of_zero_le h0
      have h1 := hc j (by omega)
      have h2 : 0 < xs.count (j : Int) := List.count_pos_iff.2 hm
      by_cases hj : 1 ≤ j ∧ j ≤ n
      · omega
      · rw [if_neg hj] at h1
        omega
    · intro i hi
      have h1 := hc (i + 1) (by omega)
      rw [if_pos (by omega)] at h1
      have e : ((i : Int) + 1) = ((i + 1 : Nat) : Int) := by omega
      rw [e]
      omega
  · rintro ⟨hin, hc⟩
    apply List.ext_getElem?
    intro j
    by_cases hj : j < 10
    · rw [cntU_get xs j hj, eachU_get n 2 j hj]
      congr 1
      by_cases h1 : 1 ≤ j ∧ j ≤ n
      · rw [if_pos h1]
        have h2 := hc (j - 1) (by omega)
        have e : (((j - 1 : Nat) : Int) + 1) = (j : Int) := by omega
        rw [e] at h2
        omega
      · rw [if_neg h1]
        have : (j : Int) ∉ xs := fun hm => by
          have := hin _ hm
          omega
        rw [List.count_eq_zero_of_not_mem this]
        rfl
    · rw [List.getElem?_eq_none (by rw [cntU_len]; omega), List.getElem?_eq_none (by rw [eachU_len]; omega)]
theorem pairs_good {d : D} (h : goodB d = true) : ∀ l ∈ pairsL d, ∀ x ∈ l, 0 ≤ x ∧ x ≤ 9 := by
  simp only [goodB, decide_eq_true_eq] at h
  intro l hl x hx
  simp only [pairsL, List.mem_cons, List.not_mem_nil, or_false] at hl
  rcases hl with rfl | rfl | rfl <;>
  · unfold pr at hx
    split at hx <;> (simp only [List.mem_cons, List.not_mem_nil, or_false] at hx; rcases hx with rfl | rfl <;> omega)
theorem pk_good {d : D} (h : goodB d = true) (x : Int) : ∀ y ∈ pk d x, 0 ≤ y ∧ y ≤ 9 := by
  intro y hy
  unfold pk at hy
  rw [List.getD_eq_getElem?_getD] at hy
  cases hq : (pairsL d)[x.toNat]? with
  | none => rw [hq] at hy; simp at hy
  | some l =>
    rw [hq] at hy
    exact pairs_good h l (List.mem_of_getElem? hq) y hy
theorem numK_good {L : List D} (hg : ∀ (i : Nat) (d : D), L[i]? = some d → goodB d = true) (ch : List Int) : ∀ k, k ≤ L.length → ∀ y ∈ numK L ch k, 0 ≤ y ∧ y ≤ 9
  | 0, _, y, hy => by simp [numK] at hy
  | k + 1, hk, y, hy => by
    unfold numK at hy
    rcases List.mem_append.1 hy with hy | hy
    · exact numK_good hg ch k (by omega) y hy
    · refine pk_good ?_ _ y hy
      have hl : L[k]? = some (L[k]'(by omega)) := List.getElem?_eq_getElem (by omega)
      rw [List.getD_eq_getElem?_getD, hl]
      exact hg k _ hl
/-- The loops among the first c codes. -/
def loopsK (L : List D) (n c : Nat) : List (List Int) := ((List.range c).filter (lpB L n)).map (choice n)
theorem loopsK_succ (L : List D) (n c : Nat) : loopsK L n (c + 1) = loopsK L n c ++ (if lpB L n c = true then [choice n c] else []) := by
  unfold loopsK
  rw [List.range_succ, List.filter_append, List.map_append]
  congr 1
  by_cases h : lpB L n c = true
  · rw [if_pos h]; simp [h]
  · rw [if_neg h]; simp [h]
theorem loopsK_len (L : List D) (n : Nat) : ∀ c, (loopsK L n c).length ≤ c
  | 0 => by simp [loopsK]
  | c + 1 => by
    have := loopsK_len L n c
    rw [loopsK_succ, List.length_append]
    split <;> simp <;> omega
theorem loopsK_sum (L : List D) (n : Nat) : ∀ c, sumL (loopsK L n c) ≤ c * n
  | 0 => by simp [loopsK, sumL]
  | c + 1 => by
    have := loopsK_sum L n c
    rw [loopsK_succ, sumL_append, Nat.add_mul]
    split
    · simp [sumL, choice_len]; omega
    · simp [sumL]; omega
end Go.Proofs.Ytkiocklkpnjejaa
