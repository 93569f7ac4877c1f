/- Two loops that are apart: mathematics, and the program's areApart. -/
import Derived.Test.YtkiocklkpnjejaaAlLen
namespace Go.Proofs.Ytkiocklkpnjejaa
set_option maxRecDepth 100000
set_option linter.all false
open Go.RowKit

/-- Do the first n numbers of two rows differ everywhere? -/
def apB (n : Nat) (a b : List Int) : Bool := decide (∀ i : Nat, i < n → a.getD i 0 ≠ b.getD i 0)
theorem apB_zero (a b : List Int) : apB 0 a b = true := decide_eq_true (fun i h => absurd h (Nat.not_lt_zero i))
theorem apB_succ (n : Nat) (a b : List Int) : apB (n + 1) a b = (apB n a b && decide (a.getD n 0 ≠ b.getD n 0)) := by
  rw [Bool.eq_iff_iff]
  simp only [apB, decide_eq_true_eq, Bool.and_eq_true]
  constructor
  · exact fun h => ⟨fun i hi => h i (by omega), h n (by omega)⟩
  · rintro ⟨h1, h2⟩ i hi
    rcases Nat.lt_or_ge i n with h | h
    · exact h1 i h
    · obtain rfl : i = n := by omega
      exact h2
theorem apB_symm (n : Nat) (a b : List Int) : apB n a b = apB n b a := by
  rw [Bool.eq_iff_iff]
  simp only [apB, decide_eq_true_eq]
  exact ⟨fun h i hi e => h i hi e.symm, fun h i hi e => h i hi e.symm⟩
theorem apB_self (n : Nat) (a : List Int) (h : 1 ≤ n) : apB n a a = false := decide_eq_false (fun k => k 0 (by omega) rfl)
theorem apB_stop {n k : Nat} {a b : List Int} (hk : k < n) (h : a.getD k 0 = b.getD k 0) : apB n a b = false := decide_eq_false (fun q => q k hk h)
/-- Are two of the rows apart? -/
def twB2 (n : Nat) (X : List (List Int)) : Bool := decide (∃ a ∈ X, ∃ b ∈ X, apB n a b = true)
theorem two_yes {n : Nat} {X : List (List Int)} {i j : Nat} {a b : List Int} (ha : X[i]? = some a) (hb : X[j]? = some b) (h : apB n a b = true) : twB2 n X = true :=
  decide_eq_true ⟨a, List.mem_of_getElem? ha, b, List.mem_of_getElem? hb, h⟩
theorem two_no {n : Nat} {X : List (List Int)} (h1 : ∀ (i : Nat) (a : List Int), X[i]? = some a → 1 ≤ n) (h : ∀ (i j : Nat) (a b : List Int), i < j → X[i]? = some a → X[j]? = some b → apB n a b = false) : twB2 n X = false := by
  refine decide_eq_false ?_
  rintro ⟨a, ha, b, hb, hab⟩
  obtain ⟨i, hi⟩ := List.mem_iff_getElem?.1 ha
  obtain ⟨j, hj⟩ := List.mem_iff_getElem?.1 hb
  rcases Nat.lt_trichotomy i j with hij | hij | hij
  · rw [h i j a b hij hi hj] at hab; cases hab
  · subst hij
    rw [hi] at hj
    cases hj
    rw [apB_self n a (h1 i a hi)] at hab
    cases hab
  · rw [apB_symm, h j i b a hij hj hi] at hab; cases hab
theorem two_no2 {n : Nat} {X : List (List Int)} (h : ∀ (i j : Nat) (a b : List Int), X[i]? = some a → X[j]? = some b → apB n a b = false) : twB2 n X = false := by
  refine decide_eq_false ?_
  rintro ⟨a, ha, b, hb, hab⟩
  obtain ⟨i, hi⟩ := List.mem_iff_getElem?.1 ha
  obtain ⟨j, hj⟩ := List.mem_iff_getElem?.1 hb
  rw [h i j a b hi hj] at hab; cases hab
theorem loopsK_mem {L : List D} {n c : Nat} {a : List Int} (h : a ∈ loopsK L n c) : a.length = n := by
  unfold loopsK at h
  obtain ⟨k, _, rfl⟩ := List.mem_map.1 h
  exact choice_len n k
/-- What the law asks: two loops are apart. -/
def htB (L : List D) : Bool := twB2 L.length (alL L)
theorem run_hiS (g m cq k : Nat) (hk : k ≤ m) (hm : m ≤ cq) (wx : World) : (Instr.slice 51 (.slice (some ⟨g, 0, none⟩) m cq) (some (.int .i64 (k : Int))) none none).run Try.prog wx = .ok (.slice (some ⟨g, if cq = k then 0 else k, none⟩) (m - k) (cq - k)) wx := by
  have h1 : (0 : Int) ≤ (k : Int) ∧ (k : Int) ≤ (m : Int) := by omega
  by_cases h2 : cq = k
  · subst h2
    simp [Instr.slice, run_underlying Try.underlying51, Instr.sliceBounds, Instr.sliceBound, asIntOf, go_sem, h1]
    intro h
    omega
  · simp [Instr.slice, run_underlying Try.underlying51, Instr.sliceBounds, Instr.sliceBound, asIntOf, go_sem, h1, h2, Addr.add]
    rw [if_pos hk]
    by_cases hz : k = 0
    · subst hz
      simp
    · simp [hz]
set_option maxHeartbeats 1600000 in
theorem areApart_any (ga gb ca cb n Ba Bb : Nat) (a b : List Int) (w : World) (hn : n ≤ 4) (hal : a.length = n) (hbl : b.length = n) (hA : w.ownsRow Ba 3 1 (.slice (some ⟨ga, 0, none⟩) n ca) n (ints a)) (hB : w.ownsRow Bb 3 1 (.slice (some ⟨gb, 0, none⟩) n cb) n (ints b)) : Calls Try.prog 82 #[.slice (some ⟨ga, 0, none⟩) n ca, .slice (some ⟨gb, 0, none⟩) n cb] w fun e w' => e = .returned (.bool (apB n a b)) ∧ Below w.heap.size w w' := by
  have HA := hide hA
  have HB := hide hB
  have HAL := hide hal
  have HBL := hide hbl
  have hni : (n : Int) ≤ 4 := by omega
  clear hA hB hal hbl
  go_enter Try.func82, Try.ntmps82
  go_wp2
  go_loopw [8, 5] (fun iv _ wr => ∃ k : Nat, k ≤ n ∧ iv = .int .i64 (k : Int) ∧ apB k a b = true ∧ Below w.heap.size w wr) (fun iv _ _ => n - (intOf iv).toNat)
  case atStart => exact ⟨0, Nat.zero_le _, rfl, apB_zero a b, Below.refl _ _⟩
  case round =>
    rename World => wr
    obtain ⟨k, hk, rfl, hap, q⟩ := hrel
    by_cases hlt : k < n
    · have hki : (k : Int) < (n : Int) := by omega
      have hxa : a[k]? = some (a.getD k 0) := by
        have : k < a.length := by rw [HAL.out]; exact hlt
        rw [List.getD_eq_getElem?_getD, List.getElem?_eq_getElem this]
        rfl
      have hxb : b[k]? = some (b.getD k 0) := by
        have : k < b.length := by rw [HBL.out]; exact hlt
        rw [List.getD_eq_getElem?_getD, List.getElem?_eq_getElem this]
        rfl
      have c1 := ints_cell (own_to q HA.out rfl) k _ hxa
      have c2 := ints_cell (own_to q HB.out rfl) k _ hxb
      have HNE := hide (apB_succ k a b)
      have HST := hide (fun h => apB_stop (n := n) (a := a) (b := b) hlt h)
      have HAP := hide hap
      have HQ := hide q
      clear hxa hxb hap q
      generalize a.getD k 0 = x at c1 HNE HST
      generalize b.getD k 0 = y at c2 HNE HST
      go_upto_region 4 with (fail)
      go_region_held3 (fun w' => w'.cell? ⟨ga, k, none⟩ = some (.int .i64 x) ∧ w'.cell? ⟨gb, k, none⟩ = some (.int .i64 y)) (first | (refine ⟨?_, ?_⟩ <;> with_reducible assumption) | (refine ⟨?_, ?_⟩ <;> assumption)) (fail)
      by_cases hxy : x = y
      · have HF := hide (HST.out hxy)
        subst hxy
        go_wp2
        go_returns
        exact ⟨ret_bool HF.out.symm, HQ.out.drew⟩
      · have HT := hide (show apB (k + 1) a b = true from by rw [HNE.out, HAP.out, decide_eq_true (show x ≠ y from hxy)]; rfl)
        have hd : (x == y) = false := by simp [hxy]
        go_wp2
        go_roundw
        case rel => exact ⟨k + 1, by omega, by go_num, HT.out, HQ.out.drew⟩
        case measure => simp [intOf] <;> omega
    · obtain rfl : k = n := by omega
      have HAP := hide hap
      clear hap
      go_wp2
      go_returns
      exact ⟨ret_bool HAP.out.symm, q⟩
end Go.Proofs.Ytkiocklkpnjejaa
