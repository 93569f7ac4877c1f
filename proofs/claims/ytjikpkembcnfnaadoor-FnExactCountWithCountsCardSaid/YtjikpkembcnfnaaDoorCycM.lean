/- Cycles of places: mathematics. No Go in sight. -/
import Derived.Test.YtjikpkembcnfnaaDoorPure
namespace Go.Proofs.YtjikpkembcnfnaaDoor
set_option maxRecDepth 100000
set_option linter.all false

/-- The numbers of a die, from the top on. -/
def fl (d : D) : List Int := [d.t, d.n, d.e, d.s, d.w, d.b]
/-- Where a place leads. -/
def nx (p : D) (j : Nat) : Nat := ((fl p).getD j 0).toNat
/-- One cycle: how many steps until a seen place, and what is seen then. -/
def lenR (f : Nat → Nat) : Nat → List Bool → Nat → Nat × List Bool
  | 0, s, _ => (0, s)
  | k + 1, s, j => if s.getD j true = true then (0, s) else ((lenR f k (s.set j true) (f j)).1 + 1, (lenR f k (s.set j true) (f j)).2)
theorem lenR_seen (f : Nat → Nat) (k : Nat) (s : List Bool) (j : Nat) (h : s.getD j true = true) : lenR f k s j = (0, s) := by
  cases k
  · rfl
  · simp only [lenR]; rw [if_pos h]
theorem lenR_next (f : Nat → Nat) (k : Nat) (s : List Bool) (j : Nat) (h : s.getD j true = false) : lenR f (k + 1) s j = ((lenR f k (s.set j true) (f j)).1 + 1, (lenR f k (s.set j true) (f j)).2) := by
  simp only [lenR]; rw [if_neg (by rw [h]; decide)]
theorem count_set : ∀ (s : List Bool) (j : Nat), s.getD j true = false → (s.set j true).count false + 1 = s.count false
  | [], j, h => by simp at h
  | a :: s, 0, h => by
    simp at h
    subst h
    simp
  | a :: s, j + 1, h => by
    have ih := count_set s j (by simpa using h)
    simp only [List.set_cons_succ, List.count_cons]
    omega
theorem lenR_size (f : Nat → Nat) : ∀ (k : Nat) (s : List Bool) (j : Nat), (lenR f k s j).2.length = s.length
  | 0, _, _ => rfl
  | k + 1, s, j => by
    unfold lenR
    split
    · rfl
    · show (lenR f k (s.set j true) (f j)).2.length = _
      rw [lenR_size f k]
      simp
theorem lenR_le (f : Nat → Nat) : ∀ (k : Nat) (s : List Bool) (j : Nat), (lenR f k s j).1 ≤ k
  | 0, _, _ => Nat.le_refl _
  | k + 1, s, j => by
    unfold lenR
    split
    · exact Nat.zero_le _
    · have := lenR_le f k (s.set j true) (f j)
      show (lenR f k (s.set j true) (f j)).1 + 1 ≤ k + 1
      omega
/-- What is seen behind the first i places, and the lengths of their cycles. -/
def cycR (f : Nat → Nat) : Nat → List Bool × List Int
  | 0 => (List.replicate 6 false, [])
  | i + 1 => ((lenR f 7 (cycR f i).1 i).2, if (lenR f 7 (cycR f i).1 i).1 = 0 then (cycR f i).2 else (cycR f i).2 ++ [((lenR f 7 (cycR f i).1 i).1 : Int)])
theorem cycR_seen (f : Nat → Nat) : ∀ i, (cycR f i).1.length = 6
  | 0 => rfl
  | i + 1 => by
    show (lenR f 7 (cycR f i).1 i).2.length = 6
    rw [lenR_size, cycR_seen f i]
theorem cycR_len (f : Nat → Nat) : ∀ i, (cycR f i).2.length ≤ i
  | 0 => Nat.le_refl _
  | i + 1 => by
    have ih := cycR_len f i
    show (if (lenR f 7 (cycR f i).1 i).1 = 0 then (cycR f i).2 else (cycR f i).2 ++ [((lenR f 7 (cycR f i).1 i).1 : Int)]).length ≤ _
    split
    · omega
    · rw [List.length_append]
      simpa using ih
/-- Behind those not greater. -/
def leadI (x : Int) : List Int → Nat
  | [] => 0
  | y :: ys => if y ≤ x then leadI x ys + 1 else 0
theorem leadI_le (x : Int) : ∀ L, leadI x L ≤ L.length
  | [] => Nat.le_refl _
  | y :: ys => by
    have := leadI_le x ys
    unfold leadI
    split
    · simpa using this
    · exact Nat.zero_le _
theorem leadI_at (x : Int) : ∀ (L : List Int) (k : Nat), k ≤ L.length → (∀ j y, j < k → L[j]? = some y → y ≤ x) → (∀ y, L[k]? = some y → ¬ y ≤ x) → leadI x L = k
  | [], k, hk, _, _ => by
    have : k = 0 := by simpa using hk
    subst this; rfl
  | y :: ys, 0, _, _, h => by
    unfold leadI
    rw [if_neg (h y rfl)]
  | y :: ys, k + 1, hk, h1, h2 => by
    unfold leadI
    rw [if_pos (h1 0 y (by omega) rfl), leadI_at x ys k (by simpa using hk) (fun j z hj hz => h1 (j + 1) z (by omega) (by simpa using hz)) (fun z hz => h2 z (by simpa using hz))]
def insN (L : List Int) (x : Int) : List Int := L.take (leadI x L) ++ x :: L.drop (leadI x L)
theorem insN_len (L : List Int) (x : Int) : (insN L x).length = L.length + 1 := by
  have := leadI_le x L
  unfold insN
  rw [List.length_append, List.length_take, List.length_cons, List.length_drop]
  omega
theorem insN_fold_len : ∀ (L M : List Int), (L.foldl insN M).length = M.length + L.length
  | [], _ => rfl
  | x :: L, M => by
    rw [List.foldl_cons, insN_fold_len L, insN_len, List.length_cons]
    omega
/-- The lengths of the cycles, not falling. -/
def cycL (p : D) : List Int := (cycR (nx p) 6).2.foldl insN []
/-- The twenty-four ways, and their mirrored ones. -/
def wayz : List D := ways ++ ways.map mirrorD
theorem cyc_facts : ∀ p ∈ wayz, (cycL p).Pairwise (fun a b => decide (a ≤ b) = true) ∧ (cycL p).isPerm (cycR (nx p) 6).2 = true ∧ (∀ j ∈ List.range 6, nx p j < 6) ∧ (cycL p).length ≤ 6 ∧ ∀ x ∈ fl p, 0 ≤ x ∧ x ≤ 5 := by decide +kernel
theorem cyc_sorted {p : D} (h : p ∈ wayz) : ((cycR (nx p) 6).2.mergeSort fun x y => decide (x ≤ y)) = cycL p := by
  obtain ⟨h1, h2, -⟩ := cyc_facts p h
  refine List.Perm.eq_of_pairwise (le := fun a b : Int => decide (a ≤ b) = true) (fun a b _ _ h1 h2 => by simp at h1 h2; omega) (List.pairwise_mergeSort (le := fun x y : Int => decide (x ≤ y)) (fun a b c h1 h2 => by simp at h1 h2 ⊢; omega) (fun a b => by simp; omega) _) h1 ?_
  exact (List.mergeSort_perm _ _).trans (List.isPerm_iff.1 h2).symm
theorem run_ways (l : List UInt8) : runC unitD l ∈ wayz := by
  refine List.mem_append_left _ ?_
  have : ∀ (l : List UInt8) (p : D), p ∈ ways → runC p l ∈ ways := by
    intro l
    unfold runC
    induction l with
    | nil => exact fun p hp => hp
    | cons c l ih => exact fun p hp => ih _ (ways_closed' hp _)
  exact this l _ (by decide)
end Go.Proofs.YtjikpkembcnfnaaDoor
