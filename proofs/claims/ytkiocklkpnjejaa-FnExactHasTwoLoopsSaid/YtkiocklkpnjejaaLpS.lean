/- Digits, counts and what a round of the search for loops keeps. -/
import Derived.Test.YtkiocklkpnjejaaAllI
namespace Go.Proofs.Ytkiocklkpnjejaa
set_option maxRecDepth 100000
set_option linter.all false
open Go.RowKit

/-- k to the power of n. -/
def pwL (k n : Nat) : Int := ((k ^ n : Nat) : Int)
theorem pw_leL : ∀ k ∈ List.range 10, ∀ n ∈ List.range 7, k ^ n ≤ 531441 := by decide
theorem pw_factsL {k n : Nat} (hk : k ≤ 9) (hn : n ≤ 6) : 0 ≤ pwL k n ∧ pwL k n ≤ 531441 := by
  have := pw_leL k (List.mem_range.2 (by omega)) n (List.mem_range.2 (by omega))
  unfold pwL
  omega
theorem pw_succL (k n : Nat) : pwL k n * (k : Int) = pwL k (n + 1) := by
  unfold pwL
  rw [Nat.pow_succ]
  simp
theorem pw_zeroL (k : Nat) : pwL k 0 = 1 := rfl
set_option maxHeartbeats 800000 in
theorem clPower_anyL (k n : Nat) (w : World) (hk : k ≤ 9) (hn : n ≤ 6) : Calls Try.prog 50 #[.int .i64 (k : Int), .int .i64 (n : Int)] w fun e w' => e = .returned (.int .i64 (pwL k n)) ∧ w = w' := by
  go_enter Try.func50, Try.ntmps50
  go_wp2
  go_loop [1, 5] (fun nv o => ∃ i : Nat, i ≤ n ∧ nv = .int .i64 ((n : Int) - (i : Int)) ∧ o = .int .i64 (pwL k i)) (fun nv _ => (intOf nv).toNat)
  case atStart => exact ⟨0, Nat.zero_le _, by simp, rfl⟩
  case round =>
    obtain ⟨i, hi, rfl, rfl⟩ := hrel
    by_cases hlt : i < n
    · obtain ⟨b0, b1⟩ := pw_factsL hk (show i + 1 ≤ 6 from by omega)
      have hm := pw_succL k i
      obtain ⟨a, ha⟩ : ∃ a, a = pwL k i := ⟨_, rfl⟩
      obtain ⟨b, hb⟩ : ∃ b, b = pwL k (i + 1) := ⟨_, rfl⟩
      rw [← ha] at hm ⊢
      rw [← hb] at hm b0 b1
      have HB := hide hb
      clear ha hb
      obtain ⟨y, hy⟩ : ∃ y : Nat, y = n - i := ⟨_, rfl⟩
      have hyi : (n : Int) - (i : Int) = (y : Int) := by omega
      have hy0 : (0 : Int) < (y : Int) := by omega
      have hyz : (y : Int) ≤ 6 := by omega
      have HY := hide hyi
      rw [hyi]
      clear hyi hy
      go_wp2
      go_round
      case rel => exact ⟨i + 1, by omega, by have := HY.out; (try rw [IntWalk.wrap64_in ((y : Int) - 1) (by omega)]); exact congrArg (Value.int .i64) (by omega), by first | exact congrArg (Value.int .i64) HB.out | (rw [IntWalk.wrap64_in b (by omega)]; exact congrArg (Value.int .i64) HB.out)⟩
      case measure =>
        have hw3 := IntWalk.wrap64_in ((y : Int) - 1) (by omega)
        simp [intOf, hw3]
        try omega
    · obtain rfl : i = n := by omega
      have hz : ((i : Int) - (i : Int)) = 0 := by omega
      rw [hz]
      go_wp2
      go_returns
      exact ⟨rfl, rfl⟩

/-- The digits of a code from place p on; zeros ahead of them. -/
def dig (n c p : Nat) : List Int := (List.range n).map fun i => if i < p then 0 else ((c / 3 ^ (n - 1 - i) % 3 : Nat) : Int)
theorem dig_len (n c p : Nat) : (dig n c p).length = n := by simp [dig]
theorem dig_top (n c : Nat) : dig n c n = List.replicate n 0 := by
  apply List.ext_getElem
  · simp [dig]
  · intro i h1 h2
    have : i < n := by simpa [dig] using h1
    simp [dig, this]
theorem dig_zero (n c : Nat) : dig n c 0 = choice n c := by simp [dig, choice]
theorem dig_set (n c j : Nat) (h : j < n) : (dig n c (j + 1)).set j ((c / 3 ^ (n - 1 - j) % 3 : Nat) : Int) = dig n c j := by
  apply List.ext_getElem
  · simp [dig]
  · intro i h1 h2
    rw [List.getElem_set]
    by_cases hij : j = i
    · subst hij
      rw [if_pos rfl]
      simp [dig]
    · rw [if_neg hij]
      simp only [dig, List.getElem_map, List.getElem_range]
      by_cases h3 : i < j
      · rw [if_pos h3, if_pos (by omega)]
      · rw [if_neg h3, if_neg (by omega)]
/-- How often the numbers 1 to n are there, behind a zero. -/
def cntN (n : Nat) (xs : List Int) : List Int := (List.range (n + 1)).map fun (j : Nat) => if j = 0 then 0 else ((xs.count (j : Int) : Nat) : Int)
theorem cntN_len (n : Nat) (xs : List Int) : (cntN n xs).length = n + 1 := by simp [cntN]
theorem cntN_nil (n : Nat) : cntN n [] = List.replicate (n + 1) 0 := by
  apply List.ext_getElem
  · simp [cntN]
  · intro i h1 h2
    simp [cntN]
theorem cntN_get (n : Nat) (xs : List Int) (j : Nat) (h : j ≤ n) (h1 : 1 ≤ j) : (cntN n xs)[j]? = some ((xs.count (j : Int) : Nat) : Int) := by
  unfold cntN
  rw [List.getElem?_map, List.getElem?_range (by omega), Option.map_some, if_neg (by omega)]
theorem cntN_snoc (n : Nat) (xs : List Int) (v : Nat) (h : v ≤ n) (h1 : 1 ≤ v) : (cntN n xs).set v (((xs.count (v : Int) : Nat) : Int) + 1) = cntN n (xs ++ [(v : Int)]) := by
  apply List.ext_getElem
  · simp [cntN]
  · intro i h1 h2
    rw [List.getElem_set]
    by_cases hij : v = i
    · subst hij
      rw [if_pos rfl]
      simp only [cntN, List.getElem_map, List.getElem_range, List.count_append]
      rw [if_neg (by omega)]
      simp
    · rw [if_neg hij]
      simp only [cntN, List.getElem_map, List.getElem_range, List.count_append]
      have : ([(v : Int)] : List Int).count (i : Int) = 0 := by
        rw [List.count_eq_zero]
        simp
        omega
      rw [this]
      simp
theorem cntN_out (n : Nat) (xs : List Int) (x : Int) (h : ¬ (1 ≤ x ∧ x ≤ (n : Int))) : cntN n (xs ++ [x]) = cntN n xs := by
  apply List.ext_getElem
  · simp [cntN]
  · intro i h1 h2
    simp only [cntN, List.getElem_map, List.getElem_range, List.count_append]
    by_cases h0 : i = 0
    · simp [h0]
    · have hi : i < n + 1 := by simpa [cntN] using h2
      have : ([x] : List Int).count (i : Int) = 0 := by
        rw [List.count_eq_zero]
        simp
        omega
      rw [this]
      simp
def inN (n : Nat) (xs : List Int) : Bool := decide (∀ x ∈ xs, 1 ≤ x ∧ x ≤ (n : Int))
theorem inN_snoc (n : Nat) (xs : List Int) (x : Int) : inN n (xs ++ [x]) = (inN n xs && decide (1 ≤ x ∧ x ≤ (n : Int))) := by
  rw [Bool.eq_iff_iff]
  simp only [inN, decide_eq_true_eq, Bool.and_eq_true]
  constructor
  · exact fun h => ⟨fun y hy => h y (List.mem_append_left _ hy), h x (by simp)⟩
  · rintro ⟨h1, h2⟩ y hy
    rcases List.mem_append.1 hy with hy | hy
    · exact h1 y hy
    · simp at hy
      rw [hy]
      exact h2
def gB (n : Nat) (xs : List Int) (i : Nat) : Bool := inN n xs && decide (∀ j : Nat, j < i → xs.count ((j : Int) + 1) = 2)
theorem gB_zero (n : Nat) (xs : List Int) : gB n xs 0 = inN n xs := by simp [gB]
theorem gB_succ (n : Nat) (xs : List Int) (i : Nat) : gB n xs (i + 1) = (gB n xs i && decide (((xs.count ((i + 1 : Nat) : Int) : Nat) : Int) = 2)) := by
  rw [Bool.eq_iff_iff]
  simp only [gB, decide_eq_true_eq, Bool.and_eq_true]
  have e : (((i + 1 : Nat)) : Int) = (i : Int) + 1 := by omega
  rw [e]
  constructor
  · exact fun ⟨h0, h⟩ => ⟨⟨h0, fun j hj => h j (by omega)⟩, by have := h i (by omega); omega⟩
  · rintro ⟨⟨h0, h1⟩, h2⟩
    refine ⟨h0, fun j hj => ?_⟩
    rcases Nat.lt_or_ge j i with h | h
    · exact h1 j h
    · obtain rfl : j = i := by omega
      omega
theorem gB_full (n : Nat) (xs : List Int) : gB n xs n = decide (lpP n xs) := by
  rw [Bool.eq_iff_iff]
  simp only [gB, inN, lpP, decide_eq_true_eq, Bool.and_eq_true]
  exact (decide_eq_true_iff).symm
/-- What a round keeps: the loops so far, its choice, its counts. -/
structure LpI (w : World) (T : Nat) (v : Value) (P : List (List Int)) (gh gk n : Nat) (H K : List Int) (wx : World) : Prop where
  S : SS wx w.heap.size T v P
  H : wx.ownsRow gh 3 1 (.slice (some ⟨gh, 0, none⟩) n n) n (ints H)
  K : wx.ownsRow gk 3 1 (.slice (some ⟨gk, 0, none⟩) (n + 1) (n + 1)) (n + 1) (ints K)
  q : Below w.heap.size w wx
theorem LpI.to {w : World} {T : Nat} {v : Value} {P : List (List Int)} {gh gk n : Nat} {H K : List Int} {wx x w1 : World} (hb : Below x.heap.size x w1) (h : LpI w T v P gh gk n H K wx) (e1 : x.heap = wx.heap) (e2 : x.os = wx.os) (e3 : x.tape = wx.tape) (e4 : x.output = wx.output) : LpI w T v P gh gk n H K w1 :=
  ⟨ss_to hb h.S e1, own_to hb h.H e1, own_to hb h.K e1, below_to hb h.q h.q.size e1 e2 e3 e4⟩
theorem LpI.alloc {w : World} {T : Nat} {v : Value} {P : List (List Int)} {gh gk n : Nat} {H K : List Int} {wx : World} (h : LpI w T v P gh gk n H K wx) (o : Obj) : LpI w T v P gh gk n H K (wx.alloc o) :=
  LpI.to ((Below.refl wx.heap.size wx).alloc (Nat.le_refl _) o) h rfl rfl rfl rfl
theorem LpI.put {w : World} {T : Nat} {v : Value} {P : List (List Int)} {gh gk n : Nat} {H K : List Int} {wx : World} (h : LpI w T v P gh gk n H K wx) (hne : gh ≠ gk) (hT : T ≤ gk) (hB : w.heap.size ≤ gk) (j : Nat) (hj : j < n + 1) (y : Int) : LpI w T v P gh gk n H (K.set j y) (wx.setCell ⟨gk, j, none⟩ (.int .i64 y)) := by
  have hk := (Kept.refl (some gk) wx).set j (.int .i64 y)
  refine ⟨ss_kept hk h.S (fun g _ h2 e => by have : gk = g := Option.some.inj e; omega), ownsRow_setCell_other h.H (a := ⟨gk, j, none⟩) (fun e => hne (by have : gh = gk := Option.some.inj e; exact this)) _, ?_, h.q.trans (hk.below (B := w.heap.size) (fun g e => by have : gk = g := Option.some.inj e; omega))⟩
  have := own_put h.K j (by omega) (.int .i64 y)
  rw [ints_set] at this
  exact this
end Go.Proofs.Ytkiocklkpnjejaa
