/- Powers of the number of colours; the walk of the law of CountKept. -/
import Derived.Test.YtjikpkembcnfnaaDoorWalksFC
namespace Go.Proofs.YtjikpkembcnfnaaDoor
set_option maxRecDepth 100000
set_option linter.all false
open Go.RowKit

/-- k to the power of n. -/
def pw (k n : Nat) : Int := ((k ^ n : Nat) : Int)
theorem pw_le : ∀ k ∈ List.range 10, ∀ n ∈ List.range 7, k ^ n ≤ 531441 := by decide
theorem pw_facts {k n : Nat} (hk : k ≤ 9) (hn : n ≤ 6) : 0 ≤ pw k n ∧ pw k n ≤ 531441 := by
  have := pw_le k (List.mem_range.2 (by omega)) n (List.mem_range.2 (by omega))
  unfold pw
  omega
theorem pw_succ (k n : Nat) : pw k n * (k : Int) = pw k (n + 1) := by
  unfold pw
  rw [Nat.pow_succ]
  simp
theorem pw_zero (k : Nat) : pw k 0 = 1 := rfl
set_option maxHeartbeats 800000 in
theorem clPower_any (k n : Nat) (w : World) (hk : k ≤ 9) (hn : n ≤ 6) : Calls Tryd.prog 39 #[.int .i64 (k : Int), .int .i64 (n : Int)] w fun e w' => e = .returned (.int .i64 (pw k n)) ∧ w = w' := by
  go_enter Tryd.func39, Tryd.ntmps39
  go_wp2
  go_loop [1, 5] (fun nv o => ∃ i : Nat, i ≤ n ∧ nv = .int .i64 ((n : Int) - (i : Int)) ∧ o = .int .i64 (pw k i)) (fun nv _ => (intOf nv).toNat)
  case atStart => exact ⟨0, Nat.zero_le _, by simp, rfl⟩
  case round =>
    obtain ⟨i, hi, rfl, rfl⟩ := hrel
    by_cases hlt : i < n
    · obtain ⟨b0, b1⟩ := pw_facts hk (show i + 1 ≤ 6 from by omega)
      have hm := pw_succ k i
      obtain ⟨a, ha⟩ : ∃ a, a = pw k i := ⟨_, rfl⟩
      obtain ⟨b, hb⟩ : ∃ b, b = pw k (i + 1) := ⟨_, rfl⟩
      rw [← ha] at hm ⊢
      rw [← hb] at hm b0 b1
      have HB := hide hb
      clear ha hb
      obtain ⟨y, hy⟩ : ∃ y : Nat, y = n - i := ⟨_, rfl⟩
      have hyi : (n : Int) - (i : Int) = (y : Int) := by omega
      have hy0 : (0 : Int) < (y : Int) := by omega
      have hyz : (y : Int) ≤ 6 := by omega
      have HY := hide hyi
      rw [hyi]
      clear hyi hy
      go_wp2
      go_round
      case rel => exact ⟨i + 1, by omega, by have := HY.out; (try rw [IntWalk.wrap64_in ((y : Int) - 1) (by omega)]); exact congrArg (Value.int .i64) (by omega), by first | exact congrArg (Value.int .i64) HB.out | (rw [IntWalk.wrap64_in b (by omega)]; exact congrArg (Value.int .i64) HB.out)⟩
      case measure =>
        have hw3 := IntWalk.wrap64_in ((y : Int) - 1) (by omega)
        simp [intOf, hw3]
        try omega
    · obtain rfl : i = n := by omega
      have hz : ((i : Int) - (i : Int)) = 0 := by omega
      rw [hz]
      go_wp2
      go_returns
      exact ⟨rfl, rfl⟩
theorem clColors_any (k : Int) (w : World) : Calls Tryd.prog 36 #[.int .i64 k] w fun e w' => e = .returned (.bool (decide (1 ≤ k ∧ k ≤ 9))) ∧ w = w' := by
  go_enter Tryd.func36, Tryd.ntmps36
  go_wp2_with fail
  refine (l1In_any _ _ _ _).mono ?_
  rintro e w1 ⟨rfl, rfl⟩
  go_wp2
  go_returns
  exact ⟨ret_bool (by simp), rfl⟩
theorem isColors_any (k : Int) (w : World) : Calls Tryd.prog 41 #[.int .i64 k] w fun e w' => e = .returned (.bool (decide (1 ≤ k ∧ k ≤ 9))) ∧ w = w' := by
  by_cases h1 : 1 ≤ k
  · have e : decide (1 ≤ k ∧ k ≤ 9) = decide (k ≤ 9) := by simp [h1]
    rw [e]
    clear e
    go_enter Tryd.func41, Tryd.ntmps41
    go_wp2
    go_returns
    exact ⟨ret_bool (by simp [h1]), rfl⟩
  · have e : decide (1 ≤ k ∧ k ≤ 9) = false := by simp [h1]
    rw [e]
    clear e
    go_enter Tryd.func41, Tryd.ntmps41
    go_wp2
    go_returns
    exact ⟨ret_bool (by simp [h1]), rfl⟩
/-- Block b holds the number of colours that a closure has captured. -/
def IsK (w : World) (b : Nat) (k : Int) : Prop := w.heap[b]? = some (.cells #[.int .i64 k] 3 (0, 0))
theorem IsK.lt {w : World} {b : Nat} {k : Int} (h : IsK w b k) : b < w.heap.size := lt_of_block h
theorem IsK.to {w w0 w1 : World} {b : Nat} {k : Int} (hb : Below w0.heap.size w0 w1) (h : IsK w b k) (e : w0.heap = w.heap) : IsK w1 b k := by
  have hl := h.lt
  unfold IsK at h ⊢
  rw [hb.block b (by rw [e]; exact hl), e]
  exact h
theorem IsK.cell {w : World} {b : Nat} {k : Int} (h : IsK w b k) : w.cell? ⟨b, 0, none⟩ = some (.int .i64 k) := by
  unfold IsK at h
  simp [World.cell?, h]
theorem colorsOnCycles_any (k : Int) (w : World) : Calls Tryd.prog 44 #[.int .i64 k] w fun e w' => ∃ b, e = .returned (.func (.func 74) #[] #[.pointer (some ⟨b, 0, none⟩)]) ∧ IsK w' b k ∧ Below w.heap.size w w' := by
  have hmf : ∀ (fn : Fn) (first cap : Array Value) (w : World), (Instr.makeFunc fn first cap).run Tryd.prog w = .ok (.func fn first cap) w := fun _ _ _ _ => rfl
  go_enter Tryd.func44, Tryd.ntmps44
  go_wp2
  go_returns
  exact ⟨w.heap.size, rfl, by show (w.heap.push _)[w.heap.size]? = _; simp, by go_grown⟩
set_option maxHeartbeats 800000 in
theorem powerK_any (k n : Nat) (b : Nat) (p : Option Addr) (cap : Nat) (w : World) (hk : k ≤ 9) (hn : n ≤ 6) (hb : IsK w b (k : Int)) : Calls Tryd.prog 74 #[.slice p n cap, .pointer (some ⟨b, 0, none⟩)] w fun e w' => e = .returned (.int .i64 (pw k n)) ∧ w = w' := by
  have hc := hb.cell
  have hki : (k : Int) ≤ 9 := by omega
  have hni : (n : Int) ≤ 6 := by omega
  clear hb
  go_enter Tryd.func74, Tryd.ntmps74
  go_wp2
  go_loop [7, 4] (fun iv o => ∃ i : Nat, i ≤ n ∧ iv = .int .i64 (i : Int) ∧ o = .int .i64 (pw k i)) (fun iv _ => n - (intOf iv).toNat)
  case atStart => exact ⟨0, Nat.zero_le _, rfl, rfl⟩
  case round =>
    obtain ⟨i, hi, rfl, rfl⟩ := hrel
    by_cases hlt : i < n
    · obtain ⟨b0, b1⟩ := pw_facts hk (show i + 1 ≤ 6 from by omega)
      have hm := pw_succ k i
      obtain ⟨a, ha⟩ : ∃ a, a = pw k i := ⟨_, rfl⟩
      obtain ⟨z, hz⟩ : ∃ z, z = pw k (i + 1) := ⟨_, rfl⟩
      rw [← ha] at hm ⊢
      rw [← hz] at hm b0 b1
      have HB := hide hz
      clear ha hz
      have hii : (i : Int) < (n : Int) := by omega
      go_wp2
      go_round
      case rel => exact ⟨i + 1, by omega, by go_num, by first | exact congrArg (Value.int .i64) HB.out | (rw [IntWalk.wrap64_in z (by omega)]; exact congrArg (Value.int .i64) HB.out)⟩
      case measure => simp [intOf] <;> omega
    · obtain rfl : i = n := by omega
      go_wp2
      go_returns
      exact ⟨rfl, rfl⟩
/-- What CountKept answers. -/
def ckB (k : Int) (l : List UInt8) : Bool := decide (1 ≤ k ∧ k ≤ 9) && isWord l
def ckV (k : Int) (l : List UInt8) : Int := if ckB k l = true then pw k.toNat (cycL (runC unitD l)).length else 0
end Go.Proofs.YtjikpkembcnfnaaDoor
