/- Powers of the number of colours; the walk of the law of CountKept. -/
import Derived.Test.YtkiocklkpnjejaaWalksFC
namespace Go.Proofs.Ytkiocklkpnjejaa
set_option maxRecDepth 100000
set_option linter.all false
open Go.RowKit

/-- k to the power of n. -/
def pw (k n : Nat) : Int := ((k ^ n : Nat) : Int)
theorem pw_le : ∀ k ∈ List.range 10, ∀ n ∈ List.range 7, k ^ n ≤ 531441 := by decide
theorem pw_facts {k n : Nat} (hk : k ≤ 9) (hn : n ≤ 6) : 0 ≤ pw k n ∧ pw k n ≤ 531441 := by
  have := pw_le k (List.mem_range.2 (by omega)) n (List.mem_range.2 (by omega))
  unfold pw
  omega
theorem pw_succ (k n : Nat) : pw k n * (k : Int) = pw k (n + 1) := by
  unfold pw
  rw [Nat.pow_succ]
  simp
theorem pw_zero (k : Nat) : pw k 0 = 1 := rfl
set_option maxHeartbeats 800000 in
theorem clPower_any (k n : Nat) (w : World) (hk : k ≤ 9) (hn : n ≤ 6) : Calls Try.prog 50 #[.int .i64 (k : Int), .int .i64 (n : Int)] w fun e w' => e = .returned (.int .i64 (pw k n)) ∧ w = w' := by
  go_enter Try.func50, Try.ntmps50
  go_wp2
  go_loop [1, 5] (fun nv o => ∃ i : Nat, i ≤ n ∧ nv = .int .i64 ((n : Int) - (i : Int)) ∧ o = .int .i64 (pw k i)) (fun nv _ => (intOf nv).toNat)
  case atStart => exact ⟨0, Nat.zero_le _, by simp, rfl⟩
  case round =>
    obtain ⟨i, hi, rfl, rfl⟩ := hrel
    by_cases hlt : i < n
    · obtain ⟨b0, b1⟩ := pw_facts hk (show i + 1 ≤ 6 from by omega)
      have hm := pw_succ k i
      obtain ⟨a, ha⟩ : ∃ a, a = pw k i := ⟨_, rfl⟩
      obtain ⟨b, hb⟩ : ∃ b, b = pw k (i + 1) := ⟨_, rfl⟩
      rw [← ha] at hm ⊢
      rw [← hb] at hm b0 b1
      have HB := hide hb
      clear ha hb
      obtain ⟨y, hy⟩ : ∃ y : Nat, y = n - i := ⟨_, rfl⟩
      have hyi : (n : Int) - (i : Int) = (y : Int) := by omega
      have hy0 : (0 : Int) < (y : Int) := by omega
      have hyz : (y : Int) ≤ 6 := by omega
      have HY := hide hyi
      rw [hyi]
      clear hyi hy
      go_wp2
      go_round
      case rel => exact ⟨i + 1, by omega, by have := HY.out; (try rw [IntWalk.wrap64_in ((y : Int) - 1) (by omega)]); exact congrArg (Value.int .i64) (by omega), by first | exact congrArg (Value.int .i64) HB.out | (rw [IntWalk.wrap64_in b (by omega)]; exact congrArg (Value.int .i64) HB.out)⟩
      case measure =>
        have hw3 := IntWalk.wrap64_in ((y : Int) - 1) (by omega)
        simp [intOf, hw3]
        try omega
    · obtain rfl : i = n := by omega
      have hz : ((i : Int) - (i : Int)) = 0 := by omega
      rw [hz]
      go_wp2
      go_returns
      exact ⟨rfl, rfl⟩
theorem clColors_any (k : Int) (w : World) : Calls Try.prog 48 #[.int .i64 k] w fun e w' => e = .returned (.bool (decide (1 ≤ k ∧ k ≤ 9))) ∧ w = w' := by
  go_enter Try.func48, Try.ntmps48
  go_wp2_with fail
  refine (l1In_any _ _ _ _).mono ?_
  rintro e w1 ⟨rfl, rfl⟩
  go_wp2
  go_returns
  exact ⟨ret_bool (by simp), rfl⟩
theorem isColors_any (k : Int) (w : World) : Calls Try.prog 54 #[.int .i64 k] w fun e w' => e = .returned (.bool (decide (1 ≤ k ∧ k ≤ 9))) ∧ w = w' := by
  by_cases h1 : 1 ≤ k
  · have e : decide (1 ≤ k ∧ k ≤ 9) = decide (k ≤ 9) := by simp [h1]
    rw [e]
    clear e
    go_enter Try.func54, Try.ntmps54
    go_wp2
    go_returns
    exact ⟨ret_bool (by simp [h1]), rfl⟩
  · have e : decide (1 ≤ k ∧ k ≤ 9) = false := by simp [h1]
    rw [e]
    clear e
    go_enter Try.func54, Try.ntmps54
    go_wp2
    go_returns
    exact ⟨ret_bool (by simp [h1]), rfl⟩
/-- Block b holds the number of colours that a closure has captured. -/
def IsK (w : World) (b : Nat) (k : Int) : Prop := w.heap[b]? = some (.cells #[.int .i64 k] 3 (0, 0))
theorem IsK.lt {w : World} {b : Nat} {k : Int} (h : IsK w b k) : b < w.heap.size := lt_of_block h
theorem IsK.to {w w0 w1 : World} {b : Nat} {k : Int} (hb : Below w0.heap.size w0 w1) (h : IsK w b k) (e : w0.heap = w.heap) : IsK w1 b k := by
  have hl := h.lt
  unfold IsK at h ⊢
  rw [hb.block b (by rw [e]; exact hl), e]
  exact h
theorem IsK.cell {w : World} {b : Nat} {k : Int} (h : IsK w b k) : w.cell? ⟨b, 0, none⟩ = some (.int .i64 k) := by
  unfold IsK at h
  simp [World.cell?, h]
theorem colorsOnCycles_any (k : Int) (w : World) : Calls Try.prog 55 #[.int .i64 k] w fun e w' => ∃ b, e = .returned (.func (.func 90) #[] #[.pointer (some ⟨b, 0, none⟩)]) ∧ IsK w' b k ∧ Below w.heap.size w w' := by
  have hmf : ∀ (fn : Fn) (first cap : Array Value) (w : World), (Instr.makeFunc fn first cap).run Try.prog w = .ok (.func fn first cap) w := fun _ _ _ _ => rfl
  go_enter Try.func55, Try.ntmps55
  go_wp2
  go_returns
  exact ⟨w.heap.size, rfl, by show (w.heap.push _)[w.heap.size]? = _; simp, by go_grown⟩
set_option maxHeartbeats 800000 in
theorem powerK_any (k n : Nat) (b : Nat) (p : Option Addr) (cap : Nat) (w : World) (hk : k ≤ 9) (hn : n ≤ 6) (hb : IsK w b (k : Int)) : Calls Try.prog 90 #[.slice p n cap, .pointer (some ⟨b, 0, none⟩)] w fun e w' => e = .returned (.int .i64 (pw k n)) ∧ w = w' := by
  have hc := hb.cell
  have hki : (k : Int) ≤ 9 := by omega
  have hni : (n : Int) ≤ 6 := by omega
  clear hb
  go_enter Try.func90, Try.ntmps90
  go_wp2
  go_loop [7, 4] (fun iv o => ∃ i : Nat, i ≤ n ∧ iv = .int .i64 (i : Int) ∧ o = .int .i64 (pw k i)) (fun iv _ => n - (intOf iv).toNat)
  case atStart => exact ⟨0, Nat.zero_le _, rfl, rfl⟩
  case round =>
    obtain ⟨i, hi, rfl, rfl⟩ := hrel
    by_cases hlt : i < n
    · obtain ⟨b0, b1⟩ := pw_facts hk (show i + 1 ≤ 6 from by omega)
      have hm := pw_succ k i
      obtain ⟨a, ha⟩ : ∃ a, a = pw k i := ⟨_, rfl⟩
      obtain ⟨z, hz⟩ : ∃ z, z = pw k (i + 1) := ⟨_, rfl⟩
      rw [← ha] at hm ⊢
      rw [← hz] at hm b0 b1
      have HB := hide hz
      clear ha hz
      have hii : (i : Int) < (n : Int) := by omega
      go_wp2
      go_round
      case rel => exact ⟨i + 1, by omega, by go_num, by first | exact congrArg (Value.int .i64) HB.out | (rw [IntWalk.wrap64_in z (by omega)]; exact congrArg (Value.int .i64) HB.out)⟩
      case measure => simp [intOf] <;> omega
    · obtain rfl : i = n := by omega
      go_wp2
      go_returns
      exact ⟨rfl, rfl⟩
/-- What CountKept answers. -/
def ckB (k : Int) (l : List UInt8) : Bool := decide (1 ≤ k ∧ k ≤ 9) && isWord l
def ckV (k : Int) (l : List UInt8) : Int := if ckB k l = true then pw k.toNat (cycL (runC unitD l)).length else 0
set_option maxHeartbeats 800000 in
theorem specCK_col (k : Int) (s : ByteArray) (w : World) (hs : s.size ≤ maxLen) (h : decide (1 ≤ k ∧ k ≤ 9) = false) : Calls Try.prog 13 #[.int .i64 k, .string s] w fun e w' => e = .returned (.tuple #[.int .i64 0, .bool false]) ∧ Below w.heap.size w w' := by
  have HG := hide h
  clear h
  go_enter Try.func13, Try.ntmps13
  go_wp2_with fail
  refine (clColors_any _ _).mono ?_
  rintro e w1 ⟨rfl, rfl⟩
  rw [HG.out]
  go_wp2
  go_returns
  exact ⟨rfl, Below.refl _ _⟩
set_option maxHeartbeats 800000 in
theorem specCK_word (k : Int) (s : ByteArray) (w : World) (hs : s.size ≤ maxLen) (h0 : decide (1 ≤ k ∧ k ≤ 9) = true) (h : isWord s.data.toList = false) : Calls Try.prog 13 #[.int .i64 k, .string s] w fun e w' => e = .returned (.tuple #[.int .i64 0, .bool false]) ∧ Below w.heap.size w w' := by
  have HG := hide h
  have HG0 := hide h0
  clear h0
  clear h
  go_enter Try.func13, Try.ntmps13
  go_wp2_with fail
  refine (clColors_any _ _).mono ?_
  rintro e w1 ⟨rfl, rfl⟩
  rw [HG0.out]
  go_wp2_with fail
  refine (diWord_any s _ hs).mono ?_
  rintro e w1 ⟨rfl, rfl⟩
  rw [HG.out]
  go_wp2
  go_returns
  exact ⟨rfl, Below.refl _ _⟩
set_option maxHeartbeats 1600000 in
theorem specCK_yes (k : Nat) (s : ByteArray) (w : World) (hs : s.size ≤ maxLen) (h0 : decide (1 ≤ (k : Int) ∧ (k : Int) ≤ 9) = true) (h : isWord s.data.toList = true) : Calls Try.prog 13 #[.int .i64 (k : Int), .string s] w fun e w' => e = .returned (.tuple #[.int .i64 (pw k (cycL (runC unitD s.data.toList)).length), .bool true]) ∧ Below w.heap.size w w' := by
  have hk9 : k ≤ 9 := by simp at h0; omega
  have HG0 := hide h0
  have HG := hide h
  have HK2 := hide (runC_K h unitD)
  have HW := hide (run_ways s.data.toList)
  have h6 := cycL_le s.data.toList
  obtain ⟨L, hL⟩ : ∃ L, L = cycL (runC unitD s.data.toList) := ⟨_, rfl⟩
  have HL := hide hL
  rw [← hL] at h6 ⊢
  clear h h0 hL
  go_enter Try.func13, Try.ntmps13
  go_wp2_with fail
  refine (clColors_any _ _).mono ?_
  rintro e w1 ⟨rfl, rfl⟩
  rw [HG0.out]
  go_wp2_with fail
  refine (diWord_any s _ hs).mono ?_
  rintro e w1 ⟨rfl, rfl⟩
  rw [HG.out]
  go_wp2_with fail
  refine (diUnit_any _).mono ?_
  rintro e w1 ⟨rfl, q1⟩
  go_wp2_with fail
  refine (diRun_any unitD s _ hs).mono ?_
  rintro e w2 ⟨rfl, hb2⟩
  have q2 := below_to hb2 q1 q1.size rfl rfl rfl rfl
  clear hb2 q1
  rw [← HK2.out]
  go_wp2_with fail
  refine (clCycles_any _ HW.out _).mono ?_
  rintro e w3 ⟨v, rfl, O3, hb3⟩
  have q3 := below_to hb3 q2 q2.size rfl rfl rfl rfl
  rw [← HL.out] at O3
  obtain ⟨p, cap, rfl⟩ : ∃ p cap, v = .slice p L.length cap := by
    rcases own_forms O3 with ⟨rfl, h0⟩ | ⟨g, cap, rfl, _, _⟩
    · exact ⟨none, 0, by rw [h0]⟩
    · exact ⟨_, cap, rfl⟩
  clear hb3 q2 O3
  go_wp2_with fail
  refine (clPower_any k L.length _ hk9 h6).mono ?_
  rintro e w4 ⟨rfl, rfl⟩
  go_wp2
  go_returns
  exact ⟨rfl, q3⟩
set_option maxHeartbeats 800000 in
theorem implCK_word (k : Int) (s : ByteArray) (w : World) (hs : s.size ≤ maxLen) (h : isWord s.data.toList = false) : Calls Try.prog 14 #[.int .i64 k, .string s] w fun e w' => e = .returned (.tuple #[.int .i64 0, .bool false]) ∧ Below w.heap.size w w' := by
  have HG := hide h
  clear h
  have HFC := hide (implFC_any s w hs)
  unfold FcPost at HFC
  rw [HG.out] at HFC
  generalize fcL s.data.toList = F at HFC
  go_enter Try.func14, Try.ntmps14
  go_wp2_with fail
  refine HFC.out.mono ?_
  rintro e w1 ⟨v, rfl, O1, q1⟩
  clear O1 HFC
  go_wp2
  go_returns
  exact ⟨rfl, q1⟩
set_option maxHeartbeats 800000 in
theorem implCK_col (k : Int) (s : ByteArray) (w : World) (hs : s.size ≤ maxLen) (h0 : isWord s.data.toList = true) (h : decide (1 ≤ k ∧ k ≤ 9) = false) : Calls Try.prog 14 #[.int .i64 k, .string s] w fun e w' => e = .returned (.tuple #[.int .i64 0, .bool false]) ∧ Below w.heap.size w w' := by
  have HG := hide h
  have HG0 := hide h0
  clear h0
  clear h
  have HFC := hide (implFC_any s w hs)
  unfold FcPost at HFC
  rw [HG0.out] at HFC
  generalize fcL s.data.toList = F at HFC
  go_enter Try.func14, Try.ntmps14
  go_wp2_with fail
  refine HFC.out.mono ?_
  rintro e w1 ⟨v, rfl, O1, q1⟩
  clear O1 HFC
  go_wp2_with fail
  refine (isColors_any _ _).mono ?_
  rintro e w2 ⟨rfl, rfl⟩
  rw [HG.out]
  go_wp2
  go_returns
  exact ⟨rfl, q1⟩
set_option maxHeartbeats 1600000 in
theorem implCK_yes (k : Nat) (s : ByteArray) (w : World) (hs : s.size ≤ maxLen) (h0 : decide (1 ≤ (k : Int) ∧ (k : Int) ≤ 9) = true) (h : isWord s.data.toList = true) : Calls Try.prog 14 #[.int .i64 (k : Int), .string s] w fun e w' => e = .returned (.tuple #[.int .i64 (pw k (cycL (runC unitD s.data.toList)).length), .bool true]) ∧ Below w.heap.size w w' := by
  have hk9 : k ≤ 9 := by simp at h0; omega
  have HG0 := hide h0
  have h6 := cycL_le s.data.toList
  have HFC := hide (implFC_any s w hs)
  unfold FcPost fcL at HFC
  rw [if_pos h, h] at HFC
  generalize cycL (runC unitD s.data.toList) = L at HFC h6 ⊢
  clear h h0
  go_enter Try.func14, Try.ntmps14
  go_wp2_with fail
  refine HFC.out.mono ?_
  rintro e w1 ⟨v, rfl, O1, q1⟩
  obtain ⟨p, cap, rfl⟩ : ∃ p cap, v = .slice p L.length cap := by
    rcases own_forms O1 with ⟨rfl, h0⟩ | ⟨g, cap, rfl, _, _⟩
    · exact ⟨none, 0, by rw [h0]⟩
    · exact ⟨_, cap, rfl⟩
  clear O1 HFC
  go_wp2_with fail
  refine (isColors_any _ _).mono ?_
  rintro e w2 ⟨rfl, rfl⟩
  rw [HG0.out]
  go_wp2_with fail
  refine (colorsOnCycles_any _ _).mono ?_
  rintro e w2 ⟨b, rfl, hb, hb2⟩
  have q2 := below_to hb2 q1 q1.size rfl rfl rfl rfl
  clear hb2 q1
  go_wp2_with fail
  refine (powerK_any k L.length b p cap _ hk9 h6 hb).mono ?_
  rintro e w3 ⟨rfl, rfl⟩
  go_wp2
  go_returns
  exact ⟨rfl, q2⟩
theorem specCK_any (k : Int) (s : ByteArray) (w : World) (hs : s.size ≤ maxLen) : Calls Try.prog 13 #[.int .i64 k, .string s] w fun e w' => e = .returned (.tuple #[.int .i64 (ckV k s.data.toList), .bool (ckB k s.data.toList)]) ∧ Below w.heap.size w w' := by
  unfold ckV ckB
  cases h1 : decide (1 ≤ k ∧ k ≤ 9) <;> cases h2 : isWord s.data.toList
  · exact specCK_col k s w hs h1
  · exact specCK_col k s w hs h1
  · exact specCK_word k s w hs h1 h2
  · obtain ⟨n, rfl⟩ : ∃ n : Nat, k = (n : Int) := ⟨k.toNat, by simp at h1; omega⟩
    exact specCK_yes n s w hs h1 h2
theorem implCK_any (k : Int) (s : ByteArray) (w : World) (hs : s.size ≤ maxLen) : Calls Try.prog 14 #[.int .i64 k, .string s] w fun e w' => e = .returned (.tuple #[.int .i64 (ckV k s.data.toList), .bool (ckB k s.data.toList)]) ∧ Below w.heap.size w w' := by
  unfold ckV ckB
  cases h1 : decide (1 ≤ k ∧ k ≤ 9) <;> cases h2 : isWord s.data.toList
  · exact implCK_word k s w hs h2
  · exact implCK_col k s w hs h2 h1
  · exact implCK_word k s w hs h2
  · obtain ⟨n, rfl⟩ : ∃ n : Nat, k = (n : Int) := ⟨k.toNat, by simp at h1; omega⟩
    exact implCK_yes n s w hs h1 h2
set_option maxHeartbeats 1600000 in
theorem walk_CountKept (a0 : Int) (ha0 : (Lit.int .i64 a0).wf = true) (v1 : ByteArray) (hv1 : v1.size ≤ maxLen) (w : World) : Calls Try.prog 3 #[.int .i64 a0, .string v1] w fun e w' => e = .returned (.bool true) ∧ Below w.heap.size w w' := by
  by_cases h1 : v1.size ≤ 1048576
  · have HS1 := hide h1
    obtain ⟨z0, hz0⟩ : ∃ z, z = ckV a0 v1.data.toList := ⟨_, rfl⟩
    have HZ0 := hide hz0
    clear hz0
    have e0 : (z0 != z0) = false := by simp
    obtain ⟨z1, hz1⟩ : ∃ z, z = ckB a0 v1.data.toList := ⟨_, rfl⟩
    have HZ1 := hide hz1
    clear hz1
    have e1 : (z1 != z1) = false := by simp
    go_enter Try.func3, Try.ntmps3
    go_wp2_with fail
    refine (specCK_any a0 v1 _ hv1).mono ?_
    rintro e w1 ⟨rfl, hb1⟩
    have q1 : Below w.heap.size w w1 := below_after (by go_grown) hb1 (by simp)
    rw [← HZ0.out, ← HZ1.out]
    clear hb1  
    go_wp2_with fail
    refine (implCK_any a0 v1 _ hv1).mono ?_
    rintro e w2 ⟨rfl, hb2⟩
    have q2 := below_to hb2 q1 q1.size rfl rfl rfl rfl
    rw [← HZ0.out, ← HZ1.out]
    clear hb2 q1 
    go_wp2
    go_returns
    exact ⟨rfl, q2⟩
  · go_enter Try.func3, Try.ntmps3
    go_wp2
    go_returns
    exact ⟨rfl, Below.refl _ _⟩
end Go.Proofs.Ytkiocklkpnjejaa
