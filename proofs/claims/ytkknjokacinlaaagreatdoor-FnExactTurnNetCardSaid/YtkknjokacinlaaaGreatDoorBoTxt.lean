/- The model's text of a grid: spec.boText. Condition: a grid of at most 7 rows of at most 7 cells. -/
import Derived.Test.YtkknjokacinlaaaGreatDoorMir
import Derived.Test.YtkknjokacinlaaaGreatDoorBase
import Derived.Test.YtkknjokacinlaaaGreatDoorWords
import Derived.Deep.Cut
namespace Go.Proofs.YtkknjokacinlaaaGreatDoor
set_option maxRecDepth 100000
set_option linter.all false
open Go.RowKit

theorem textM_len {R : Nat → List UInt8} {a b : Nat} (hR : ∀ k, k < b → (R k).length = a) : ∀ k, k ≤ b → (textM R k).length ≤ k * (a + 1)
  | 0, _ => by simp [textM]
  | k + 1, h => by
    have ih := textM_len hR k (by omega)
    have := hR k (by omega)
    rw [textM, Nat.add_mul]
    split <;> simp <;> omega
theorem boG_cells (w : World) (x y : Int) (v : Value) : (w.alloc (.cells #[.int .i64 x, .int .i64 y, v] 40)).cell? ⟨w.heap.size, 0, none⟩ = some (.int .i64 x) ∧ (w.alloc (.cells #[.int .i64 x, .int .i64 y, v] 40)).cell? ⟨w.heap.size, 1, none⟩ = some (.int .i64 y) ∧ (w.alloc (.cells #[.int .i64 x, .int .i64 y, v] 40)).cell? ⟨w.heap.size, 2, none⟩ = some v := by
  have h : (w.alloc (.cells #[.int .i64 x, .int .i64 y, v] 40)).heap[w.heap.size]? = some (.cells #[.int .i64 x, .int .i64 y, v] 40 (0, 0)) := by
    show (w.heap.push _)[w.heap.size]? = _
    simp
  generalize w.alloc (.cells #[.int .i64 x, .int .i64 y, v] 40) = W1 at h ⊢
  simp [World.cell?, h]
theorem addr_addM (g p j : Nat) : (⟨g, p, none⟩ : Addr).add j = ⟨g, p + j, none⟩ := by
  unfold Addr.add
  split <;> simp_all
theorem run_rowM (g n cap p q a : Nat) (hq : q = p + a) (ha : 0 < a) (hqn : q ≤ cap) (wx : World) : (Instr.slice 25 (.slice (some ⟨g, 0, none⟩) n cap) (some (.int .i64 (p : Int))) (some (.int .i64 (q : Int))) none).run Tryz.prog wx = .ok (.slice (some ⟨g, p, none⟩) a (cap - p)) wx := by
  subst hq
  have e1 : ¬ cap = p := by omega
  have e2 : (0 : Int) ≤ (p : Int) + (a : Int) ∧ (p : Int) + (a : Int) ≤ (cap : Int) := by omega
  have e4 : ((p : Int) + (a : Int)).toNat = p + a := by omega
  have e5 : (if p = 0 then (⟨g, 0, none⟩ : Addr) else ⟨g, p, none⟩) = ⟨g, p, none⟩ := by split <;> simp_all
  simp [Instr.slice, run_underlying Tryz.underlying25, Instr.sliceBounds, Instr.sliceBound, asIntOf, go_sem, e1, e2, e4, e5, Addr.add]

set_option maxHeartbeats 3200000 in
theorem boTextM_any (R : Nat → List UInt8) (a b n g cap : Nat) (ha : 1 ≤ a ∧ a ≤ 7) (hb : 1 ≤ b ∧ b ≤ 7) (hn : n = b * a) (hcap : n ≤ cap) (hR : ∀ k, k < b → (R k).length = a) (w : World) (hg : g < w.heap.size) (hc : ∀ k, k < b → ∀ j c, (R k)[j]? = some c → w.cell? ⟨g, k * a + j, none⟩ = some (.int .u8 (c.toNat : Int))) : Calls Tryz.prog 14 #[.agg #[.int .i64 (a : Int), .int .i64 (b : Int), .slice (some ⟨g, 0, none⟩) n cap]] w fun e w' => e = .returned (.string ⟨(textM R b).toArray⟩) ∧ Below w.heap.size w w' := by
  obtain ⟨a1, a7⟩ := ha
  obtain ⟨b1, b7⟩ := hb
  have HC := hide hc
  have HR := hide hR
  have HN := hide hn
  clear hc hR hn
  go_enter Tryz.func14, Tryz.ntmps14
  go_wp2
  obtain ⟨c0, c1, c2⟩ := boG_cells w (a : Int) (b : Int) (.slice (some ⟨g, 0, none⟩) n cap)
  have HB := hide (show Below w.heap.size w (w.alloc (.cells #[.int .i64 (a : Int), .int .i64 (b : Int), .slice (some ⟨g, 0, none⟩) n cap] 40)) from by go_grown)
  have HCC := hide (show ∀ (p : Addr), p.block = g → (w.alloc (.cells #[.int .i64 (a : Int), .int .i64 (b : Int), .slice (some ⟨g, 0, none⟩) n cap] 40)).cell? p = w.cell? p from fun p hp => HB.out.cell (by rw [hp]; exact hg))
  generalize w.alloc (.cells #[.int .i64 (a : Int), .int .i64 (b : Int), .slice (some ⟨g, 0, none⟩) n cap] 40) = W1 at c0 c1 c2 HB HCC ⊢
  go_loop [3, 4] (fun o yi => ∃ k : Nat, k ≤ b ∧ yi = .int .i64 (k : Int) ∧ o = .string ⟨(textM R k).toArray⟩) (fun _ yi => b - (intOf yi).toNat)
  case atStart => exact ⟨0, Nat.zero_le _, rfl, rfl⟩
  case round =>
    obtain ⟨k, hk, rfl, rfl⟩ := hrel
    by_cases hlt : k < b
    · have hkb : (k : Int) < (b : Int) := by omega
      have hp7 : k * a ≤ 6 * 7 := Nat.mul_le_mul (by omega) a7
      have hq7 : (k + 1) * a ≤ b * a := Nat.mul_le_mul_right a (by omega)
      have hkq : (k + 1) * a = k * a + a := by rw [Nat.add_mul, Nat.one_mul]
      have hqc : (k + 1) * a ≤ cap := by have := HN.out; omega
      have hp2 : (k : Int) * (a : Int) = ((k * a : Nat) : Int) := by simp
      have hp3 : ((k : Int) + 1) * (a : Int) = (((k + 1) * a : Nat) : Int) := by simp
      have HRK := HR.out k hlt
      have HCK := HC.out k hlt
      generalize k * a = p at hp7 hkq hp2 HCK
      generalize (k + 1) * a = q at hq7 hkq hqc hp3
      have hq49 : q ≤ 49 := by omega
      have hsl := run_rowM g n cap p q a hkq (by omega) hqc
      have hcv : (convert 25 9 (.slice (some ⟨g, p, none⟩) a (cap - p))).run Tryz.prog W1 = .ok (.string ⟨(R k).toArray⟩) W1 := by
        rw [← HRK]
        refine run_convert_bytes_back W1 _ _ 5 _ _ (R k) Tryz.underlying25 Tryz.underlying5 Tryz.underlying9 (fun j hj => ?_)
        rw [addr_addM, HCC.out _ rfl]
        exact HCK j _ (List.getElem?_eq_getElem hj)
      have hlen := textM_len HR.out k hk
      have hlen2 : k * (a + 1) ≤ 6 * 8 := Nat.mul_le_mul (by omega) (by omega)
      have hT48 : (textM R k).length ≤ 48 := by omega
      have HT := hide (show textM R (k + 1) = (if k = 0 then [] else textM R k ++ [47]) ++ R k from rfl)
      have hT0 : k = 0 → textM R k = [] := fun e => by rw [e]; rfl
      have HT0 := hide hT0
      generalize textM R k = T at hT48 HT HT0
      generalize R k = r at HT hcv HRK
      clear hlen hlen2 hkq hq7 HCK hT0
      have hr7 : r.length ≤ 7 := by omega
      rcases Nat.eq_zero_or_pos k with hk0 | hk0
      · have hT : T = [] := HT0.out hk0
        have hk1 : (k : Int) ≤ 0 := by omega
        have hk2 : decide ((0 : Int) < (k : Int)) = false := decide_eq_false (by omega)
        have HT2 := hide (HT.out.trans (show (if k = 0 then [] else T ++ [47]) ++ r = T ++ r from by rw [if_pos hk0, hT]))
        clear HT0 HT hT hk0
        go_wp2
        go_round
        case rel =>
          refine ⟨k + 1, by omega, by go_num, ?_⟩
          rw [HT2.out]
          congr 1
          try (apply ByteArray.ext; simp)
        case measure => simp [intOf] <;> omega
      · have hk1 : (0 : Int) < (k : Int) := by omega
        have HT2 := hide (HT.out.trans (show (if k = 0 then [] else T ++ [47]) ++ r = T ++ [47] ++ r from by rw [if_neg (by omega)]))
        clear HT0 HT hk0
        go_wp2
        go_round
        case rel =>
          refine ⟨k + 1, by omega, by go_num, ?_⟩
          rw [HT2.out]
          congr 1
          try (apply ByteArray.ext; simp)
        case measure => simp [intOf] <;> omega
    · obtain rfl : k = b := by omega
      go_wp2
      go_returns
      exact ⟨rfl, HB.out⟩
end Go.Proofs.YtkknjokacinlaaaGreatDoor
