/- The model's text of a board: spec.boText. Condition: a grid of at most 7 rows of at most 7 cells. -/
import Derived.Test.YtgehcjmhgfhkdaaDoorTurnB
import Derived.Test.YtgehcjmhgfhkdaaDoorJoin
namespace Go.Proofs.YtgehcjmhgfhkdaaDoor
set_option maxRecDepth 100000
set_option linter.all false
open Go.RowKit

/-- The text of the first rows. -/
def textT (R : Nat → List UInt8) : Nat → List UInt8
  | 0 => []
  | k + 1 => (if k = 0 then [] else textT R k ++ [47]) ++ R k
theorem textT_len {R : Nat → List UInt8} {a b : Nat} (hR : ∀ k, k < b → (R k).length = a) : ∀ k, k ≤ b → (textT R k).length ≤ k * (a + 1)
  | 0, _ => by simp [textT]
  | k + 1, h => by
    have ih := textT_len hR k (by omega)
    have := hR k (by omega)
    rw [textT, Nat.add_mul]
    split <;> simp <;> omega
theorem addr_addT (g p j : Nat) : (⟨g, p, none⟩ : Addr).add j = ⟨g, p + j, none⟩ := by
  unfold Addr.add
  split <;> simp_all
theorem run_row (g n cap p q a : Nat) (hq : q = p + a) (ha : 0 < a) (hqn : q ≤ cap) (wx : World) : (Instr.slice 75 (.slice (some ⟨g, 0, none⟩) n cap) (some (.int .i64 (p : Int))) (some (.int .i64 (q : Int))) none).run Tryd.prog wx = .ok (.slice (some ⟨g, p, none⟩) a (cap - p)) wx := by
  subst hq
  have e1 : ¬ cap = p := by omega
  have e2 : (0 : Int) ≤ (p : Int) + (a : Int) ∧ (p : Int) + (a : Int) ≤ (cap : Int) := by omega
  have e4 : ((p : Int) + (a : Int)).toNat = p + a := by omega
  have e5 : (if p = 0 then (⟨g, 0, none⟩ : Addr) else ⟨g, p, none⟩) = ⟨g, p, none⟩ := by split <;> simp_all
  simp [Instr.slice, run_underlying Tryd.underlying75, Instr.sliceBounds, Instr.sliceBound, asIntOf, go_sem, e1, e2, e4, e5, Addr.add]

set_option maxHeartbeats 3200000 in
theorem boText_any (R : Nat → List UInt8) (a b n g cap : Nat) (ha : 1 ≤ a ∧ a ≤ 7) (hb : 1 ≤ b ∧ b ≤ 7) (hn : n = b * a) (hcap : n ≤ cap) (hR : ∀ k, k < b → (R k).length = a) (w : World) (hg : g < w.heap.size) (hc : ∀ k, k < b → ∀ j c, (R k)[j]? = some c → w.cell? ⟨g, k * a + j, none⟩ = some (.int .u8 (c.toNat : Int))) : Calls Tryd.prog 47 #[gridV a b n g cap] w fun e w' => e = .returned (.string ⟨(textT R b).toArray⟩) ∧ Below w.heap.size w w' := by
  obtain ⟨a1, a7⟩ := ha
  obtain ⟨b1, b7⟩ := hb
  have HC := hide hc
  have HR := hide hR
  have HN := hide hn
  clear hc hR hn
  unfold gridV
  go_enter Tryd.func47, Tryd.ntmps47
  go_wp2
  have G := IsG.new (w := w) (x := (a : Int)) (y := (b : Int)) (v := .slice (some ⟨g, 0, none⟩) n cap)
  obtain ⟨l0, ⟨c0, c1, c2⟩, -⟩ := G.all
  have HB := hide (show Below w.heap.size w (w.alloc (.cells #[.int .i64 (a : Int), .int .i64 (b : Int), .slice (some ⟨g, 0, none⟩) n cap] 77)) from by go_grown)
  have HCC := hide (show ∀ (p : Addr), p.block = g → (w.alloc (.cells #[.int .i64 (a : Int), .int .i64 (b : Int), .slice (some ⟨g, 0, none⟩) n cap] 77)).cell? p = w.cell? p from fun p hp => HB.out.cell (by rw [hp]; exact hg))
  clear G l0
  generalize w.alloc (.cells #[.int .i64 (a : Int), .int .i64 (b : Int), .slice (some ⟨g, 0, none⟩) n cap] 77) = W1 at c0 c1 c2 HB HCC ⊢
  go_loop [3, 4] (fun o yi => ∃ k : Nat, k ≤ b ∧ yi = .int .i64 (k : Int) ∧ o = .string ⟨(textT R k).toArray⟩) (fun _ yi => b - (intOf yi).toNat)
  case atStart => exact ⟨0, Nat.zero_le _, rfl, rfl⟩
  case round =>
    obtain ⟨k, hk, rfl, rfl⟩ := hrel
    by_cases hlt : k < b
    · have hkb : (k : Int) < (b : Int) := by omega
      have hp7 : k * a ≤ 6 * 7 := Nat.mul_le_mul (by omega) a7
      have hq7 : (k + 1) * a ≤ b * a := Nat.mul_le_mul_right a (by omega)
      have hkq : (k + 1) * a = k * a + a := by rw [Nat.add_mul, Nat.one_mul]
      have hqc : (k + 1) * a ≤ cap := by have := HN.out; omega
      have hp2 : (k : Int) * (a : Int) = ((k * a : Nat) : Int) := by simp
      have hp3 : ((k : Int) + 1) * (a : Int) = (((k + 1) * a : Nat) : Int) := by simp
      have HRK := HR.out k hlt
      have HCK := HC.out k hlt
      generalize k * a = p at hp7 hkq hp2 HCK
      generalize (k + 1) * a = q at hq7 hkq hqc hp3
      have hq49 : q ≤ 49 := by omega
      have hsl := run_row g n cap p q a hkq (by omega) hqc
      have hcv : (convert 75 9 (.slice (some ⟨g, p, none⟩) a (cap - p))).run Tryd.prog W1 = .ok (.string ⟨(R k).toArray⟩) W1 := by
        rw [← HRK]
        refine run_convert_bytes_back W1 _ _ 5 _ _ (R k) Tryd.underlying75 Tryd.underlying5 Tryd.underlying9 (fun j hj => ?_)
        rw [addr_addT, HCC.out _ rfl]
        exact HCK j _ (List.getElem?_eq_getElem hj)
      have hlen := textT_len HR.out k hk
      have hlen2 : k * (a + 1) ≤ 6 * 8 := Nat.mul_le_mul (by omega) (by omega)
      have hT48 : (textT R k).length ≤ 48 := by omega
      have HT := hide (show textT R (k + 1) = (if k = 0 then [] else textT R k ++ [47]) ++ R k from rfl)
      have hT0 : k = 0 → textT R k = [] := fun e => by rw [e]; rfl
      have HT0 := hide hT0
      generalize textT R k = T at hT48 HT HT0
      generalize R k = r at HT hcv HRK
      clear hlen hlen2 hkq hq7 HCK hT0
      have hr7 : r.length ≤ 7 := by omega
      rcases Nat.eq_zero_or_pos k with hk0 | hk0
      · have hT : T = [] := HT0.out hk0
        have hk1 : (k : Int) ≤ 0 := by omega
        have hk2 : decide ((0 : Int) < (k : Int)) = false := decide_eq_false (by omega)
        have HT2 := hide (HT.out.trans (show (if k = 0 then [] else T ++ [47]) ++ r = T ++ r from by rw [if_pos hk0, hT]))
        clear HT0 HT hT hk0
        go_wp2
        go_round
        case rel =>
          refine ⟨k + 1, by omega, by go_num, ?_⟩
          rw [HT2.out]
          congr 1
          try (apply ByteArray.ext; simp)
        case measure => simp [intOf] <;> omega
      · have hk1 : (0 : Int) < (k : Int) := by omega
        have HT2 := hide (HT.out.trans (show (if k = 0 then [] else T ++ [47]) ++ r = T ++ [47] ++ r from by rw [if_neg (by omega)]))
        clear HT0 HT hk0
        go_wp2
        go_round
        case rel =>
          refine ⟨k + 1, by omega, by go_num, ?_⟩
          rw [HT2.out]
          congr 1
          try (apply ByteArray.ext; simp)
        case measure => simp [intOf] <;> omega
    · obtain rfl : k = b := by omega
      go_wp2
      go_returns
      exact ⟨rfl, HB.out⟩
end Go.Proofs.YtgehcjmhgfhkdaaDoor
