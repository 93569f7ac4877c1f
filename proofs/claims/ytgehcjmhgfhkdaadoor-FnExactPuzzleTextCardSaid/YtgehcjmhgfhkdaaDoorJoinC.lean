/- strings.Join with a colon. -/
import Derived.Test.YtgehcjmhgfhkdaaDoorJoin
namespace Go.Proofs.YtgehcjmhgfhkdaaDoor
set_option maxRecDepth 100000
set_option linter.all false
open Go.RowKit

/-- Texts with a colon between them. -/
def joinC : List (List UInt8) → List UInt8
  | [] => []
  | x :: xs => x ++ xs.flatMap fun y => 58 :: y
/-- The text behind the first text and k more. -/
def partC (x : List UInt8) (xs : List (List UInt8)) (k : Nat) : List UInt8 := x ++ (xs.take k).flatMap fun y => 58 :: y
theorem partC_zero (x : List UInt8) (xs : List (List UInt8)) : partC x xs 0 = x := by simp [partC]
theorem partC_succ (x : List UInt8) (xs : List (List UInt8)) (k : Nat) (y : List UInt8) (h : xs[k]? = some y) : partC x xs (k + 1) = partC x xs k ++ [58] ++ y := by
  unfold partC
  rw [List.take_add_one, h]
  simp
theorem partC_done (x : List UInt8) (xs : List (List UInt8)) : partC x xs xs.length = joinC (x :: xs) := by simp [partC, joinC]
theorem partC_len (x : List UInt8) (xs : List (List UInt8)) (hx : x.length ≤ 100) (h : ∀ y ∈ xs, y.length ≤ 100) : ∀ k, (partC x xs k).length ≤ 100 + 101 * k
  | 0 => by simp [partC]; omega
  | k + 1 => by
    have ih := partC_len x xs hx h k
    cases hk : xs[k]? with
    | none =>
      have : partC x xs (k + 1) = partC x xs k := by unfold partC; rw [List.take_add_one, hk]; simp
      rw [this]
      omega
    | some y =>
      rw [partC_succ x xs k y hk]
      have := h y (List.mem_of_getElem? hk)
      simp
      omega
set_option maxHeartbeats 3200000 in
theorem joinK (g c : Nat) (xs : List ByteArray) (w : World) (hc : ∀ j x, xs[j]? = some x → w.cell? ⟨g, j, none⟩ = some (.string x)) (hg : g < w.heap.size) (h2 : 2 ≤ xs.length) (h100 : xs.length ≤ 100) (hcap : xs.length ≤ c) (hx : ∀ x ∈ xs, x.size ≤ 100) : Calls Tryd.prog 54 #[.slice (some ⟨g, 0, none⟩) xs.length c, .string ⟨#[58]⟩] w fun e w' => e = .returned (.string ⟨(joinC (xs.map (·.data.toList))).toArray⟩) ∧ Below w.heap.size w w' := by
  have HC := hide hc
  have HX := hide hx
  have hn0 : (((xs.length : Nat) : Int) == 0) = false := by simpa using (show ¬ ((xs.length : Nat) : Int) = 0 by omega)
  have hn1 : (((xs.length : Nat) : Int) == 1) = false := by simpa using (show ¬ ((xs.length : Nat) : Int) = 1 by omega)
  have hq : (1 : Int) < 9223372036854775807 / (((xs.length : Nat) : Int) - 1) := by
    have : (2 : Int) ≤ 9223372036854775807 / (((xs.length : Nat) : Int) - 1) := (Int.le_ediv_iff_mul_le (by omega)).2 (by omega)
    omega
  clear hc hx
  go_enter Tryd.func54, Tryd.ntmps54
  go_upto_region 11 with (fail)
  go_wp2
  go_loop [41, 7, 5] (fun i _ t => ∃ k T : Nat, k ≤ xs.length ∧ i = .int .i64 (k : Int) ∧ t = .int .i64 (T : Int) ∧ T = xs.length - 1 + sizeB (xs.take k)) (fun i _ _ => xs.length - (intOf i).toNat)
  case atStart => exact ⟨0, xs.length - 1, Nat.zero_le _, rfl, by first | rfl | (congr 1; omega), by simp [sizeB]⟩
  case round =>
    obtain ⟨k, T, hk, rfl, rfl, hT⟩ := hrel
    have hTT := sizeB_le xs k HX.out
    have HT := hide hT
    have hT2 : T ≤ 20000 := by omega
    clear hT
    by_cases hlt : k < xs.length
    · have hxk : xs[k]? = some (xs[k]'hlt) := List.getElem?_eq_getElem hlt
      generalize xs[k]'hlt = x at hxk
      have hcell := HC.out k x hxk
      have hsz := HX.out x (List.mem_of_getElem? hxk)
      have HN := hide (sizeB_take xs k x hxk)
      have w1q : IntKind.i64.wrap (9223372036854775807 - (T : Int)) = 9223372036854775807 - (T : Int) := IntWalk.i64_in _ (by omega)
      have w2q : IntKind.i64.wrap ((T : Int) + (x.size : Int)) = (T : Int) + (x.size : Int) := IntWalk.i64_in _ (by omega)
      have hgt : ¬ ((x.size : Int) > 9223372036854775807 - (T : Int)) := by omega
      have hki : (k : Int) < ((xs.length : Nat) : Int) := by omega
      clear hxk
      go_wp2
      go_round
      case rel => exact ⟨k + 1, T + x.size, by omega, by go_num, by go_num, by rw [HN.out, HT.out]; omega⟩
      case measure => simp [intOf] <;> omega
    · obtain rfl : k = xs.length := by omega
      have hx0 : xs[0]? = some (xs[0]'(by omega)) := List.getElem?_eq_getElem (by omega)
      generalize xs[0]'(by omega) = x0 at hx0
      have hs0 := HX.out x0 (List.mem_of_getElem? hx0)
      have HJ := hide (show joinC (xs.map (·.data.toList)) = partC x0.data.toList ((xs.drop 1).map (·.data.toList)) (xs.length - 1) from by
        have e : xs = x0 :: xs.drop 1 := by
          cases xs with
          | nil => simp at h2
          | cons a l =>
            simp at hx0
            simp [hx0]
        have hl : ((xs.drop 1).map (·.data.toList)).length = xs.length - 1 := by simp
        rw [← hl, partC_done]
        conv => lhs; rw [e]
        rfl)
      have HY := hide (show ∀ k, (partC x0.data.toList ((xs.drop 1).map (·.data.toList)) k).length ≤ 100 + 101 * k from partC_len _ _ (by simpa using hs0) (by
        intro y hy
        obtain ⟨z, hz, rfl⟩ := List.mem_map.1 hy
        have := HX.out z (List.mem_of_mem_drop hz)
        simpa using this))
      have HYS := hide (show ∀ (k : Nat) (y : ByteArray), xs[k + 1]? = some y → ((xs.drop 1).map (·.data.toList))[k]? = some y.data.toList from fun k y h => by
        rw [List.getElem?_map, List.getElem?_drop, Nat.add_comm 1 k, h]
        rfl)
      generalize (xs.drop 1).map (·.data.toList) = YS at HJ HY HYS
      have HBK := hide (show (w.alloc (.cells #[.pointer none, .slice none 0 0] 116)).heap[w.heap.size]? = some (.cells #[.pointer none, .slice none 0 0] 116 (0, 0)) from by
        show (w.heap.push _)[w.heap.size]? = _
        simp)
      go_wp2_with fail
      refine (Tryd.Builder_Grow_fresh w.heap.size w.heap.size T _ (Nat.le_refl _) HBK.out (by simp) (by omega)).mono ?_
      rintro e w1 ⟨rfl, P1, b1⟩
      have q1 : Below w.heap.size w w1 := ((Below.refl _ w).alloc (Nat.le_refl _) _).trans b1
      have c0 : w1.cell? ⟨g, 0, none⟩ = some (.string x0) := (q1.cell (p := ⟨g, 0, none⟩) hg).trans (HC.out 0 x0 hx0)
      clear b1
      go_wp2_with fail
      clear c0
      refine (writeStringJ w.heap.size w.heap.size [] x0 w1 P1 (by simp; omega) q1.size).mono ?_
      rintro e w2 ⟨⟨r, rfl⟩, P2, b2⟩
      have q2 := q1.trans b2
      have HP2 := hide (show Lib.BuilderAt 116 5 w.heap.size w.heap.size (.pointer (some ⟨w.heap.size, 0, none⟩)) (Lib.byteCells (partC x0.data.toList YS 0)) w2 from by
        rw [partC_zero, ← strCells_byte]
        exact P2)
      have stq := fun wx => run_tail g xs.length c (by omega) hcap (by omega) wx
      clear P1 P2 b2 q1
      go_wp2
      go_loopw [65, 10] (fun i _ wr => ∃ k : Nat, k ≤ xs.length - 1 ∧ i = .int .i64 (k : Int) ∧ Lib.BuilderAt 116 5 w.heap.size w.heap.size (.pointer (some ⟨w.heap.size, 0, none⟩)) (Lib.byteCells (partC x0.data.toList YS k)) wr ∧ Below w.heap.size w wr) (fun i _ _ => xs.length - 1 - (intOf i).toNat)
      case atStart => exact ⟨0, Nat.zero_le _, rfl, HP2.out, q2⟩
      case round =>
        obtain ⟨k, hk, rfl, P, q⟩ := hrel
        clear HP2 q2
        have hpl := HY.out k
        by_cases hlt : k < xs.length - 1
        · have hxk : xs[k + 1]? = some (xs[k + 1]'(by omega)) := List.getElem?_eq_getElem (by omega)
          generalize xs[k + 1]'(by omega) = y at hxk
          have hsy := HX.out y (List.mem_of_getElem? hxk)
          have HS := hide (partC_succ x0.data.toList YS k y.data.toList (HYS.out k y hxk))
          have hcell : wr.cell? ⟨g, 1 + k, none⟩ = some (.string y) := by
            rw [Nat.add_comm]
            exact (q.cell (p := ⟨g, k + 1, none⟩) hg).trans (HC.out (k + 1) y hxk)
          have hki : (k : Int) < ((xs.length - 1 : Nat) : Int) := by omega
          have hki2 : (k : Int) < ((xs.length : Nat) : Int) - 1 := by omega
          have HP := hide P
          clear P hxk
          go_wp2_with fail
          refine (writeStringJ w.heap.size w.heap.size _ ⟨#[58]⟩ wr HP.out (by rw [Lib.byteCells_length]; show _ + 1 ≤ _; omega) q.size).mono ?_
          rintro e w3 ⟨⟨r3, rfl⟩, P3, b3⟩
          have q3 := q.trans b3
          have HP3 := hide P3
          clear P3 b3
          go_wp2_with fail
          refine (writeStringJ w.heap.size w.heap.size _ y w3 HP3.out (by rw [List.length_append, Lib.byteCells_length, Lib.strCells_length]; show _ + 1 + _ ≤ _; omega) q3.size).mono ?_
          rintro e w4 ⟨⟨r4, rfl⟩, P4, b4⟩
          have q4 := q3.trans b4
          have HP4 := hide (show Lib.BuilderAt 116 5 w.heap.size w.heap.size (.pointer (some ⟨w.heap.size, 0, none⟩)) (Lib.byteCells (partC x0.data.toList YS (k + 1))) w4 from by
            rw [HS.out, byteCells_append, byteCells_append, ← strCells_byte y]
            exact P4)
          clear P4 b4
          go_wp2
          go_roundw
          case rel => exact ⟨k + 1, by omega, by go_num, HP4.out, q4⟩
          case measure => simp [intOf] <;> omega
        · obtain rfl : k = xs.length - 1 := by omega
          have HP := hide P
          clear P
          go_wp2_with fail
          refine (Tryd.Builder_String_any w.heap.size w.heap.size _ wr (.inr HP.out) q.size).mono ?_
          rintro e w5 ⟨rfl, b5⟩
          have q5 := q.trans b5
          go_wp2
          go_returns
          exact ⟨by rw [HJ.out]; rfl, q5⟩
end Go.Proofs.YtgehcjmhgfhkdaaDoor
