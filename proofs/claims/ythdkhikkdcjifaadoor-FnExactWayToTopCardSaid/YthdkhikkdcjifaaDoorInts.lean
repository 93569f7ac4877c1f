/- Rows of integers that a call made: reading, writing, and the statements' own eqIntS, markIntS, heldIntS. -/
import Derived.Test.YthdkhikkdcjifaaDoorOwnK
import Derived.Laws.OwnMore
import Derived.Deep.Cut
import Derived.Deep.CutRange
import Derived.Deep.RegionHeld3
import Derived.StillTailTactics
import Derived.Laws.IdiomStrings
namespace Go.Proofs.YthdkhikkdcjifaaDoor
set_option maxRecDepth 100000
set_option linter.all false
open Go.RowKit

def ints (L : List Int) : List Value := L.map (.int .i64)
theorem ints_len (L : List Int) : (ints L).length = L.length := by simp [ints]
theorem ints_snoc (L : List Int) (x : Int) : ints (L ++ [x]) = ints L ++ [.int .i64 x] := by simp [ints]
theorem info_intI : (Tryd.prog.info? 3).map (fun i => (i.zero, i.size, i.bytes)) = some (some (.int .i64 0), 1, 8) := by kernel_rfl
theorem own_forms {w : World} {base : Nat} {e : TypeId} {size : Nat} {v : Value} {n : Nat} {xs : List Value} (h : w.ownsRow base e size v n xs) :
    (v = .slice none 0 0 ∧ n = 0) ∨ ∃ g cap, v = .slice (some ⟨g, 0, none⟩) n cap ∧ base ≤ g ∧ g < w.heap.size := by
  rcases h.2 with h0 | ⟨g, cap, cur, hv, hb, hg, _⟩
  · exact .inl h0
  · refine .inr ⟨g, cap, hv, hb, ?_⟩
    rcases Nat.lt_or_ge g w.heap.size with hlt | hge
    · exact hlt
    · rw [Array.getElem?_eq_none hge] at hg; cases hg
/-- A cell of the row is written. -/
theorem own_put {w : World} {B z : Nat} {e : TypeId} {g n cap : Nat} {xs : List Value} (h : w.ownsRow B e z (.slice (some ⟨g, 0, none⟩) n cap) n xs) (j : Nat) (hj : j < n * z) (u : Value) : (w.setCell ⟨g, j, none⟩ u).ownsRow B e z (.slice (some ⟨g, 0, none⟩) n cap) n (xs.set j u) := by
  obtain ⟨hl, h2⟩ := h
  rcases h2 with ⟨h0, _⟩ | ⟨g', cap', cur, hv, hb, hg, hn, hm, hs, ht⟩
  · cases h0
  · injection hv with h1 h3 h4
    injection h1 with h1
    injection h1 with h1
    subst h1
    subst h4
    have hjs : j < cur.size := by have := Nat.mul_le_mul_right z hn; omega
    refine ⟨by simpa using hl, .inr ⟨g, cap, cur.set j u hjs, rfl, hb, cells_set hg j hjs u, hn, hm, by simpa using hs, ?_⟩⟩
    rw [← ht, Array.toList_set, List.take_set]
/-- k, k + 1, .. -/
def upTo (k : Int) (n : Nat) : List Int := (List.range n).map (fun (j : Nat) => k + (j : Int))
theorem upTo_len (k : Int) (n : Nat) : (upTo k n).length = n := by simp [upTo]
theorem upTo_get (k : Int) (n j : Nat) (h : j < n) : (upTo k n)[j]? = some (k + (j : Int)) := by
  unfold upTo
  rw [List.getElem?_map, List.getElem?_range h]
  rfl
def markI (k : Int) (L : List Int) (j : Nat) : List Int := upTo k j ++ L.drop j
theorem markI_zero (k : Int) (L : List Int) : markI k L 0 = L := rfl
theorem markI_done (k : Int) (L : List Int) : markI k L L.length = upTo k L.length := by simp [markI]
theorem markI_set (k : Int) (L : List Int) (j : Nat) (h : j < L.length) : (markI k L j).set j (k + (j : Int)) = markI k L (j + 1) := by
  unfold markI
  rw [List.set_append_right j _ (by rw [upTo_len]; exact Nat.le_refl _), upTo_len, Nat.sub_self, List.drop_eq_getElem_cons h]
  unfold upTo
  rw [List.range_succ, List.map_append, List.append_assoc]
  rfl
theorem ints_set (L : List Int) (j : Nat) (x : Int) : (ints L).set j (.int .i64 x) = ints (L.set j x) := by
  simp [ints, List.map_set]
theorem ints_cell {w : World} {B g n cap : Nat} {L : List Int} (h : w.ownsRow B 3 1 (.slice (some ⟨g, 0, none⟩) n cap) n (ints L)) (j : Nat) (x : Int) (hx : L[j]? = some x) : w.cell? ⟨g, j, none⟩ = some (.int .i64 x) := by
  have hl := h.1
  rw [ints_len] at hl
  have hj : j < L.length := (List.getElem?_eq_some_iff.1 hx).1
  rw [h.cellAt j (by omega)]
  simp [ints, hx]

theorem eqIntS_none (w : World) : Calls Tryd.prog 36 #[.slice none 0 0, .slice none 0 0] w fun e w' => e = .returned (.bool true) ∧ Below w.heap.size w w' := by
  go_enter Tryd.func36, Tryd.ntmps36
  go_wp2
  go_loop [5] (fun i => i = .int .i64 0) (fun _ => 0)
  case atStart => rfl
  case round =>
    subst hrel
    go_wp2
    go_returns
    exact ⟨rfl, Below.refl _ _⟩
theorem eqIntS_noneL (g cap : Nat) (w : World) : Calls Tryd.prog 36 #[.slice none 0 0, .slice (some ⟨g, 0, none⟩) 0 cap] w fun e w' => e = .returned (.bool true) ∧ Below w.heap.size w w' := by
  go_enter Tryd.func36, Tryd.ntmps36
  go_wp2
  go_loop [5] (fun i => i = .int .i64 0) (fun _ => 0)
  case atStart => rfl
  case round =>
    subst hrel
    go_wp2
    go_returns
    exact ⟨rfl, Below.refl _ _⟩
theorem eqIntS_noneR (g cap : Nat) (w : World) : Calls Tryd.prog 36 #[.slice (some ⟨g, 0, none⟩) 0 cap, .slice none 0 0] w fun e w' => e = .returned (.bool true) ∧ Below w.heap.size w w' := by
  go_enter Tryd.func36, Tryd.ntmps36
  go_wp2
  go_loop [5] (fun i => i = .int .i64 0) (fun _ => 0)
  case atStart => rfl
  case round =>
    subst hrel
    go_wp2
    go_returns
    exact ⟨rfl, Below.refl _ _⟩
set_option maxHeartbeats 800000 in
theorem eqIntS_some (g cap h c2 n : Nat) (B B2 : Nat) (L : List Int) (w : World) (hn : n ≤ 1000000000) (ha : w.ownsRow B 3 1 (.slice (some ⟨g, 0, none⟩) n cap) n (ints L)) (hb : w.ownsRow B2 3 1 (.slice (some ⟨h, 0, none⟩) n c2) n (ints L)) : Calls Tryd.prog 36 #[.slice (some ⟨g, 0, none⟩) n cap, .slice (some ⟨h, 0, none⟩) n c2] w fun e w' => e = .returned (.bool true) ∧ Below w.heap.size w w' := by
  have hl := ha.1
  rw [ints_len, Nat.mul_one] at hl
  have HA := hide ha
  have HB := hide hb
  have hm : n ≤ 9223372036000000000 := by omega
  clear ha hb hn
  go_enter Tryd.func36, Tryd.ntmps36
  go_wp2
  go_loopw [5] (fun i wr => ∃ k : Nat, k ≤ n ∧ i = .int .i64 (k : Int) ∧ wr.heap = w.heap ∧ Below w.heap.size w wr) (fun i _ => n - (intOf i).toNat)
  case atStart => exact ⟨0, Nat.zero_le _, rfl, rfl, Below.refl _ _⟩
  case round =>
    obtain ⟨k, hk, rfl, hh, q⟩ := hrel
    by_cases hlt : k < n
    · have hx : L[k]? = some (L[k]'(by omega)) := List.getElem?_eq_getElem (by omega)
      generalize L[k]'(by omega) = x at hx
      have c1 : wr.cell? ⟨g, k, none⟩ = some (.int .i64 x) := (World.cell?_of_block (by rw [hh])).trans (ints_cell HA.out k x hx)
      have c2 : wr.cell? ⟨h, k, none⟩ = some (.int .i64 x) := (World.cell?_of_block (by rw [hh])).trans (ints_cell HB.out k x hx)
      have hki : (k : Int) < (n : Int) := by omega
      clear hx
      go_upto_region 6 with (fail)
      go_region_held3 (fun w' => w'.cell? ⟨g, k, none⟩ = some (.int .i64 x) ∧ w'.cell? ⟨h, k, none⟩ = some (.int .i64 x)) (first | (refine ⟨?_, ?_⟩ <;> with_reducible assumption) | (refine ⟨?_, ?_⟩ <;> assumption)) (fail)
      go_wp2
      go_roundw
      case rel => exact ⟨k + 1, by omega, by go_num, hh, q.drew⟩
      case measure => simp [intOf] <;> omega
    · obtain rfl : k = n := by omega
      go_wp2
      go_returns
      exact ⟨rfl, q⟩
theorem eqIntS_any (va vb : Value) (n : Nat) (B B2 : Nat) (L : List Int) (w : World) (hn : n ≤ 1000000000) (ha : w.ownsRow B 3 1 va n (ints L)) (hb : w.ownsRow B2 3 1 vb n (ints L)) : Calls Tryd.prog 36 #[va, vb] w fun e w' => e = .returned (.bool true) ∧ Below w.heap.size w w' := by
  rcases own_forms ha with ⟨rfl, rfl⟩ | ⟨g, cap, rfl, _, _⟩
  · rcases own_forms hb with ⟨rfl, _⟩ | ⟨g, cap, rfl, _, _⟩
    · exact eqIntS_none w
    · exact eqIntS_noneL g cap w
  · rcases own_forms hb with ⟨rfl, rfl⟩ | ⟨g2, cap2, rfl, _, _⟩
    · exact eqIntS_noneR g cap w
    · exact eqIntS_some g cap g2 cap2 n B B2 L w hn ha hb

theorem markIntS_none (k : Int) (w : World) : Calls Tryd.prog 37 #[.slice none 0 0, .int .i64 k] w fun e w' => e = .returned (.int .i64 k) ∧ w = w' := by
  go_enter Tryd.func37, Tryd.ntmps37
  go_wp2
  go_loop [1, 5] (fun x i => x = .int .i64 k ∧ i = .int .i64 0) (fun _ _ => 0)
  case atStart => exact ⟨rfl, rfl⟩
  case round =>
    obtain ⟨rfl, rfl⟩ := hrel
    go_wp2
    go_returns
    exact ⟨rfl, rfl⟩
set_option maxHeartbeats 800000 in
theorem markIntS_some (g cap n : Nat) (B : Nat) (L : List Int) (k0 : Int) (w : World) (hn : n ≤ 1000000000) (hk0 : 0 ≤ k0 ∧ k0 ≤ 1000000) (hB : B ≤ g) (ha : w.ownsRow B 3 1 (.slice (some ⟨g, 0, none⟩) n cap) n (ints L)) : Calls Tryd.prog 37 #[.slice (some ⟨g, 0, none⟩) n cap, .int .i64 k0] w fun e w' => e = .returned (.int .i64 (k0 + (n : Int))) ∧ w'.ownsRow B 3 1 (.slice (some ⟨g, 0, none⟩) n cap) n (ints (upTo k0 n)) ∧ Below B w w' := by
  have hl := ha.1
  rw [ints_len, Nat.mul_one] at hl
  have HA := hide ha
  have hm : n ≤ 9223372036000000000 := by omega
  clear ha hn
  go_enter Tryd.func37, Tryd.ntmps37
  go_wp2
  go_loopw [1, 5] (fun x i wr => ∃ k : Nat, k ≤ n ∧ i = .int .i64 (k : Int) ∧ x = .int .i64 (k0 + (k : Int)) ∧ wr.ownsRow B 3 1 (.slice (some ⟨g, 0, none⟩) n cap) n (ints (markI k0 L k)) ∧ Below B w wr) (fun _ i _ => n - (intOf i).toNat)
  case atStart => exact ⟨0, Nat.zero_le _, rfl, by rw [show k0 + ((0 : Nat) : Int) = k0 from by omega], HA.out, Below.refl _ _⟩
  case round =>
    obtain ⟨k, hk, rfl, rfl, hown, q⟩ := hrel
    clear HA
    by_cases hlt : k < n
    · have hj : k < (markI k0 L k).length := by unfold markI; rw [List.length_append, upTo_len, List.length_drop]; omega
      have hc := ints_cell hown k _ (List.getElem?_eq_getElem hj)
      generalize (markI k0 L k)[k]'hj = x at hc
      have hf := own_free hown k
      have HO := hide (show (wr.setCell ⟨g, k, none⟩ (.int .i64 (k0 + (k : Int)))).ownsRow B 3 1 (.slice (some ⟨g, 0, none⟩) n cap) n (ints (markI k0 L (k + 1))) from by
        have := own_put hown k (by omega) (.int .i64 (k0 + (k : Int)))
        rwa [ints_set, markI_set k0 L k (by omega)] at this)
      have q2 : Below B w (wr.setCell ⟨g, k, none⟩ (.int .i64 (k0 + (k : Int)))) := q.setCell hB _
      have hki : (k : Int) < (n : Int) := by omega
      have w1q : IntKind.i64.wrap (k0 + (k : Int) + 1) = k0 + ((k + 1 : Nat) : Int) := by
        rw [IntWalk.i64_in _ (by omega)]
        omega
      clear hj hown q
      go_wp2
      go_roundw
      case rel => exact ⟨k + 1, by omega, by go_num, rfl, HO.out, q2⟩
      case measure => simp [intOf] <;> omega
    · obtain rfl : k = n := by omega
      have HO := hide hown
      clear hown
      go_wp2
      go_returns
      refine ⟨rfl, ?_, q⟩
      have := HO.out
      subst hl
      rwa [markI_done k0 L] at this
theorem heldIntS_none (k : Int) (w : World) : Calls Tryd.prog 38 #[.slice none 0 0, .int .i64 k] w fun e w' => e = .returned (.int .i64 k) ∧ w = w' := by
  go_enter Tryd.func38, Tryd.ntmps38
  go_wp2
  go_loop [1, 5] (fun x i => x = .int .i64 k ∧ i = .int .i64 0) (fun _ _ => 0)
  case atStart => exact ⟨rfl, rfl⟩
  case round =>
    obtain ⟨rfl, rfl⟩ := hrel
    go_wp2
    go_returns
    exact ⟨rfl, rfl⟩
set_option maxHeartbeats 800000 in
theorem heldIntS_some (g cap n : Nat) (B : Nat) (k0 : Int) (w : World) (hn : n ≤ 1000000000) (hk0 : 0 ≤ k0 ∧ k0 ≤ 1000000) (ha : w.ownsRow B 3 1 (.slice (some ⟨g, 0, none⟩) n cap) n (ints (upTo k0 n))) : Calls Tryd.prog 38 #[.slice (some ⟨g, 0, none⟩) n cap, .int .i64 k0] w fun e w' => e = .returned (.int .i64 (k0 + (n : Int))) ∧ w = w' := by
  have HA := hide ha
  have hm : n ≤ 9223372036000000000 := by omega
  clear ha hn
  go_enter Tryd.func38, Tryd.ntmps38
  go_wp2
  go_loop [1, 5] (fun x i => ∃ k : Nat, k ≤ n ∧ i = .int .i64 (k : Int) ∧ x = .int .i64 (k0 + (k : Int))) (fun _ i => n - (intOf i).toNat)
  case atStart => exact ⟨0, Nat.zero_le _, rfl, by rw [show k0 + ((0 : Nat) : Int) = k0 from by omega]⟩
  case round =>
    obtain ⟨k, hk, rfl, rfl⟩ := hrel
    by_cases hlt : k < n
    · have hc := ints_cell HA.out k _ (upTo_get k0 n k hlt)
      have hki : (k : Int) < (n : Int) := by omega
      have w1q : IntKind.i64.wrap (k0 + (k : Int) + 1) = k0 + ((k + 1 : Nat) : Int) := by
        rw [IntWalk.i64_in _ (by omega)]
        omega
      go_wp2
      go_round
      case rel => exact ⟨k + 1, by omega, by go_num, rfl⟩
      case measure => simp [intOf] <;> omega
    · obtain rfl : k = n := by omega
      go_wp2
      go_returns
      exact ⟨rfl, rfl⟩
theorem markIntS_any (va : Value) (n : Nat) (B : Nat) (L : List Int) (k0 : Int) (w : World) (hn : n ≤ 1000000000) (hk0 : 0 ≤ k0 ∧ k0 ≤ 1000000) (ha : w.ownsRow B 3 1 va n (ints L)) : Calls Tryd.prog 37 #[va, .int .i64 k0] w fun e w' => e = .returned (.int .i64 (k0 + (n : Int))) ∧ w'.ownsRow B 3 1 va n (ints (upTo k0 n)) ∧ Below B w w' := by
  rcases own_forms ha with ⟨rfl, rfl⟩ | ⟨g, cap, rfl, hB, _⟩
  · refine (markIntS_none k0 w).mono ?_
    rintro e w' ⟨rfl, rfl⟩
    exact ⟨by rw [show k0 + ((0 : Nat) : Int) = k0 from by omega], World.ownsRow_nil _ _ _ _, Below.refl _ _⟩
  · exact markIntS_some g cap n B L k0 w hn hk0 hB ha
theorem heldIntS_any (va : Value) (n : Nat) (B : Nat) (k0 : Int) (w : World) (hn : n ≤ 1000000000) (hk0 : 0 ≤ k0 ∧ k0 ≤ 1000000) (ha : w.ownsRow B 3 1 va n (ints (upTo k0 n))) : Calls Tryd.prog 38 #[va, .int .i64 k0] w fun e w' => e = .returned (.int .i64 (k0 + (n : Int))) ∧ w = w' := by
  rcases own_forms ha with ⟨rfl, rfl⟩ | ⟨g, cap, rfl, hB, _⟩
  · refine (heldIntS_none k0 w).mono ?_
    rintro e w' ⟨rfl, rfl⟩
    exact ⟨by rw [show k0 + ((0 : Nat) : Int) = k0 from by omega], rfl⟩
  · exact heldIntS_some g cap n B k0 w hn hk0 ha
end Go.Proofs.YthdkhikkdcjifaaDoor
