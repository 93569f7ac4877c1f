/- The contracts of the program's cells over signs: hasCell, cellAt. -/
import Derived.Test.YtmlfkcmmjmdhmaaDoorCut
namespace Go.Proofs.YtmlfkcmmjmdhmaaDoor
set_option maxRecDepth 100000
set_option linter.all false
open Go.RowKit

/-- Block h holds the rows that are cut out of block g, and this the signs L. -/
def LabAt (w : World) (h g : Nat) (L : List UInt8) (W H : Nat) : Prop := h < w.heap.size ∧ BufAt w g L ∧ ∀ k, k < H → w.cell? ⟨h, k, none⟩ = some (.slice (some ⟨g, k * (W + 1), none⟩) W W)
theorem labAt_to {w w0 w1 : World} {h g : Nat} {L : List UInt8} {W H : Nat} (hb : Below w0.heap.size w0 w1) (hl : LabAt w h g L W H) (e : w0.heap = w.heap) : LabAt w1 h g L W H := by
  obtain ⟨h1, h2, h3⟩ := hl
  have hs := hb.size
  refine ⟨by rw [e] at hs; omega, bufAt_to hb h2 e, fun k hk => ?_⟩
  rw [hb.cell (p := ⟨h, k, none⟩) (by rw [e]; exact h1)]
  have h5 : w0.heap[(⟨h, k, none⟩ : Addr).block]? = w.heap[(⟨h, k, none⟩ : Addr).block]? := by rw [e]
  rw [World.cell?_of_block h5]
  exact h3 k hk
theorem labAt_new {w : World} {B h g cap' : Nat} {L : List UInt8} {W H : Nat} (hb : BufAt w g L) (O : w.ownsRow B 41 1 (.slice (some ⟨h, 0, none⟩) H cap') H (rowsC g W H)) : LabAt w h g L W H := by
  refine ⟨(O.lt h rfl).2, hb, fun k hk => ?_⟩
  have := O.cellAt k (by omega)
  rw [this, rowsC_get g W H k hk]

/-- Is there a cell? -/
def inC (W H : Nat) (x y : Int) : Bool := decide (0 ≤ y ∧ y < (H : Int) ∧ 0 ≤ x ∧ x < (W : Int))
set_option maxHeartbeats 400000 in
theorem hasCellC_any (L : List UInt8) (W H h g cap : Nat) (hW : W ≤ 7) (hH : H ≤ 7) (x y : Int) (w : World) (ha : LabAt w h g L W H) :
    Calls Tryd.prog 39 #[.slice (some ⟨h, 0, none⟩) H cap, .int .i64 x, .int .i64 y] w fun e w' => e = .returned (.bool (inC W H x y)) ∧ w = w' := by
  have HB := hide (show inC W H x y = decide (0 ≤ y ∧ y < (H : Int) ∧ 0 ≤ x ∧ x < (W : Int)) from rfl)
  by_cases h1 : 0 ≤ y
  · obtain ⟨k, rfl⟩ : ∃ k : Nat, y = (k : Int) := ⟨y.toNat, by omega⟩
    by_cases h2 : k < H
    · have ck := ha.2.2 k h2
      have h2i : (k : Int) < (H : Int) := by omega
      clear ha
      by_cases h3 : 0 ≤ x
      · by_cases h4 : x < (W : Int)
        · have HY := hide (show inC W H x k = true from by rw [HB.out]; exact decide_eq_true ⟨h1, h2i, h3, h4⟩)
          go_enter Tryd.func39, Tryd.ntmps39
          go_wp2
          go_returns
          exact ⟨ret_bool HY.out.symm, rfl⟩
        · have HY := hide (show inC W H x k = false from by rw [HB.out]; exact decide_eq_false (fun h => h4 h.2.2.2))
          have h4' : (W : Int) ≤ x := by omega
          have hd : decide (x < (W : Int)) = false := decide_eq_false h4
          clear h4
          go_enter Tryd.func39, Tryd.ntmps39
          go_wp2
          go_returns
          exact ⟨ret_bool HY.out.symm, rfl⟩
      · have HY := hide (show inC W H x k = false from by rw [HB.out]; exact decide_eq_false (fun h => h3 h.2.2.1))
        have h3' : x < 0 := by omega
        clear h3
        go_enter Tryd.func39, Tryd.ntmps39
        go_wp2
        go_returns
        exact ⟨ret_bool HY.out.symm, rfl⟩
    · have HY := hide (show inC W H x k = false from by rw [HB.out]; exact decide_eq_false (fun h => h2 (by omega)))
      have h2' : (H : Int) ≤ (k : Int) := by omega
      clear h2 ha
      go_enter Tryd.func39, Tryd.ntmps39
      go_wp2
      go_returns
      exact ⟨ret_bool HY.out.symm, rfl⟩
  · have HY := hide (show inC W H x y = false from by rw [HB.out]; exact decide_eq_false (fun h => h1 h.1))
    have h1' : y < 0 := by omega
    clear h1 ha
    go_enter Tryd.func39, Tryd.ntmps39
    go_wp2
    go_returns
    exact ⟨ret_bool HY.out.symm, rfl⟩

theorem cellI_outC {L : List UInt8} {W H : Nat} (he : Even L W) (hH : (splitP L).length = H) {x y : Int} (h : inC W H x y = false) : cellI (splitP L) x y = 35 := by
  unfold cellI
  split
  · rename_i hxy
    unfold inC at h
    rw [decide_eq_false_iff_not] at h
    by_cases hy : y.toNat < (splitP L).length
    · have hr := (even_row he hy).1
      rw [List.getD_eq_getElem?_getD (l := (splitP L).getD y.toNat []), List.getElem?_eq_none (by omega)]
      rfl
    · have e : (splitP L).getD y.toNat [] = [] := by simp [List.getD, List.getElem?_eq_none (Nat.not_lt.1 hy)]
      rw [e]
      rfl
  · rfl
set_option maxHeartbeats 800000 in
theorem cellAtC_any (L : List UInt8) (W H h g cap : Nat) (he : Even L W) (hH : (splitP L).length = H) (hW7 : W ≤ 7) (hH7 : H ≤ 7) (x y : Int) (w : World) (ha : LabAt w h g L W H) :
    Calls Tryd.prog 30 #[.slice (some ⟨h, 0, none⟩) H cap, .int .i64 x, .int .i64 y] w fun e w' => e = .returned (.int .u8 ((cellI (splitP L) x y).toNat : Int)) ∧ w = w' := by
  have HH := hide (hasCellC_any L W H h g cap hW7 hH7 x y w ha)
  cases hb : inC W H x y
  · have HB := hide hb
    have HY := hide (cellI_outC he hH hb)
    clear hb ha he hH
    go_enter Tryd.func30, Tryd.ntmps30
    go_wp2_with fail
    refine HH.out.mono ?_
    rintro e w' ⟨rfl, rfl⟩
    rw [HB.out]
    go_wp2
    go_returns
    exact ⟨by rw [HY.out]; rfl, rfl⟩
  · have HB := hide hb
    have hb' := hb
    unfold inC at hb'
    obtain ⟨y0, y1, x0, x1⟩ := of_decide_eq_true hb'
    obtain ⟨k, rfl⟩ : ∃ k : Nat, y = (k : Int) := ⟨y.toNat, by omega⟩
    obtain ⟨j, rfl⟩ : ∃ j : Nat, x = (j : Int) := ⟨x.toNat, by omega⟩
    obtain ⟨hc, -⟩ := even_cell he (k := k) (j := j) (by omega) (by omega)
    obtain ⟨c0, -⟩ := ha.2.1.cell hc
    have ck := ha.2.2 k (by omega)
    have hk7 : k * (W + 1) ≤ 6 * 8 := Nat.mul_le_mul (by omega) (by omega)
    generalize k * (W + 1) = f at c0 ck hk7
    have HHH := hide hH
    have HE := hide he
    clear hc hb hb' y0 x0 ha hH he
    go_enter Tryd.func30, Tryd.ntmps30
    go_wp2_with fail
    refine HH.out.mono ?_
    rintro e w' ⟨rfl, rfl⟩
    rw [HB.out]
    go_wp2
    go_returns
    exact ⟨rfl, rfl⟩

end Go.Proofs.YtmlfkcmmjmdhmaaDoor
