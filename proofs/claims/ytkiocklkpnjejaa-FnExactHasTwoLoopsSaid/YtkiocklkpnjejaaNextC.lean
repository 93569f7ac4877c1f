/- The contracts of nextChoice and of slices.Repeat of one number. -/
import Derived.Test.YtkiocklkpnjejaaLoopM
import Derived.Test.YtkiocklkpnjejaaSS
import Derived.Test.YtkiocklkpnjejaaShelf
import Derived.Deep.RegionHeld3
namespace Go.Proofs.Ytkiocklkpnjejaa
set_option maxRecDepth 100000
set_option linter.all false
open Go.RowKit

theorem kept_drew {o : Option Nat} {w w1 : World} (h : Kept o w w1) : Kept o w w1.drew := ⟨h.os, h.tape, h.output, h.size, h.block⟩
set_option maxHeartbeats 1600000 in
theorem nextChoice_any (gc cc gs cs n : Nat) (B Bs : Nat) (ch : List Int) (w : World) (hn : ch.length = n) (h4 : n ≤ 4) (hlo : ∀ x ∈ ch, 0 ≤ x ∧ x ≤ 3) (hC : w.ownsRow B 3 1 (.slice (some ⟨gc, 0, none⟩) n cc) n (ints ch)) (hS : w.ownsRow Bs 3 1 (.slice (some ⟨gs, 0, none⟩) n cs) n (ints (List.replicate n 3))) (hne : gs ≠ gc) :
    Calls Try.prog 80 #[.slice (some ⟨gc, 0, none⟩) n cc, .slice (some ⟨gs, 0, none⟩) n cs, .int .i64 ((n : Int) - 1)] w fun e w' => e = .returned (.bool (nxt ch n).1) ∧ w'.ownsRow B 3 1 (.slice (some ⟨gc, 0, none⟩) n cc) n (ints (nxt ch n).2) ∧ Kept (some gc) w w' := by
  have HC := hide hC
  have HS := hide hS
  have HLO := hide hlo
  have HCN := hide hn
  have h4i : (n : Int) ≤ 4 := by omega
  clear hC hS hn hlo
  obtain ⟨R, hR⟩ : ∃ R, R = nxt ch n := ⟨_, rfl⟩
  have HR := hide hR
  rw [← hR]
  clear hR
  go_enter Try.func80, Try.ntmps80
  go_wp2
  go_loopw [2] (fun pv wr => ∃ (p : Nat) (X : List Int), p ≤ n ∧ pv = .int .i64 ((p : Int) - 1) ∧ X.length = n ∧ (∀ x ∈ X, 0 ≤ x ∧ x ≤ 3) ∧ nxt X p = R ∧ wr.ownsRow B 3 1 (.slice (some ⟨gc, 0, none⟩) n cc) n (ints X) ∧ wr.ownsRow Bs 3 1 (.slice (some ⟨gs, 0, none⟩) n cs) n (ints (List.replicate n 3)) ∧ Kept (some gc) w wr) (fun pv _ => (intOf pv + 1).toNat)
  case atStart => exact ⟨n, ch, Nat.le_refl _, rfl, HCN.out, HLO.out, HR.out.symm, HC.out, HS.out, Kept.refl _ _⟩
  case round =>
    obtain ⟨p, X, hp, rfl, hXl, hX, hXR, C, S, q⟩ := hrel
    clear HC HS HLO HCN
    by_cases hp0 : 0 < p
    · obtain ⟨j, rfl⟩ : ∃ j, p = j + 1 := ⟨p - 1, by omega⟩
      have hpi : (((j + 1 : Nat) : Int) - 1) = (j : Int) := by omega
      rw [hpi]
      have hjn : (j : Int) < (n : Int) := by omega
      have hj0 : (0 : Int) ≤ (j : Int) := by omega
      have hXj : X[j]? = some (X.getD j 0) := by
        have : j < X.length := by omega
        rw [List.getD_eq_getElem?_getD, List.getElem?_eq_getElem this]
        rfl
      have hxb := hX _ (List.mem_of_getElem? hXj)
      unfold nxt at hXR
      have cX := ints_cell C j _ hXj
      have fX := own_free C j
      have cS := ints_cell S j 3 (by rw [List.getElem?_replicate, if_pos (by omega)])
      generalize X.getD j 0 = x at hXj hxb hXR cX
      have HC1 := hide (own_put C j (by omega) (.int .i64 (x + 1)))
      rw [ints_set] at HC1
      have HS1 := hide (ownsRow_setCell_other S (a := ⟨gc, j, none⟩) (fun h => hne (by have : gs = gc := Option.some.inj h; exact this)) (.int .i64 (x + 1)))
      have HQ1 := hide (q.set j (.int .i64 (x + 1)))
      have hXs : ∀ y, 0 ≤ y ∧ y ≤ 3 → ∀ z ∈ X.set j y, 0 ≤ z ∧ z ≤ 3 := fun y hy z hz => by
        rcases List.mem_or_eq_of_mem_set hz with h | h
        · exact hX z h
        · rw [h]; exact hy
      have HXS := hide hXs
      clear S q hX hXs
      go_upto_region 4 with (fail)
      clear cX fX
      generalize wr.setCell ⟨gc, j, none⟩ (.int .i64 (x + 1)) = W1 at HC1 HS1 HQ1 ⊢
      have c1 := ints_cell HC1.out j (x + 1) (by rw [List.getElem?_set, if_pos rfl, if_pos (by omega)])
      have c2 := ints_cell HS1.out j 3 (by rw [List.getElem?_replicate, if_pos (by omega)])
      clear cS
      by_cases hlt : x + 1 < 3
      · rw [if_pos hlt] at hXR
        have HXR := hide hXR
        clear hXR C
        go_region_held3 (fun w' => w'.cell? ⟨gc, j, none⟩ = some (.int .i64 (x + 1)) ∧ w'.cell? ⟨gs, j, none⟩ = some (.int .i64 3)) (first | (refine ⟨?_, ?_⟩ <;> with_reducible assumption) | (refine ⟨?_, ?_⟩ <;> assumption)) (fail)
        go_wp2
        go_returns
        exact ⟨by rw [← HXR.out]; rfl, by rw [← HXR.out]; exact HC1.out, kept_drew HQ1.out⟩
      · rw [if_neg hlt] at hXR
        have HXR := hide hXR
        have HC2 := hide (own_put HC1.out j (by omega) (.int .i64 0))
        rw [ints_set, List.set_set] at HC2
        have HS2 := hide (ownsRow_setCell_other HS1.out (a := ⟨gc, j, none⟩) (fun h => hne (by have : gs = gc := Option.some.inj h; exact this)) (.int .i64 0))
        have HQ2 := hide (HQ1.out.set j (.int .i64 0))
        have fX2 := own_free HC1.out j
        clear hXR C
        go_region_held3 (fun w' => w'.cell? ⟨gc, j, none⟩ = some (.int .i64 (x + 1)) ∧ w'.cell? ⟨gs, j, none⟩ = some (.int .i64 3)) (first | (refine ⟨?_, ?_⟩ <;> with_reducible assumption) | (refine ⟨?_, ?_⟩ <;> assumption)) (fail)
        go_wp2
        go_roundw
        case rel => exact ⟨j, X.set j 0, by omega, by first | rfl | (rw [IntWalk.wrap64_in ((j : Int) - 1) (by omega)]), by rw [List.length_set]; exact hXl, HXS.out 0 (by omega), HXR.out, HC2.out, HS2.out, kept_drew HQ2.out⟩
        case measure =>
          have hw3 := IntWalk.wrap64_in ((j : Int) - 1) (by omega)
          simp [intOf, hw3]
          try omega
    · obtain rfl : p = 0 := by omega
      have hz : (((0 : Nat) : Int) - 1) = -1 := rfl
      rw [hz]
      have HXR := hide (show (false, X) = R from hXR)
      have HC := hide C
      clear hXR C S hX
      go_wp2
      go_returns
      exact ⟨by rw [← HXR.out]; rfl, by rw [← HXR.out]; exact HC.out, q⟩
end Go.Proofs.Ytkiocklkpnjejaa
