/- One of the first numbers of a row: l1Has; lists without doubles. -/
import Derived.Test.YtkiocklkpnjejaaBase
namespace Go.Proofs.Ytkiocklkpnjejaa
set_option maxRecDepth 100000
set_option linter.all false
open Go.RowKit

theorem nodup_leC {α : Type} [DecidableEq α] : ∀ (l m : List α), l.Nodup → (∀ x ∈ l, x ∈ m) → l.length ≤ m.length
  | [], _, _, _ => by simp
  | a :: l, m, hn, hs => by
    obtain ⟨h1, h2⟩ := List.nodup_cons.1 hn
    have ha := hs a (by simp)
    have := nodup_leC l (m.erase a) h2 (fun x hx => (List.mem_erase_of_ne (fun e : x = a => h1 (by rw [← e]; exact hx))).2 (hs x (by simp [hx])))
    rw [List.length_erase_of_mem ha] at this
    have hp : 0 < m.length := List.length_pos_of_mem ha
    simp only [List.length_cons]
    omega

/-- One of the first k numbers of a row? -/
theorem l1HasC_any (b k cap : Nat) (L : List Int) (x : Int) (w : World) (hc : ∀ j y, L[j]? = some y → w.cell? ⟨b, j, none⟩ = some (.int .i64 y)) (hk : k ≤ L.length) (hk2 : k ≤ 1000) : Calls Try.prog 97 #[.slice (some ⟨b, 0, none⟩) k cap, .int .i64 x] w fun e w' => e = .returned (.bool (decide (x ∈ L.take k))) ∧ w = w' := by
  have HC := hide hc
  clear hc
  go_enter Try.func97, Try.ntmps97
  go_wp2
  go_loop [9, 6] (fun i _ => ∃ j : Nat, j ≤ k ∧ i = .int .i64 (j : Int) ∧ x ∉ L.take j) (fun i _ => k - (intOf i).toNat)
  case atStart => exact ⟨0, Nat.zero_le _, rfl, by simp⟩
  case round =>
    obtain ⟨j, hj, rfl, hn⟩ := hrel
    by_cases hlt : j < k
    · have hx : L[j]? = some (L[j]'(by omega)) := List.getElem?_eq_getElem (by omega)
      generalize L[j]'(by omega) = y at hx
      have c0 := HC.out j y hx
      have hji : (j : Int) < (k : Int) := by omega
      have HT := hide (show L.take (j + 1) = L.take j ++ [y] from by rw [List.take_add_one, hx]; rfl)
      have HM := hide (show y ∈ L.take k from by
        rw [List.mem_iff_getElem?]
        exact ⟨j, by rw [List.getElem?_take, if_pos hlt]; exact hx⟩)
      have HN := hide hn
      clear hx hn
      by_cases e : y = x
      · subst e
        have HD := hide (show decide (y ∈ L.take k) = true from decide_eq_true HM.out)
        have e1 : (y == y) = true := by simp
        clear HM HN HT
        go_wp2
        go_returns
        exact ⟨by rw [HD.out]; rfl, rfl⟩
      · have e1 : (y == x) = false := by simp [e]
        have HN2 := hide (show x ∉ L.take (j + 1) from by
          rw [HT.out, List.mem_append]
          rintro (h | h)
          · exact HN.out h
          · simp at h
            exact e h.symm)
        clear HM HN HT
        go_wp2
        go_round
        case rel => exact ⟨j + 1, by omega, by go_num, HN2.out⟩
        case measure => simp [intOf] <;> omega
    · obtain rfl : j = k := by omega
      have HD := hide (show decide (x ∈ L.take j) = false from decide_eq_false hn)
      clear hn
      go_wp2
      go_returns
      exact ⟨by rw [HD.out]; rfl, rfl⟩
end Go.Proofs.Ytkiocklkpnjejaa
