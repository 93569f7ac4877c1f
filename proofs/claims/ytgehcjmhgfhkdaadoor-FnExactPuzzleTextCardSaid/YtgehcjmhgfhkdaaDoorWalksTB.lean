/- What TurnBoard returns: the plain rows. -/
import Derived.Test.YtgehcjmhgfhkdaaDoorTextB
import Derived.Laws.OwnMore
namespace Go.Proofs.YtgehcjmhgfhkdaaDoor
set_option maxRecDepth 100000
set_option linter.all false
open Go.RowKit

theorem own_freeT {w : World} {B : Nat} {e : TypeId} {size g n cap : Nat} {xs : List Value} (h : w.ownsRow B e size (.slice (some ⟨g, 0, none⟩) n cap) n xs) (j : Nat) : w.frozen? ⟨g, j, none⟩ = false := by
  rcases h.2 with ⟨h0, _⟩ | ⟨g', cap', cur, hv, _, hg, _⟩
  · cases h0
  · injection hv with h1
    injection h1 with h1
    injection h1 with h1
    subst h1
    simp [World.frozen?, hg]
/-- A cell of the row is written. -/
theorem own_putT {w : World} {B z : Nat} {e : TypeId} {g n cap : Nat} {xs : List Value} (h : w.ownsRow B e z (.slice (some ⟨g, 0, none⟩) n cap) n xs) (j : Nat) (hj : j < n * z) (u : Value) : (w.setCell ⟨g, j, none⟩ u).ownsRow B e z (.slice (some ⟨g, 0, none⟩) n cap) n (xs.set j u) := by
  obtain ⟨hl, h2⟩ := h
  rcases h2 with ⟨h0, _⟩ | ⟨g', cap', cur, hv, hb, hg, hn, hm, hs, ht⟩
  · cases h0
  · injection hv with h1 h3 h4
    injection h1 with h1
    injection h1 with h1
    subst h1
    subst h4
    have hjs : j < cur.size := by have := Nat.mul_le_mul_right z hn; omega
    refine ⟨by simpa using hl, .inr ⟨g, cap, cur.set j u hjs, rfl, hb, cells_set hg j hjs u, hn, hm, by simpa using hs, ?_⟩⟩
    rw [← ht, Array.toList_set, List.take_set]

theorem bytes_backT {w : World} {base g n cap : Nat} {l : List UInt8} (h : w.ownsRow base 5 1 (.slice (some ⟨g, 0, none⟩) n cap) n (bytesV l)) (hn : l.length = n) :
    (convert 75 9 (.slice (some ⟨g, 0, none⟩) n cap)).run Tryd.prog w = .ok (.string ⟨l.toArray⟩) w := by
  subst hn
  refine run_convert_bytes_back w _ _ 5 _ cap l Tryd.underlying75 Tryd.underlying5 Tryd.underlying9 (fun j hj => ?_)
  exact h.cells rfl j _ (by simp [bytesV, List.getElem?_eq_getElem hj])
theorem info_strT : (Tryd.prog.info? 9).map (fun i => (i.zero, i.size, i.bytes)) = some (some (.string ⟨#[]⟩), 1, 16) := by kernel_rfl
theorem own_capT {w : World} {base : Nat} {e : TypeId} {size : Nat} {g n cap : Nat} {xs : List Value} (h : w.ownsRow base e size (.slice (some ⟨g, 0, none⟩) n cap) n xs) : n ≤ cap := by
  rcases h.2 with ⟨h0, _⟩ | ⟨g', cap', cur, hv, hb, hg, hc, _⟩
  · cases h0
  · injection hv with h1 h3 h4
    subst h4
    exact hc
theorem turnT_get (F : List UInt8) (W H : Nat) : ∀ (X k j : Nat) (c : UInt8), k < X → (colT F W H k H)[j]? = some c → (turnT F W H X)[k * H + j]? = some c
  | 0, _, _, _, h, _ => by omega
  | X + 1, k, j, c, h, hc => by
    rw [turnT]
    rcases Nat.lt_or_ge k X with hk | hk
    · have ih := turnT_get F W H X k j c hk hc
      rw [List.getElem?_append_left (List.getElem?_eq_some_iff.1 ih).1]
      exact ih
    · obtain rfl : k = X := by omega
      rw [List.getElem?_append_right (by rw [turnT_len]; omega), turnT_len, Nat.add_sub_cancel_left]
      exact hc
/-- The turned board's rows. -/
def rowsT (F : List UInt8) (W H : Nat) : List (List UInt8) := (List.range W).map fun x => colT F W H x H
theorem textT_join (R : Nat → List UInt8) : ∀ k, textT R (k + 1) = R 0 ++ ((List.range k).map fun i => R (i + 1)).flatMap fun y => 47 :: y
  | 0 => by simp [textT]
  | k + 1 => by
    rw [textT, if_neg (by omega), textT_join R k, List.range_succ, List.map_append, List.flatMap_append]
    simp
theorem textT_rows (F : List UInt8) (W H : Nat) (h : 1 ≤ W) : textT (fun x => colT F W H x H) W = joinB (rowsT F W H) := by
  obtain ⟨k, rfl⟩ : ∃ k, W = k + 1 := ⟨W - 1, by omega⟩
  rw [textT_join, rowsT, List.range_succ_eq_map, List.map_cons, List.map_map, joinB]
  rfl

/-- The turned board's text. -/
def tbS (l : List UInt8) : ByteArray := if isBd l = true then ⟨(joinB (rowsT (splitP l).flatten (width l) (splitP l).length)).toArray⟩ else ⟨#[]⟩

end Go.Proofs.YtgehcjmhgfhkdaaDoor
