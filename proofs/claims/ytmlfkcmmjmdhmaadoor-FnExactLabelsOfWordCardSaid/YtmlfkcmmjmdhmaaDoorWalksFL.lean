/- FnExactFloorOfLabels's walk. -/
import Derived.Test.YtmlfkcmmjmdhmaaDoorWalksIL
import Derived.Test.YtmlfkcmmjmdhmaaDoorTextB
namespace Go.Proofs.YtmlfkcmmjmdhmaaDoor
set_option maxRecDepth 100000
set_option linter.all false
open Go.RowKit

theorem join_snoc (r : List UInt8) : ∀ rs : List (List UInt8), joinP (rs ++ [r]) = (if rs = [] then [] else joinP rs ++ [47]) ++ r
  | [] => by simp [joinP]
  | [a] => by simp [joinP]
  | a :: b :: rs => by
    have ih := join_snoc r (b :: rs)
    rw [List.cons_append, joinP_cons a (by simp), ih, if_neg (by simp), if_neg (by simp), joinP_cons a (by simp)]
    simp
theorem textT_joinP (rs : List (List UInt8)) : ∀ k, k ≤ rs.length → textT (fun i => rs.getD i []) k = joinP (rs.take k)
  | 0, _ => by simp [textT, joinP]
  | k + 1, h => by
    have ih := textT_joinP rs k (by omega)
    have e : rs[k]? = some (rs.getD k []) := by simp [List.getElem?_eq_getElem (show k < rs.length by omega)]
    rw [textT, ih, List.take_add_one, e, Option.toList_some, join_snoc]
    by_cases hk : k = 0
    · subst hk; simp
    · rw [if_neg hk, if_neg (by simp; exact ⟨hk, fun e => by subst e; simp at h⟩)]
/-- The model's text of a grid whose cells are those of a text of even rows: that text. -/
theorem boText_even (l : List UInt8) (W H n g cap : Nat) (he : Even l W) (hH : (splitP l).length = H) (hW : 1 ≤ W ∧ W ≤ 7) (hH7 : 1 ≤ H ∧ H ≤ 7) (hn : n = W * H) (hcap : n ≤ cap) (w : World) (hA : ∀ j c, (splitP l).flatten[j]? = some c → w.cell? ⟨g, j, none⟩ = some (.int .u8 (c.toNat : Int))) (hg : g < w.heap.size) :
    Calls Tryd.prog 28 #[gridV W H n g cap] w fun e w' => e = .returned (.string ⟨l.toArray⟩) ∧ Below w.heap.size w w' := by
  have e1 : textT (fun i => (splitP l).getD i []) H = l := by
    rw [textT_joinP _ _ (by omega), List.take_of_length_le (by omega), join_split]
  rw [← e1]
  refine boText_any (fun i => (splitP l).getD i []) W H n g cap hW hH7 (by rw [hn, Nat.mul_comm]) hcap (fun k hk => (even_row he (by omega)).1) w hg ?_
  intro k hk j c hc
  have hj : j < W := by
    have := (List.getElem?_eq_some_iff.1 hc).1
    rwa [(even_row he (by omega)).1] at this
  refine hA _ c ?_
  rw [cellI_flat he (by omega) hj]
  have e : cellI (splitP l) j k = ((splitP l).getD k []).getD j 35 := by unfold cellI; rw [if_pos ⟨by omega, by omega⟩]; rfl
  rw [e, List.getD, hc]
  rfl
theorem bytesAt_cap {w : World} {g : Nat} {L : List UInt8} (h : BytesAt w g L) : ∀ j c, L[j]? = some c → w.cell? ⟨g, j, none⟩ = some (.int .u8 (c.toNat : Int)) := fun _ _ hc => h.cell hc

/-- The floor of a labelled board's text. -/
def flS (l : List UInt8) : ByteArray := if isLab l = true then ⟨(unlab l).toArray⟩ else ⟨#[]⟩
end Go.Proofs.YtmlfkcmmjmdhmaaDoor
