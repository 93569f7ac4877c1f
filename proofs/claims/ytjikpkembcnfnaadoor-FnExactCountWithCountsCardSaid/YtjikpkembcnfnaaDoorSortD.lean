/- slices.SortFunc at dice, sorted by their numbers. Fewer than 1000 of them. -/
import Derived.Test.YtjikpkembcnfnaaDoorSortDie
import Derived.Test.YtjikpkembcnfnaaDoorCmp
import Derived.Test.YtjikpkembcnfnaaDoorLess
import Derived.Test.YtjikpkembcnfnaaDoorOwnK
namespace Go.Proofs.YtjikpkembcnfnaaDoor
set_option maxRecDepth 100000
set_option linter.all false
open Go.RowKit Go.Shelf
open Go.Sort (HoldsK flatK get_flatK size_flatK putRowK)

instance sortInh : Inhabited D := ⟨⟨0, 0, 0, 0, 0, 0⟩⟩
theorem dcells_len (d : D) : (dcells d).length = 6 := rfl
theorem get_toArrayD (Q : List D) (i : Nat) (h : i < Q.length) : Q.toArray[i]! = Q[i] := by
  rw [getElem!_pos Q.toArray i (by simpa using h)]; simp
/-- What the array of all cells holds. -/
theorem flatD (Q : List D) (t : Nat) (ht : t < Q.length * 6) : (flatK dcells 6 Q.toArray)[t]! = (cellsW Q)[t]'(by rw [cellsW_len]; exact ht) := by
  have hd : t / 6 < Q.length := by omega
  have hm : t % 6 < 6 := by omega
  rw [get_flatK dcells 6 Q.toArray t (by simpa using ht), get_toArrayD Q _ hd]
  have h1 := cellsW_get Q (t / 6) _ (List.getElem?_eq_getElem hd) (t % 6) hm
  have e : t / 6 * 6 + t % 6 = t := by omega
  rw [e, List.getElem?_eq_getElem (by rw [cellsW_len]; exact ht), List.getElem?_eq_getElem (by rw [dcells_len]; exact hm)] at h1
  have h2 := Option.some.inj h1
  rw [getElem!_pos (dcells Q[t / 6]) (t % 6) (by rw [dcells_len]; exact hm)]
  exact h2.symm
theorem holds_dice {w : World} {B g cap : Nat} {Q : List D} (O : w.ownsRow B 30 6 (.slice (some ⟨g, 0, none⟩) Q.length cap) Q.length (cellsW Q)) (hf : ∀ j, w.frozen? ⟨g, j, none⟩ = false) : HoldsK dcells 6 w g 0 Q.toArray := by
  intro t ht
  have ht' : t < Q.length * 6 := by simpa using ht
  refine ⟨?_, hf _⟩
  rw [Nat.zero_add, O.cellAt t (by omega), flatD Q t ht', List.getElem?_eq_getElem (by rw [cellsW_len]; exact ht')]
  rfl
theorem own_frozen {w : World} {B g cap n : Nat} {e : TypeId} {z : Nat} {xs : List Value} (O : w.ownsRow B e z (.slice (some ⟨g, 0, none⟩) n cap) n xs) (hn : 0 < n) : ∀ j, w.frozen? ⟨g, j, none⟩ = false := by
  intro j
  rcases O.2 with ⟨h0, _⟩ | ⟨g', cap', cur, hv, hg, hh, hc, hm, hs, hx⟩
  · cases h0
  · have : g = g' := by injection hv with h1 _ _; injection h1 with h2; injection h2
    subst this
    simp [World.frozen?, hh]
theorem isAgg_die : ∀ w, (isAgg 30).run Tryd.prog w = .ok true w := fun _ => by kernel_rfl
theorem sizeOf_die : ∀ w, (Go.sizeOf 30).run Tryd.prog w = .ok 6 w := fun _ => by kernel_rfl
theorem grown_sortD {w : World} {g n : Nat} {d : Array D} {os : Array Obj} : w.grownBy (sortWorldK dcells 6 w g 0 n d os) (some g) := by
  refine ⟨rfl, rfl, rfl, ?_, fun k hk hne => ?_⟩
  · show w.heap.size ≤ ((w.heap.modify g _) ++ os).size
    simp
  · show ((w.heap.modify g _) ++ os)[k]? = w.heap[k]?
    rw [Array.getElem?_append_left (by simpa using hk), Array.getElem?_modify, if_neg (fun e => hne (by rw [e]))]
/-- The block of the row is cells of the same type and number behind the sort. -/
theorem block_sortD {w : World} {g n : Nat} {d : Array D} {os : Array Obj} {cur : Array Value} {e : TypeId} (h : w.heap[g]? = some (.cells cur e (0, 0))) : ∃ cur', (sortWorldK dcells 6 w g 0 n d os).heap[g]? = some (.cells cur' e (0, 0)) ∧ cur'.size = cur.size := by
  have hl := (Array.getElem?_eq_some_iff.1 h).1
  have e1 : (sortWorldK dcells 6 w g 0 n d os).heap[g]? = ((w.heap.modify g _) ++ os)[g]? := rfl
  rw [e1, Array.getElem?_append_left (by simpa using hl), Array.getElem?_modify, if_pos rfl, h]
  refine ⟨_, rfl, ?_⟩
  first | exact Array.size_mapIdx | simp [Go.Sort.putCells]
/-- Sorted by their numbers. -/
def SortedDc (Q : List D) : Prop := Q.Pairwise fun a b => ¬ cmpL (keyD b) (keyD a) < 0
set_option maxHeartbeats 800000 in
theorem sortDice_any (B g cap : Nat) (Q : List D) (w : World) (h0 : 0 < Q.length) (hn : Q.length ≤ 1000) (O : w.ownsRow B 30 6 (.slice (some ⟨g, 0, none⟩) Q.length cap) Q.length (cellsW Q)) :
    Calls Tryd.prog 109 #[.slice (some ⟨g, 0, none⟩) Q.length cap, .func (.func 94) #[] #[]] w fun e w' => e = .returned (.tuple #[]) ∧ ∃ Q' : List D, Q'.Perm Q ∧ SortedDc Q' ∧ w'.ownsRow B 30 6 (.slice (some ⟨g, 0, none⟩) Q.length cap) Q.length (cellsW Q') ∧ w.grownBy w' (some g) := by
  have hf := own_frozen O h0
  have hgl := (O.lt g rfl).2
  have eg : ∀ args w, (callFunc 94 args).run Tryd.prog w = .ok (.enter 94 args) w := enters_of Tryd.func94 (by kernel_rfl) rfl
  have hcmp : CmpLays Tryd.prog 94 #[] dcells 6 (fun p q => cmpL (keyD p) (keyD q)) g 0 Q.toArray.size w := fun m os dk hs x y =>
    (compareDice_any x y _).mono fun _ _ h => ⟨h.1, h.2.grow⟩
  have hH := holds_dice O hf
  have hcon := AnyQ.slices_SortFunc Tryd.sortDie 6 isAgg_die sizeOf_die dcells dcells_len (fun x v hv => dcells_one x v hv) (fun p q => cmpL (keyD p) (keyD q)) (swo_key keyD 6 (fun _ => rfl)) 94 #[] g 0 cap Q.toArray w eg hcmp hH hgl (by simp; omega)
  have hsz : Q.toArray.size = Q.length := by simp
  rw [hsz] at hcon
  refine Calls.mono (show Calls Tryd.prog 109 _ _ _ from hcon) fun e w' h => ?_
  obtain ⟨he, d', n, os, hp, hs, rfl⟩ := h
  have hds : d'.size = Q.length := by rw [hp.1, hsz]
  have hK := holdsK_sortWorldK_c dcells 6 w g 0 Q.toArray d' n os hH hgl (by rw [hds, hsz])
  refine ⟨he, d'.toList, ?_, ?_, ?_, grown_sortD⟩
  · have := hp.2.2
    rw [Array.extract_eq_self_of_le (by omega), Array.extract_eq_self_of_le (by simp)] at this
    exact this
  · unfold SortedDc
    rw [List.pairwise_iff_getElem]
    intro i j hi hj hij
    have hi' : i < d'.size := by simpa using hi
    have hj' : j < d'.size := by simpa using hj
    have := hs i j (Nat.zero_le _) hij (by omega)
    rw [getElem!_pos d' i hi', getElem!_pos d' j hj'] at this
    exact of_decide_eq_false this
  · rcases O.2 with ⟨h1, _⟩ | ⟨g', cap', cur, hv, hg, hh, hc, hm, hcs, hx⟩
    · cases h1
    · obtain ⟨rfl, rfl⟩ : g = g' ∧ cap = cap' := by
        injection hv with h1 h2 h3
        injection h1 with h4
        injection h4 with h5
        exact ⟨h5, h3⟩
      obtain ⟨cur', hb, hcz⟩ := block_sortD (n := n) (d := d') (os := os) hh
      refine ⟨by rw [cellsW_len]; simp [hds], .inr ⟨g, cap, cur', rfl, hg, hb, hc, hm, by rw [hcz]; exact hcs, ?_⟩⟩
      apply List.ext_getElem?
      intro t
      by_cases ht : t < Q.length * 6
      · have h6 := (hK t (by simp; omega)).1
        have hfl := flatD d'.toList t (by simp; omega)
        rw [Nat.zero_add, show d' = d'.toList.toArray from by simp, hfl] at h6
        have hR : (cellsW d'.toList)[t]? = some ((cellsW d'.toList)[t]'(by rw [cellsW_len]; simp; omega)) := List.getElem?_eq_getElem _
        rw [List.getElem?_take_of_lt ht, hR]
        have h7 : (sortWorldK dcells 6 w g 0 n d' os).cell? ⟨g, t, none⟩ = cur'[t]? := by simp [World.cell?, hb]
        simp only [Array.toArray_toList] at h6
        rw [h7] at h6
        simpa using h6
      · rw [List.getElem?_eq_none (by simp; omega), List.getElem?_eq_none (by rw [cellsW_len]; simp; omega)]
end Go.Proofs.YtjikpkembcnfnaaDoor
