/- slices.SortFunc at landings: sorted by rows, columns, dice. Fewer than 1000 of them. -/
import Derived.Test.YtkknjokacinlaaaGreatDoorSortLand
import Derived.Test.YtkknjokacinlaaaGreatDoorCmp
import Derived.Test.YtkknjokacinlaaaGreatDoorOwnK
namespace Go.Proofs.YtkknjokacinlaaaGreatDoor
set_option maxRecDepth 100000
set_option linter.all false
open Go.RowKit Go.Shelf
open Go.Sort (HoldsK flatK get_flatK size_flatK putRowK)

instance : Inhabited Ld := ⟨⟨0, ⟨0, 0, ⟨0, 0, 0, 0, 0, 0⟩⟩, 0⟩⟩
def ldCells (Q : List Ld) : List Value := Q.flatMap ldC
theorem ldC_len (q : Ld) : (ldC q).length = 10 := rfl
theorem ldCells_len : ∀ Q : List Ld, (ldCells Q).length = Q.length * 10
  | [] => rfl
  | q :: Q => by
    have := ldCells_len Q
    unfold ldCells at this ⊢
    rw [List.flatMap_cons, List.length_append, this, ldC_len, List.length_cons]
    omega
theorem ldCells_get : ∀ (Q : List Ld) (i : Nat) (q : Ld), Q[i]? = some q → ∀ j, j < 10 → (ldCells Q)[i * 10 + j]? = (ldC q)[j]?
  | [], i, q, h, _, _ => by simp at h
  | p :: Q, 0, q, h, j, hj => by
    simp only [List.getElem?_cons_zero, Option.some.injEq] at h
    subst h
    unfold ldCells
    rw [List.flatMap_cons, Nat.zero_mul, Nat.zero_add, List.getElem?_append_left (by rw [ldC_len]; exact hj)]
  | p :: Q, i + 1, q, h, j, hj => by
    have := ldCells_get Q i q (by simpa using h) j hj
    unfold ldCells at this ⊢
    rw [List.flatMap_cons, List.getElem?_append_right (by rw [ldC_len]; omega), ldC_len, show (i + 1) * 10 + j - 10 = i * 10 + j from by omega]
    exact this
theorem ldCells_snoc (Q : List Ld) (q : Ld) : ldCells (Q ++ [q]) = ldCells Q ++ ldC q := by simp [ldCells]
/-- Block g holds the landings. -/
def LandsAt (w : World) (g : Nat) (Q : List Ld) : Prop := g < w.heap.size ∧ ∀ (i : Nat) (q : Ld), Q[i]? = some q → ∀ j, j < 10 → w.cell? ⟨g, i * 10 + j, none⟩ = (ldC q)[j]?
theorem landsAt_to {w w0 w1 : World} {g : Nat} {Q : List Ld} (hb : Below w0.heap.size w0 w1) (h : LandsAt w g Q) (e : w0.heap = w.heap) : LandsAt w1 g Q := by
  have hs := hb.size
  refine ⟨by rw [e] at hs; have := h.1; omega, fun i q hq j hj => ?_⟩
  rw [hb.cell (p := ⟨g, i * 10 + j, none⟩) (by rw [e]; exact h.1)]
  have h5 : w0.heap[(⟨g, i * 10 + j, none⟩ : Addr).block]? = w.heap[(⟨g, i * 10 + j, none⟩ : Addr).block]? := by rw [e]
  rw [World.cell?_of_block h5]
  exact h.2 i q hq j hj
/-- The ten cells of a landing. -/
theorem LandsAt.cells {w : World} {g : Nat} {Q : List Ld} (h : LandsAt w g Q) {i : Nat} {q : Ld} (hq : Q[i]? = some q) :
    w.cell? ⟨g, i * 10, none⟩ = some (.int .i64 q.n) ∧ w.cell? ⟨g, i * 10 + 1, none⟩ = some (.int .i64 q.s.x) ∧ w.cell? ⟨g, i * 10 + 2, none⟩ = some (.int .i64 q.s.y) ∧ w.cell? ⟨g, i * 10 + 3, none⟩ = some (.int .i64 q.s.d.t) ∧ w.cell? ⟨g, i * 10 + 4, none⟩ = some (.int .i64 q.s.d.n) ∧ w.cell? ⟨g, i * 10 + 5, none⟩ = some (.int .i64 q.s.d.e) ∧ w.cell? ⟨g, i * 10 + 6, none⟩ = some (.int .i64 q.s.d.s) ∧ w.cell? ⟨g, i * 10 + 7, none⟩ = some (.int .i64 q.s.d.w) ∧ w.cell? ⟨g, i * 10 + 8, none⟩ = some (.int .i64 q.s.d.b) ∧ w.cell? ⟨g, i * 10 + 9, none⟩ = some (.int .i64 q.r) := by
  have H := h.2 i q hq
  exact ⟨H 0 (by omega), H 1 (by omega), H 2 (by omega), H 3 (by omega), H 4 (by omega), H 5 (by omega), H 6 (by omega), H 7 (by omega), H 8 (by omega), H 9 (by omega)⟩
theorem landsAt_own {w : World} {B g cap : Nat} {Q : List Ld} (O : w.ownsRow B 59 10 (.slice (some ⟨g, 0, none⟩) Q.length cap) Q.length (ldCells Q)) : LandsAt w g Q := by
  refine ⟨(O.lt g rfl).2, fun i q hq j hj => ?_⟩
  have hi := (List.getElem?_eq_some_iff.1 hq).1
  rw [O.cellAt (i * 10 + j) (by omega), ldCells_get Q i q hq j hj]
theorem get_toArray (Q : List Ld) (i : Nat) (h : i < Q.length) : Q.toArray[i]! = Q[i] := by
  rw [getElem!_pos Q.toArray i (by simpa using h)]; simp
theorem holds_land {w : World} {g : Nat} {Q : List Ld} (hL : LandsAt w g Q) (hf : ∀ j, w.frozen? ⟨g, j, none⟩ = false) : HoldsK ldC 10 w g 0 Q.toArray := by
  intro t ht
  have ht' : t < Q.length * 10 := by simpa using ht
  refine ⟨?_, hf _⟩
  have hd : t / 10 < Q.length := by omega
  have hm : t % 10 < 10 := by omega
  rw [get_flatK ldC 10 Q.toArray t (by simpa using ht'), get_toArray Q _ hd]
  have h1 := hL.2 (t / 10) _ (List.getElem?_eq_getElem hd) (t % 10) hm
  have e : t / 10 * 10 + t % 10 = t := by omega
  rw [e] at h1
  rw [Nat.zero_add, h1, List.getElem?_eq_getElem (by rw [ldC_len]; exact hm)]
  show some _ = some (id _)
  rw [getElem!_pos (ldC Q[t / 10]) (t % 10) (by rw [ldC_len]; exact hm)]
  rfl
theorem lands_holds {w : World} {g : Nat} {d : Array Ld} (h : HoldsK ldC 10 w g 0 d) (hg : g < w.heap.size) : LandsAt w g d.toList := by
  refine ⟨hg, fun i q hq j hj => ?_⟩
  have hi : i < d.size := by simpa using (List.getElem?_eq_some_iff.1 hq).1
  have h1 := (h (i * 10 + j) (by simp; omega)).1
  rw [get_flatK ldC 10 d _ (by omega), show (i * 10 + j) / 10 = i from by omega, show (i * 10 + j) % 10 = j from by omega, Nat.zero_add] at h1
  have e : d[i]! = q := by
    rw [getElem!_pos d i hi]
    have := (List.getElem?_eq_some_iff.1 hq).2
    simpa using this
  rw [e] at h1
  rw [h1, List.getElem?_eq_getElem (by rw [ldC_len]; exact hj)]
  show some (id _) = _
  rw [getElem!_pos (ldC q) j (by rw [ldC_len]; exact hj)]
  rfl
theorem isAgg_land : ∀ w, (isAgg 59).run Tryz.prog w = .ok true w := fun _ => by kernel_rfl
theorem sizeOf_land : ∀ w, (Go.sizeOf 59).run Tryz.prog w = .ok 10 w := fun _ => by kernel_rfl
theorem grown_sort {w : World} {g n : Nat} {d : Array Ld} {os : Array Obj} : w.grownBy (sortWorldK ldC 10 w g 0 n d os) (some g) := by
  refine ⟨rfl, rfl, rfl, ?_, fun k hk hne => ?_⟩
  · show w.heap.size ≤ ((w.heap.modify g _) ++ os).size
    simp
  · show ((w.heap.modify g _) ++ os)[k]? = w.heap[k]?
    rw [Array.getElem?_append_left (by simpa using hk), Array.getElem?_modify, if_neg (fun e => hne (by rw [e]))]
/-- Sorted by rows, columns, dice. -/
def SortedL (Q : List Ld) : Prop := Q.Pairwise fun a b => ¬ cmpL (keyS b.s) (keyS a.s) < 0
theorem sortLand_any (g cap : Nat) (Q : List Ld) (w : World) (hn : Q.length ≤ 1000) (hL : LandsAt w g Q) (hf : ∀ j, w.frozen? ⟨g, j, none⟩ = false) :
    Calls Tryz.prog 55 #[.slice (some ⟨g, 0, none⟩) Q.length cap, .func (.func 56) #[] #[]] w fun e w' => e = .returned (.tuple #[]) ∧ (∃ Q' : List Ld, Q'.Perm Q ∧ SortedL Q' ∧ LandsAt w' g Q') ∧ w.grownBy w' (some g) := by
  have eg : ∀ args w, (callFunc 56 args).run Tryz.prog w = .ok (.enter 56 args) w := enters_of Tryz.func56 (by kernel_rfl) rfl
  have hcmp : CmpLays Tryz.prog 56 #[] ldC 10 (fun p q => cmpL (keyS p.s) (keyS q.s)) g 0 Q.toArray.size w := fun m os dk hs x y =>
    (landCmp_any x y _).mono fun _ _ h => ⟨h.1, h.2.grow⟩
  have hH := holds_land hL hf
  have hcon := AnyQ.slices_SortFunc Tryz.sortLand 10 isAgg_land sizeOf_land ldC ldC_len (fun x v hv => by simp [ldC] at hv; rcases hv with rfl | rfl | rfl | rfl | rfl | rfl | rfl | rfl | rfl | rfl <;> rfl) (fun p q => cmpL (keyS p.s) (keyS q.s)) (swo_key (fun q : Ld => keyS q.s) 8 (fun q => rfl)) 56 #[] g 0 cap Q.toArray w eg hcmp hH hL.1 (by simp; omega)
  have hsz : Q.toArray.size = Q.length := by simp
  rw [hsz] at hcon
  refine Calls.mono (show Calls Tryz.prog 55 _ _ _ from hcon) fun e w' h => ?_
  obtain ⟨he, d', n, os, hp, hs, rfl⟩ := h
  have hds : d'.size = Q.length := by rw [hp.1, hsz]
  refine ⟨he, ⟨d'.toList, ?_, ?_, ?_⟩, grown_sort⟩
  · have := hp.2.2
    rw [Array.extract_eq_self_of_le (by omega), Array.extract_eq_self_of_le (by simp)] at this
    exact this
  · unfold SortedL
    rw [List.pairwise_iff_getElem]
    intro i j hi hj hij
    have hi' : i < d'.size := by simpa using hi
    have hj' : j < d'.size := by simpa using hj
    have := hs i j (Nat.zero_le _) hij (by omega)
    rw [getElem!_pos d' i hi', getElem!_pos d' j hj'] at this
    exact of_decide_eq_false this
  · refine lands_holds (holdsK_sortWorldK_c ldC 10 w g 0 Q.toArray d' n os hH hL.1 (by rw [hds, hsz])) ?_
    exact Nat.lt_of_lt_of_le hL.1 (grown_sort (w := w) (g := g) (n := n) (d := d') (os := os)).size
end Go.Proofs.YtkknjokacinlaaaGreatDoor
