/- The contract of the model's first shortest word from a die to another one; what the program's map says of it. -/
import Derived.Test.YtjikpkembcnfnaaDoorSearch
import Derived.Deep.RegionHeld3
namespace Go.Proofs.YtjikpkembcnfnaaDoor
set_option maxRecDepth 100000
set_option linter.all false
open Go.RowKit Go.Maps

/-- The word to a die among those that have been found; none: no word. -/
def wordOf (L : Found) (x : D) : ByteArray := match L.find? (fun p => decide (p.1 = x)) with
  | some p => ⟨p.2.toArray⟩
  | none => ⟨#[]⟩
theorem wordOf_none {L : Found} {x : D} (h : known L x = false) : wordOf L x = ⟨#[]⟩ := by
  have : L.find? (fun p => decide (p.1 = x)) = none := by
    rw [List.find?_eq_none]
    intro p hp
    unfold known at h
    rw [List.any_eq_false] at h
    exact h p hp
  unfold wordOf
  rw [this]
theorem wordOf_first {L : Found} {x : D} {i : Nat} {p : D × List UInt8} (h : known (L.take i) x = false) (hp : L[i]? = some p) (he : p.1 = x) : wordOf L x = ⟨p.2.toArray⟩ := by
  have hi := (List.getElem?_eq_some_iff.1 hp).1
  have hg := (List.getElem?_eq_some_iff.1 hp).2
  have : L.find? (fun p => decide (p.1 = x)) = some p := by
    rw [← List.take_append_drop i L, List.find?_append]
    have h1 : (L.take i).find? (fun p => decide (p.1 = x)) = none := by
      rw [List.find?_eq_none]
      intro q hq
      unfold known at h
      rw [List.any_eq_false] at h
      exact h q hq
    rw [h1, List.drop_eq_getElem_cons hi, hg]
    simp [he]
  unfold wordOf
  rw [this]
theorem known_of {L : Found} {x : D} {i : Nat} {p : D × List UInt8} (hp : L[i]? = some p) (he : p.1 = x) : known L x = true :=
  known_iff.2 (List.mem_map.2 ⟨p, List.mem_of_getElem? hp, he⟩)
theorem wordOf_at {d : D} {L : Found} (hG : Good d L) {x : D} {i : Nat} {p : D × List UInt8} (hp : L[i]? = some p) (he : p.1 = x) : wordOf L x = ⟨p.2.toArray⟩ := by
  refine wordOf_first (i := i) ?_ hp he
  rw [Bool.eq_false_iff]
  intro hk
  obtain ⟨q, hq, hqe⟩ := List.mem_map.1 (known_iff.1 hk)
  obtain ⟨k, hk⟩ := List.mem_iff_getElem?.1 hq
  rw [List.getElem?_take] at hk
  split at hk
  · rename_i hki
    have h4 : (L.map (·.1))[i]? = some x := by simp [hp, he]
    have h5 : (L.map (·.1))[k]? = some x := by simp [hk, hqe]
    have hil := (List.getElem?_eq_some_iff.1 h4).1
    have := (List.getElem?_inj hil hG.nodup).1 (h4.trans h5.symm)
    omega
  · cases hk

/-- '_, found := words[x]', 'word, found := words[x]'. -/
theorem look_exact {d : D} (hd : goodB d = true) {L : Found} (hL : Good d L) {x : D} (hx : goodB x = true) {w : World} {b : Nat} (h : MapIs w b L) :
    (Instr.lookup 125 (.map (some b)) (D.v x) true).run Tryd.prog w = .ok (.tuple #[.string (wordOf L x), .bool (known L x)]) w := by
  obtain ⟨kl, hk⟩ := key_die hx
  rcases find_die hd hL hx w with ⟨h1, h2⟩ | ⟨j, p, h1, h2, h3⟩
  · simp [Instr.lookup, run_underlying Tryd.underlying125, MapKept.run_getObj_map h, law.check w _ hk, h1, h2, Result.andThen, wordOf_none h2]
  · have e1 := known_of h2 h3
    have e2 := wordOf_at hL h2 h3
    simp [Instr.lookup, run_underlying Tryd.underlying125, MapKept.run_getObj_map h, law.check w _ hk, h1, e1, e2, Result.andThen]

theorem go_pos : ∀ (f n : Nat) (L : Found), 0 < L.length → 0 < (go f n L).length
  | 0, _, _, h => h
  | f + 1, n, L, h => by
    unfold go
    split
    · exact go_pos f (n + 1) _ (Nat.lt_of_lt_of_le h (stepN_len _ 4 L))
    · exact h
theorem bfs_pos (d : D) : 0 < (bfs d).length := go_pos 25 0 _ (by simp)

theorem ret_sb {a c : ByteArray} {b d : Bool} (h : a = c) (h2 : b = d) : Ending.returned (.tuple #[.string a, .bool b]) = .returned (.tuple #[.string c, .bool d]) := by rw [h, h2]

end Go.Proofs.YtjikpkembcnfnaaDoor
