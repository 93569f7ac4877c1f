/- The contract of the model's first shortest word from a die to another one; what the program's map says of it. -/
import Derived.Test.YtnncehifmaaeiaaDoorSearch
import Derived.Deep.RegionHeld3
namespace Go.Proofs.YtnncehifmaaeiaaDoor
set_option maxRecDepth 100000
set_option linter.all false
open Go.RowKit Go.Maps

/-- The word to a die among those that have been found; none: no word. -/
def wordOf (L : Found) (x : D) : ByteArray := match L.find? (fun p => decide (p.1 = x)) with
  | some p => ⟨p.2.toArray⟩
  | none => ⟨#[]⟩
theorem wordOf_none {L : Found} {x : D} (h : known L x = false) : wordOf L x = ⟨#[]⟩ := by
  have : L.find? (fun p => decide (p.1 = x)) = none := by
    rw [List.find?_eq_none]
    intro p hp
    unfold known at h
    rw [List.any_eq_false] at h
    exact h p hp
  unfold wordOf
  rw [this]
theorem wordOf_first {L : Found} {x : D} {i : Nat} {p : D × List UInt8} (h : known (L.take i) x = false) (hp : L[i]? = some p) (he : p.1 = x) : wordOf L x = ⟨p.2.toArray⟩ := by
  have hi := (List.getElem?_eq_some_iff.1 hp).1
  have hg := (List.getElem?_eq_some_iff.1 hp).2
  have : L.find? (fun p => decide (p.1 = x)) = some p := by
    rw [← List.take_append_drop i L, List.find?_append]
    have h1 : (L.take i).find? (fun p => decide (p.1 = x)) = none := by
      rw [List.find?_eq_none]
      intro q hq
      unfold known at h
      rw [List.any_eq_false] at h
      exact h q hq
    rw [h1, List.drop_eq_getElem_cons hi, hg]
    simp [he]
  unfold wordOf
  rw [this]
theorem known_of {L : Found} {x : D} {i : Nat} {p : D × List UInt8} (hp : L[i]? = some p) (he : p.1 = x) : known L x = true :=
  known_iff.2 (List.mem_map.2 ⟨p, List.mem_of_getElem? hp, he⟩)
theorem wordOf_at {d : D} {L : Found} (hG : Good d L) {x : D} {i : Nat} {p : D × List UInt8} (hp : L[i]? = some p) (he : p.1 = x) : wordOf L x = ⟨p.2.toArray⟩ := by
  refine wordOf_first (i := i) ?_ hp he
  rw [Bool.eq_false_iff]
  intro hk
  obtain ⟨q, hq, hqe⟩ := List.mem_map.1 (known_iff.1 hk)
  obtain ⟨k, hk⟩ := List.mem_iff_getElem?.1 hq
  rw [List.getElem?_take] at hk
  split at hk
  · rename_i hki
    have h4 : (L.map (·.1))[i]? = some x := by simp [hp, he]
    have h5 : (L.map (·.1))[k]? = some x := by simp [hk, hqe]
    have hil := (List.getElem?_eq_some_iff.1 h4).1
    have := (List.getElem?_inj hil hG.nodup).1 (h4.trans h5.symm)
    omega
  · cases hk

/-- '_, found := words[x]', 'word, found := words[x]'. -/
theorem look_exact {d : D} (hd : goodB d = true) {L : Found} (hL : Good d L) {x : D} (hx : goodB x = true) {w : World} {b : Nat} (h : MapIs w b L) :
    (Instr.lookup 58 (.map (some b)) (D.v x) true).run Tryd.prog w = .ok (.tuple #[.string (wordOf L x), .bool (known L x)]) w := by
  obtain ⟨kl, hk⟩ := key_die hx
  rcases find_die hd hL hx w with ⟨h1, h2⟩ | ⟨j, p, h1, h2, h3⟩
  · simp [Instr.lookup, run_underlying Tryd.underlying58, MapKept.run_getObj_map h, law.check w _ hk, h1, h2, Result.andThen, wordOf_none h2]
  · have e1 := known_of h2 h3
    have e2 := wordOf_at hL h2 h3
    simp [Instr.lookup, run_underlying Tryd.underlying58, MapKept.run_getObj_map h, law.check w _ hk, h1, e1, e2, Result.andThen]

theorem go_pos : ∀ (f n : Nat) (L : Found), 0 < L.length → 0 < (go f n L).length
  | 0, _, _, h => h
  | f + 1, n, L, h => by
    unfold go
    split
    · exact go_pos f (n + 1) _ (Nat.lt_of_lt_of_le h (stepN_len _ 4 L))
    · exact h
theorem bfs_pos (d : D) : 0 < (bfs d).length := go_pos 25 0 _ (by simp)

theorem ret_sb {a c : ByteArray} {b d : Bool} (h : a = c) (h2 : b = d) : Ending.returned (.tuple #[.string a, .bool b]) = .returned (.tuple #[.string c, .bool d]) := by rw [h, h2]

set_option maxHeartbeats 1000000 in
theorem diWordTo_any (d x : D) (w : World) :
    Calls Tryd.prog 16 #[D.v d, D.v x] w fun e w' => e = .returned (.tuple #[.string (wordOf (bfs d) x), .bool (known (bfs d) x)]) ∧ Below w.heap.size w w' := by
  have hG := bfs_good d
  generalize hL : bfs d = L at hG
  have HL := hide hL
  clear hL
  go_enter Tryd.func16, Tryd.ntmps16
  go_wp2_with fail
  refine (diSearch_any d _).mono ?_
  rintro e w1 ⟨v, u, rfl, hI⟩
  rw [HL.out] at hI
  have i2 := (IsD.new2 (w := w) (o := .cells #[.int .i64 d.t, .int .i64 d.n, .int .i64 d.e, .int .i64 d.s, .int .i64 d.w, .int .i64 d.b] 29) (d := x) (ty := 29)).below rfl hI.below
  have b1 : Below w.heap.size w w1 := below_after (by go_grown) hI.below (by simp; omega)
  have h24 := hG.le
  have hpos : 0 < L.length := by rw [← HL.out]; exact bfs_pos d
  obtain ⟨g, cap, g', cap', rfl, rfl⟩ := hI.slices hpos
  go_wp2_with fail
  go_loopw [17] (fun i wi => ∃ q : Nat, q ≤ L.length ∧ i = .int .i64 (q : Int) ∧ known (L.take q) x = false ∧ Below w1.heap.size w1 wi) (fun i _ => L.length - (intOf i).toNat)
  case atStart => exact ⟨0, by omega, rfl, by simp [known], Below.refl _ _⟩
  case round =>
    obtain ⟨q, hq, rfl, hkq, hb⟩ := hrel
    have HKQ := hide hkq
    clear hkq
    have hI2 := hI.kept w1 rfl rfl rfl rfl hb
    have i3 := isD_to hb i2 rfl
    have b3 : Below w.heap.size w wr := below_to hb b1 b1.size rfl rfl rfl rfl
    by_cases hql : q < L.length
    · have hr : L[q]? = some (L[q]'hql) := List.getElem?_eq_getElem hql
      generalize L[q]'hql = r at hr
      obtain ⟨c0, c1, c2, c3, c4, c5⟩ := hI2.cell hr
      have hwd := hI2.word hr
      obtain ⟨lT, ⟨t0, t1, t2, t3, t4, t5⟩, -⟩ := i3.all
      have heq := fun wx => eql_die r.1 x wx
      have HR := hide hr
      have lg := (hI2.wrd.lt g' rfl).2
      clear hr
      by_cases hrx : r.1 = x
      · have hdx : decide (r.1 = x) = true := decide_eq_true hrx
        have HRX := hide hrx
        rw [hdx] at heq
        clear hrx hdx hI hI2 i2 i3 b1
        go_wp2
        go_returns
        exact ⟨ret_sb (wordOf_first HKQ.out HR.out HRX.out).symm (known_of HR.out HRX.out).symm, (b3.alloc b3.size _)⟩
      · have hdx : decide (r.1 = x) = false := decide_eq_false hrx
        have HRX := hide hrx
        rw [hdx] at heq
        have hk2 := hide (show known (L.take (q + 1)) x = false from by rw [known_take L q r HR.out, HKQ.out, hdx]; rfl)
        clear hrx hdx hI2 i3 b3 hwd lg
        go_wp2
        go_roundw
        case rel => exact ⟨q + 1, by omega, by go_num, hk2.out, hb.alloc hb.size _⟩
        case measure => simp [intOf]; omega
    · have hqL : q = L.length := by omega
      subst hqL
      have hkn : known L x = false := by have := HKQ.out; rwa [List.take_length] at this
      have e1 := wordOf_none hkn
      have E1 := hide e1
      have HKN := hide hkn
      clear e1 hkn hI hI2 i2 i3
      go_wp2
      go_returns
      exact ⟨ret_sb E1.out.symm HKN.out.symm, b3⟩
end Go.Proofs.YtnncehifmaaeiaaDoor
