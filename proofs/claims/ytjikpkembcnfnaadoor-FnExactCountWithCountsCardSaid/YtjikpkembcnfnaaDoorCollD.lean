/- The dice of the search's map, collected into a slice: the iterator of maps.Keys, slices.AppendSeq, slices.Collect. -/
import Derived.Test.YtjikpkembcnfnaaDoorSwD
import Derived.RangeFuncGives
import Derived.Sort.MapsRangeIn
import Derived.WalkKit
import Derived.OwnWalkIn
import Derived.TacticsInMore
import Derived.RegionIn
import Derived.LoopNIn
import Derived.LoopIn
import Derived.Maps.AppendAt
import Derived.Maps.RangeRun
namespace Go.Proofs.YtjikpkembcnfnaaDoor
set_option maxRecDepth 100000
set_option linter.all false
open Go.RowKit Go.Maps Go.ChangeMaps

/-- A range over the map under way; I: the numbers of the entries that have come. -/
structure RgD (w : World) (b r : Nat) (L : Found) (I : List Nat) : Prop where
  map : MapIs w b L
  it : w.heap[r]? = some (.mapIter (some b) L.length I.toArray L.length)
  nodup : I.Nodup
  lt : ∀ i ∈ I, i < L.length
theorem RgD.ne {w : World} {b r : Nat} {L : Found} {I : List Nat} (h : RgD w b r L I) : r ≠ b := by
  intro e
  have h1 := h.it
  have h2 := h.map
  unfold MapIs at h2
  rw [e, h2] at h1
  cases h1
theorem RgD.left_eq {w : World} {b r : Nat} {L : Found} {I : List Nat} (h : RgD w b r L I) : w.rangeLeft b r = (leftOf (entries L).toArray I.toArray).size := by
  have h2 := h.map
  unfold MapIs at h2
  simp [World.rangeLeft, h.it, h2]
theorem RgD.alloc {w : World} {b r : Nat} {L : Found} {I : List Nat} (h : RgD w b r L I) (o : Obj) : RgD (w.alloc o) b r L I :=
  ⟨(Below.heap_alloc w o b h.map.lt).trans h.map, (Below.heap_alloc w o r (Array.getElem?_eq_some_iff.1 h.it).1).trans h.it, h.nodup, h.lt⟩
theorem RgD.walks {w w' : World} {b r : Nat} {L : Found} {I : List Nat} (h : RgD w b r L I) (hk : KeepsWalks w w') : RgD w' b r L I :=
  ⟨hk.same _ _ h.map rfl, hk.same _ _ h.it rfl, h.nodup, h.lt⟩
theorem entries_born {L : Found} {j : Nat} {e : MapEntry} (h : (entries L)[j]? = some e) : e.born = j := by
  obtain ⟨p, _, rfl⟩ := entries_get L j e h
  rfl
theorem born_lt {L : Found} {e : MapEntry} (h : e ∈ entries L) : e.born < L.length := by
  obtain ⟨j, hj⟩ := List.mem_iff_getElem?.1 h
  obtain ⟨p, hp, rfl⟩ := entries_get L j e hj
  exact (List.getElem?_eq_some_iff.1 hp).1
theorem entries_at {L : Found} {i : Nat} {p : D × List UInt8} (h : L[i]? = some p) : (entries L)[i]? = some (entry p i) := by
  simp [entries, h]
theorem borns (L : Found) : (entries L).map (·.born) = List.range L.length := by
  apply List.ext_getElem?
  intro i
  rw [List.getElem?_map]
  by_cases h : i < L.length
  · rw [entries_at (List.getElem?_eq_getElem h), List.getElem?_range h]
    rfl
  · rw [List.getElem?_eq_none (by simp [entries]; omega), List.getElem?_eq_none (by simp; omega)]
    rfl
/-- The dice with some numbers. -/
def dl (L : Found) (I : List Nat) : List D := I.filterMap fun i => (L[i]?).map (·.1)
theorem dl_snoc {L : Found} {I : List Nat} {i : Nat} {p : D × List UInt8} (h : L[i]? = some p) : dl L (I ++ [i]) = dl L I ++ [p.1] := by
  unfold dl
  rw [List.filterMap_append]
  simp [h]
theorem dl_take (L : Found) : ∀ k, k ≤ L.length → dl L (List.range k) = (L.take k).map (·.1)
  | 0, _ => rfl
  | k + 1, h => by
    have hk : L[k]? = some (L[k]'h) := List.getElem?_eq_getElem h
    rw [List.range_succ, dl_snoc hk, dl_take L k (by omega), List.take_succ_eq_append_getElem h, List.map_append]
    rfl
theorem dl_range (L : Found) : dl L (List.range L.length) = L.map (·.1) := by
  rw [dl_take L L.length (Nat.le_refl _), List.take_length]
theorem dl_perm {L : Found} {I : List Nat} (hn : I.Nodup) (hlt : ∀ i ∈ I, i < L.length) (hall : ∀ i, i < L.length → i ∈ I) : (dl L I).Perm (L.map (·.1)) := by
  rw [← dl_range]
  exact List.Perm.filterMap _ ((List.perm_ext_iff_of_nodup hn List.nodup_range).2 fun i => ⟨fun h => List.mem_range.2 (hlt i h), fun h => hall i (List.mem_range.1 h)⟩)
theorem dl_len {L : Found} {I : List Nat} (hlt : ∀ i ∈ I, i < L.length) : (dl L I).length = I.length := by
  induction I with
  | nil => rfl
  | cons a I ih =>
    have h1 := hlt a (by simp)
    have := ih (fun i hi => hlt i (by simp [hi]))
    unfold dl at this ⊢
    rw [List.filterMap_cons, List.getElem?_eq_getElem h1]
    simp [this]
/-- As many numbers have come as there are entries at most; fewer, if one is left. -/
theorem few {L : Found} {I : List Nat} (hn : I.Nodup) (hlt : ∀ i ∈ I, i < L.length) {i : Nat} (hi : i < L.length) (hni : i ∉ I) : I.length < L.length := by
  have := nodup_le (i :: I) (List.range L.length) (List.nodup_cons.2 ⟨hni, hn⟩) (fun x hx => by
    rcases List.mem_cons.1 hx with rfl | h
    · exact List.mem_range.2 hi
    · exact List.mem_range.2 (hlt x h))
  rw [List.length_cons, List.length_range] at this
  omega

section
variable {F : Fence} {n : Nat} {w : World} {ops : Array Oper} {rest : List Oper} {o : Oper} {a : Act} {Q : Exit → Act → World → Prop}
/-- 'range m'. -/
theorem wpListIn_range_D (hg : o.guard = none) (m : Operand) (hop : o.op = Op.range 125 m) (b : Nat) (L : Found) (hm : a.eval m = .map (some b)) (h : MapIs w b L)
    (hK : RgD (w.alloc (.mapIter (some b) L.length #[] L.length)) b w.heap.size L [] → wpListIn F n Tryd.prog ops Q rest (a.put o.dst (.pointer (some ⟨w.heap.size, 0, none⟩))) (w.alloc (.mapIter (some b) L.length #[] L.length))) :
    wpListIn F n Tryd.prog ops Q (o :: rest) a w := by
  refine wpListIn_plain hg fun K' hK' => ?_
  have hrun : (Instr.range 125 (.map (some b))).run Tryd.prog w = .ok (.pointer (some ⟨w.heap.size, 0, none⟩)) (w.alloc (.mapIter (some b) L.length #[] L.length)) :=
    run_range_map w _ (Tryd.prog.mapKeyOf 125) (Tryd.prog.mapElemOf 125) b (entries L).toArray L.length (by kernel_rfl) h
  unfold Oper.wpIn
  refine ⟨?_, ?_⟩
  · simp [Oper.about, hop]
  · rw [Oper.semAt_plain F _ _ (by rw [hop]; intro c hc'; cases hc')]
    simp [execOp, hop, hm, hrun, Result.andThen]
    exact hK' _ _ (hK ⟨(Below.heap_alloc w _ b h.lt).trans h, (MapKept.heap_alloc w _).1, List.nodup_nil, by simp⟩)
/-- The step. -/
theorem wpListIn_next_D (hg : o.guard = none) (it : Operand) (hop : o.op = Op.next it false) (b r : Nat) (L : Found) (I : List Nat) (hit : a.eval it = .pointer (some ⟨r, 0, none⟩)) (h : RgD w b r L I)
    (hDone : (∀ i, i < L.length → i ∈ I) → wpListIn F n Tryd.prog ops Q rest (a.put o.dst (.tuple #[.bool false])) w)
    (hMore : ∀ (i : Nat) (p : D × List UInt8) (w' : World), L[i]? = some p → i ∉ I → RgD w' b r L (I ++ [i]) → w'.rangeLeft b r < w.rangeLeft b r → w.grownBy w' (some r) → w'.heap.size = w.heap.size → (Instr.entry (.pointer (some ⟨r, 0, none⟩))).run Tryd.prog w' = .ok (.tuple #[D.v p.1, .string ⟨p.2.toArray⟩]) w' →
      wpListIn F n Tryd.prog ops Q rest (a.put o.dst (.tuple #[.bool true, D.v p.1, .string ⟨p.2.toArray⟩])) w') :
    wpListIn F n Tryd.prog ops Q (o :: rest) a w := by
  refine wpListIn_plain hg fun K' hK' => ?_
  unfold Oper.wpIn
  refine ⟨by simp [Oper.about, hop], ?_⟩
  rw [Oper.semAt_plain F _ _ (by rw [hop]; intro c hc'; cases hc')]
  have hmap := h.map
  unfold MapIs at hmap
  rcases run_next_at (P := Tryd.prog) w o.type r b L.length L.length I.toArray (entries L).toArray L.length h.it hmap (fun x hx => born_lt (by simpa using hx)) (Nat.le_refl _) with ⟨h0, hrun⟩ | ⟨e, he, w1, hal, hrun⟩
  · simp [execOp, hop, hit, hrun, Result.andThen]
    refine hK' _ _ (hDone fun i hi => ?_)
    have := all_seen (entries L).toArray I.toArray h0 (entry L[i] i) (List.mem_of_getElem? (i := i) (by simpa using entries_at (List.getElem?_eq_getElem hi)))
    simpa [entry] using this
  · obtain ⟨hem, hes⟩ := mem_left he
    obtain ⟨i, hi⟩ := List.mem_iff_getElem?.1 hem
    obtain ⟨p, hp, rfl⟩ := entries_get L i e (by simpa using hi)
    have hni : i ∉ I := by simpa [entry] using hes
    have hr1 : w1.heap[r]? = some (.mapIter (some b) L.length I.toArray L.length) := by rcases hal with rfl | rfl <;> exact h.it
    have hb1 : w1.heap[b]? = some (.map (entries L).toArray L.length) := by rcases hal with rfl | rfl <;> exact hmap
    have hrl : r < w1.heap.size := (Array.getElem?_eq_some_iff.1 hr1).1
    have hpu : I.toArray.push i = (I ++ [i]).toArray := by simp
    have hrun' : (Instr.next (.pointer (some ⟨r, 0, none⟩)) false o.type).run Tryd.prog w = .ok (.tuple #[.bool true, D.v p.1, .string ⟨p.2.toArray⟩]) (setBlock w1 r (.mapIter (some b) L.length (I ++ [i]).toArray L.length)) := by
      rw [← hpu]
      exact hrun
    have hset : (setBlock w1 r (.mapIter (some b) L.length (I ++ [i]).toArray L.length)).heap[r]? = some (.mapIter (some b) L.length (I ++ [i]).toArray L.length) := by simp [setBlock, hrl]
    have hoth : (setBlock w1 r (.mapIter (some b) L.length (I ++ [i]).toArray L.length)).heap[b]? = some (.map (entries L).toArray L.length) := by
      simp only [setBlock]
      rw [Array.getElem?_setIfInBounds_ne h.ne]
      exact hb1
    have hR : RgD (setBlock w1 r (.mapIter (some b) L.length (I ++ [i]).toArray L.length)) b r L (I ++ [i]) := ⟨hoth, hset, List.nodup_append.2 ⟨h.nodup, by simp, fun x hx y hy => by
        simp only [List.mem_singleton] at hy
        subst hy
        exact fun e => hni (e ▸ hx)⟩, fun j hj => by
        rcases List.mem_append.1 hj with hj | hj
        · exact h.lt j hj
        · simp only [List.mem_singleton] at hj
          subst hj
          exact (List.getElem?_eq_some_iff.1 hp).1⟩
    simp [execOp, hop, hit, hrun', Result.andThen]
    refine hK' _ _ (hMore i p _ hp hni hR ?_ ?_ ?_ ?_)
    · rw [hR.left_eq, h.left_eq, ← hpu]
      exact left_shrinks (entries L).toArray I.toArray (entry p i) he
    · rcases hal with rfl | rfl <;> exact ⟨rfl, rfl, rfl, by simp [setBlock], fun k _ hk => by
        simp only [setBlock]
        rw [Array.getElem?_setIfInBounds_ne (fun e1 => hk (by rw [e1]))]
        try rfl⟩
    · rcases hal with rfl | rfl <;> simp [setBlock]
    · exact run_entry_at _ r b L.length I.toArray (entries L).toArray L.length (entry p i) (by rw [show (entry p i).born = i from rfl, hpu]; exact hset) hoth hem (by
        rw [show (entries L).toArray.toList = entries L from rfl, borns]
        exact List.nodup_range)
end

set_option maxHeartbeats 2000000 in
/-- The iterator of maps.Keys: the dice come, each once, in some order. -/
theorem keys1D_in (F : Fence) (n : Nat) (h1 : F.fn 110) (hro : F.round = none) (hn : 1 ≤ n) (l Bm b : Nat) (L : Found) (J : List D → World → Prop)
    (hY : ∀ pre x W, J pre W → pre.length < L.length → YieldAt F (n - 1) Tryd.prog l #[D.v x] W fun e W' => e = .returned (.bool true) ∧ J (pre ++ [x]) W' ∧ KeepsWalks W W')
    (W : World) (hJ : AbidesFrom W.heap.size J) (hm : W.cell? ⟨Bm, 0, none⟩ = some (.map (some b))) (hmap : MapIs W b L) (h0 : J [] W) :
    CallsIn F n Tryd.prog 110 #[.func (.yield l) #[] #[], .pointer (some ⟨Bm, 0, none⟩)] W fun e W' => (∃ v, e = .returned v) ∧ ∃ ss : List D, ss.Perm (L.map (·.1)) ∧ J ss W' := by
  refine callsIn_of_wp Tryd.func110 rfl h1 ?_ hro
  simp only [Tryd.ntmps110, List.size_toArray, List.length_cons, List.length_nil, Nat.reduceAdd, Nat.reduceSub, Array.replicate_succ, Array.replicate_zero, List.push_toArray, List.append_toArray, List.nil_append, List.cons_append]
  gi_wp2_with (first
    | (gi_at_range; refine wpListIn_range_D rfl _ rfl b L rfl hmap ?_; intro hrg0)
    | gi_in)
  have hJ0 : J [] (W.alloc (.mapIter (some b) L.length #[] L.length)) := hJ [] W _ none h0 (World.grownBy_alloc W _ none) (fun r e => by cases e)
  generalize W.alloc (.mapIter (some b) L.length #[] L.length) = W0 at hrg0 hJ0 ⊢
  go_frame
  gi_loopw [3] (fun _ wr => ∃ I : List Nat, RgD wr b W.heap.size L I ∧ J (dl L I) wr) (fun _ wr => wr.rangeLeft b W.heap.size)
  case atStart => exact ⟨[], hrg0, hJ0⟩
  case round =>
    obtain ⟨I, hrg, hJs⟩ := hrel
    gi_wp2_with (first
      | (gi_at_next; refine wpListIn_next_D rfl _ rfl b W.heap.size L I rfl hrg ?_ ?_)
      | gi_in)
    · -- nothing is left
      intro hall
      gi_wp2
      go_end0
      exact ⟨⟨_, rfl⟩, _, dl_perm hrg.nodup hrg.lt hall, hJs⟩
    · -- an entry has come
      intro i pd pw w2 hp hni hrg2 hlt hg2 hs2 hen
      have hfew := few hrg.nodup hrg.lt (List.getElem?_eq_some_iff.1 hp).1 hni
      have hdl := dl_len hrg.lt
      have hJ2 : J (dl L I) w2 := hJ (dl L I) wr w2 (some W.heap.size) hJs hg2 (fun r e => by cases e; exact ⟨Nat.le_refl _, _, hrg.it, rfl⟩)
      have hJ3 : J (dl L I) (w2.alloc (.cells #[.int .i64 pd.t, .int .i64 pd.n, .int .i64 pd.e, .int .i64 pd.s, .int .i64 pd.w, .int .i64 pd.b] 30)) := hJ (dl L I) w2 _ none hJ2 (World.grownBy_alloc _ _ none) (fun r e => by cases e)
      have hrg3 := hrg2.alloc (.cells #[.int .i64 pd.t, .int .i64 pd.n, .int .i64 pd.e, .int .i64 pd.s, .int .i64 pd.w, .int .i64 pd.b] 30)
      obtain ⟨fn, tmps, assign, body, hy, hR⟩ := hY (dl L I) pd _ hJ3 (by omega)
      have hlt3 : (w2.alloc (.cells #[.int .i64 pd.t, .int .i64 pd.n, .int .i64 pd.e, .int .i64 pd.s, .int .i64 pd.w, .int .i64 pd.b] 30)).rangeLeft b W.heap.size < wr.rangeLeft b W.heap.size := by rw [hrg3.left_eq, ← hrg2.left_eq]; exact hlt
      have HS := dl_snoc (I := I) hp
      clear hs2 hrg hrg2 hJ2 hJs hg2
      gi_wp2
      refine hR.mono ?_
      rintro e W3 ⟨rfl, hJ4, hk4⟩
      gi_wp2
      have hrg4 := hrg3.walks hk4
      go_roundw
      case rel => exact ⟨I ++ [i], hrg4, by rw [HS]; exact hJ4⟩
      case measure => rw [hrg4.left_eq, ← hrg3.left_eq]; exact hlt3
end Go.Proofs.YtjikpkembcnfnaaDoor
