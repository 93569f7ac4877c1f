/- The walks of the laws of IsEvenDie and ParityOfState. -/
import Derived.Test.YtnncehifmaaeiaaDoorWalksG
import Derived.Test.YtnncehifmaaeiaaDoorSix
import Derived.Test.YtnncehifmaaeiaaDoorShelf
import Derived.Test.YtnncehifmaaeiaaDoorState
import Derived.Shelf.Sort.Plain
import Derived.Shelf.Slices.CompactI
import Derived.Lib.OwnBridge
namespace Go.Proofs.YtnncehifmaaeiaaDoor
set_option maxRecDepth 100000
set_option linter.all false
open Go.RowKit

/-- One of the first k numbers of a row? -/
theorem l1Has_any (b k cap : Nat) (L : List Int) (x : Int) (w : World) (hc : ∀ j y, L[j]? = some y → w.cell? ⟨b, j, none⟩ = some (.int .i64 y)) (hk : k ≤ L.length) (hk2 : k ≤ 1000) : Calls Tryd.prog 53 #[.slice (some ⟨b, 0, none⟩) k cap, .int .i64 x] w fun e w' => e = .returned (.bool (decide (x ∈ L.take k))) ∧ w = w' := by
  have HC := hide hc
  clear hc
  go_enter Tryd.func53, Tryd.ntmps53
  go_wp2
  go_loop [9, 6] (fun i _ => ∃ j : Nat, j ≤ k ∧ i = .int .i64 (j : Int) ∧ x ∉ L.take j) (fun i _ => k - (intOf i).toNat)
  case atStart => exact ⟨0, Nat.zero_le _, rfl, by simp⟩
  case round =>
    obtain ⟨j, hj, rfl, hn⟩ := hrel
    by_cases hlt : j < k
    · have hx : L[j]? = some (L[j]'(by omega)) := List.getElem?_eq_getElem (by omega)
      generalize L[j]'(by omega) = y at hx
      have c0 := HC.out j y hx
      have hji : (j : Int) < (k : Int) := by omega
      have HT := hide (show L.take (j + 1) = L.take j ++ [y] from by rw [List.take_add_one, hx]; rfl)
      have HM := hide (show y ∈ L.take k from by
        rw [List.mem_iff_getElem?]
        exact ⟨j, by rw [List.getElem?_take, if_pos hlt]; exact hx⟩)
      have HN := hide hn
      clear hx hn
      by_cases e : y = x
      · subst e
        have HD := hide (show decide (y ∈ L.take k) = true from decide_eq_true HM.out)
        have e1 : (y == y) = true := by simp
        clear HM HN HT
        go_wp2
        go_returns
        exact ⟨by rw [HD.out]; rfl, rfl⟩
      · have e1 : (y == x) = false := by simp [e]
        have HN2 := hide (show x ∉ L.take (j + 1) from by
          rw [HT.out, List.mem_append]
          rintro (h | h)
          · exact HN.out h
          · simp at h
            exact e h.symm)
        clear HM HN HT
        go_wp2
        go_round
        case rel => exact ⟨j + 1, by omega, by go_num, HN2.out⟩
        case measure => simp [intOf] <;> omega
    · obtain rfl : j = k := by omega
      have HD := hide (show decide (x ∈ L.take j) = false from decide_eq_false hn)
      clear hn
      go_wp2
      go_returns
      exact ⟨by rw [HD.out]; rfl, rfl⟩

/-- What is told of the first k faces: none is among those ahead of it. -/
theorem six_take (d : D) : sixB d = (!decide (d.n ∈ [d.t]) && (!decide (d.e ∈ [d.t, d.n]) && (!decide (d.s ∈ [d.t, d.n, d.e]) && (!decide (d.w ∈ [d.t, d.n, d.e, d.s]) && !decide (d.b ∈ [d.t, d.n, d.e, d.s, d.w]))))) := by
  have e : decide (d.n ∈ [d.t]) = false ∧ decide (d.e ∈ [d.t, d.n]) = false ∧ decide (d.s ∈ [d.t, d.n, d.e]) = false ∧ decide (d.w ∈ [d.t, d.n, d.e, d.s]) = false ∧ decide (d.b ∈ [d.t, d.n, d.e, d.s, d.w]) = false ↔ (flD d).Nodup := by
    simp only [flD, decide_eq_false_iff_not, List.nodup_cons, List.mem_cons, List.not_mem_nil, or_false, not_or, not_false_eq_true, List.nodup_nil, and_true]
    omega
  by_cases h : (flD d).Nodup
  · obtain ⟨h1, h2, h3, h4, h5⟩ := e.2 h
    rw [h1, h2, h3, h4, h5]
    unfold sixB
    rw [decide_eq_true h]
    rfl
  · unfold sixB
    rw [decide_eq_false h]
    cases h1 : decide (d.n ∈ [d.t]) with
    | true => rfl
    | false => cases h2 : decide (d.e ∈ [d.t, d.n]) with
      | true => rfl
      | false => cases h3 : decide (d.s ∈ [d.t, d.n, d.e]) with
        | true => rfl
        | false => cases h4 : decide (d.w ∈ [d.t, d.n, d.e, d.s]) with
          | true => rfl
          | false => cases h5 : decide (d.b ∈ [d.t, d.n, d.e, d.s, d.w]) with
            | true => rfl
            | false => exact absurd (e.1 ⟨h1, h2, h3, h4, h5⟩) h
set_option maxHeartbeats 3200000 in
theorem boSix_any (d : D) (w : World) : Calls Tryd.prog 37 #[D.v d] w fun e w' => e = .returned (.bool (sixB d)) ∧ Below w.heap.size w w' := by
  have HS := hide (six_take d)
  have q1 : Below w.heap.size w ((((w.alloc (.cells #[.int .i64 d.t, .int .i64 d.n, .int .i64 d.e, .int .i64 d.s, .int .i64 d.w, .int .i64 d.b] 29)).alloc (.cells #[.int .i64 d.t, .int .i64 d.n, .int .i64 d.e, .int .i64 d.s, .int .i64 d.w, .int .i64 d.b] 29)).alloc (.cells #[.int .i64 d.t, .int .i64 d.n, .int .i64 d.e, .int .i64 d.s, .int .i64 d.w, .int .i64 d.b] 3))) := by go_grown
  have g1 := IsD.new (w := (w.alloc (.cells #[.int .i64 d.t, .int .i64 d.n, .int .i64 d.e, .int .i64 d.s, .int .i64 d.w, .int .i64 d.b] 29)).alloc (.cells #[.int .i64 d.t, .int .i64 d.n, .int .i64 d.e, .int .i64 d.s, .int .i64 d.w, .int .i64 d.b] 29)) (d := d) (ty := 3)
  go_enter Tryd.func37, Tryd.ntmps37
  go_wp2_with fail
  refine (diFaces_any d _).mono ?_
  rintro e w1 ⟨rfl, rfl⟩
  simp only [World.size_alloc] at g1 ⊢
  generalize ((w.alloc (.cells #[.int .i64 d.t, .int .i64 d.n, .int .i64 d.e, .int .i64 d.s, .int .i64 d.w, .int .i64 d.b] 29)).alloc (.cells #[.int .i64 d.t, .int .i64 d.n, .int .i64 d.e, .int .i64 d.s, .int .i64 d.w, .int .i64 d.b] 29)).alloc (.cells #[.int .i64 d.t, .int .i64 d.n, .int .i64 d.e, .int .i64 d.s, .int .i64 d.w, .int .i64 d.b] 3) = w1 at q1 g1 ⊢
  generalize w.heap.size + 1 + 1 = b at g1 ⊢
  obtain ⟨l1, ⟨c0, c1, c2, c3, c4, c5⟩, -⟩ := g1.all
  have HC := hide (show ∀ j y, (flD d)[j]? = some y → w1.cell? ⟨b, j, none⟩ = some (.int .i64 y) from by
    intro j y hy
    match j, hy with
    | 0, hy => simp [flD] at hy; subst hy; exact c0
    | 1, hy => simp [flD] at hy; subst hy; exact c1
    | 2, hy => simp [flD] at hy; subst hy; exact c2
    | 3, hy => simp [flD] at hy; subst hy; exact c3
    | 4, hy => simp [flD] at hy; subst hy; exact c4
    | 5, hy => simp [flD] at hy; subst hy; exact c5
    | j + 6, hy => simp [flD] at hy)
  have t0 : ∀ x, decide (x ∈ (flD d).take 0) = false := fun x => by simp
  have HQ := hide q1
  clear q1 g1 l1
  go_wp2
  refine wp_loop_rounds 7 ?_
  rw [rounds_succ]
  go_wp2_with fail
  refine (l1Has_any b 0 _ (flD d) d.t _ HC.out (by simp [flD]) (by omega)).mono ?_
  rintro e w' ⟨rfl, rfl⟩
  rw [show (flD d).take 0 = [] from rfl]
  rw [show decide (d.t ∈ ([] : List Int)) = false from by simp]
  go_wp2_with fail
  rw [rounds_succ]
  go_wp2_with fail
  refine (l1Has_any b 1 _ (flD d) d.n _ HC.out (by simp [flD]) (by omega)).mono ?_
  rintro e w' ⟨rfl, rfl⟩
  rw [show (flD d).take 1 = [d.t] from rfl]
  generalize h1 : decide (d.n ∈ [d.t]) = b1 at HS
  cases b1
  case true =>
    go_wp2
    go_returns
    exact ⟨by rw [HS.out]; simp, HQ.out⟩
  clear h1
  go_wp2_with fail
  rw [rounds_succ]
  go_wp2_with fail
  refine (l1Has_any b 2 _ (flD d) d.e _ HC.out (by simp [flD]) (by omega)).mono ?_
  rintro e w' ⟨rfl, rfl⟩
  rw [show (flD d).take 2 = [d.t, d.n] from rfl]
  generalize h2 : decide (d.e ∈ [d.t, d.n]) = b2 at HS
  cases b2
  case true =>
    go_wp2
    go_returns
    exact ⟨by rw [HS.out]; simp, HQ.out⟩
  clear h2
  go_wp2_with fail
  rw [rounds_succ]
  go_wp2_with fail
  refine (l1Has_any b 3 _ (flD d) d.s _ HC.out (by simp [flD]) (by omega)).mono ?_
  rintro e w' ⟨rfl, rfl⟩
  rw [show (flD d).take 3 = [d.t, d.n, d.e] from rfl]
  generalize h3 : decide (d.s ∈ [d.t, d.n, d.e]) = b3 at HS
  cases b3
  case true =>
    go_wp2
    go_returns
    exact ⟨by rw [HS.out]; simp, HQ.out⟩
  clear h3
  go_wp2_with fail
  rw [rounds_succ]
  go_wp2_with fail
  refine (l1Has_any b 4 _ (flD d) d.w _ HC.out (by simp [flD]) (by omega)).mono ?_
  rintro e w' ⟨rfl, rfl⟩
  rw [show (flD d).take 4 = [d.t, d.n, d.e, d.s] from rfl]
  generalize h4 : decide (d.w ∈ [d.t, d.n, d.e, d.s]) = b4 at HS
  cases b4
  case true =>
    go_wp2
    go_returns
    exact ⟨by rw [HS.out]; simp, HQ.out⟩
  clear h4
  go_wp2_with fail
  rw [rounds_succ]
  go_wp2_with fail
  refine (l1Has_any b 5 _ (flD d) d.b _ HC.out (by simp [flD]) (by omega)).mono ?_
  rintro e w' ⟨rfl, rfl⟩
  rw [show (flD d).take 5 = [d.t, d.n, d.e, d.s, d.w] from rfl]
  generalize h5 : decide (d.b ∈ [d.t, d.n, d.e, d.s, d.w]) = b5 at HS
  cases b5
  case true =>
    go_wp2
    go_returns
    exact ⟨by rw [HS.out]; simp, HQ.out⟩
  clear h5
  go_wp2_with fail
  rw [rounds_succ]
  go_wp2
  go_returns
  exact ⟨by rw [HS.out]; simp, HQ.out⟩

/-- What a sorted row leaves. -/
theorem sorted_post {w : World} {B q : Nat} {T : TypeId} {cur : Array Value} {os : Array Obj} (h : w.heap[B]? = some (.cells cur T (0, 0))) (hc : cur.size = 6) (L : List Int) (hl : L.length = 6) :
    (Sort.grow (Sort.putRow (Value.int .i64) (Sort.ahead w q) B 0 L.toArray) os).heap[B]? = some (.cells (L.map (Value.int .i64)).toArray T (0, 0)) ∧ Below B w (Sort.grow (Sort.putRow (Value.int .i64) (Sort.ahead w q) B 0 L.toArray) os) := by
  have hlt : B < w.heap.size := lt_of_block h
  constructor
  · show (w.heap.modify B (Sort.onCells _) ++ os)[B]? = _
    rw [Array.getElem?_append_left (by simpa using hlt), Array.getElem?_modify, if_pos rfl, h]
    simp only [Option.map_some, Sort.onCells, Option.some.injEq, Obj.cells.injEq, and_true]
    apply Array.ext_getElem?
    intro j
    simp only [Sort.putCells, Array.getElem?_mapIdx, Nat.zero_le, true_and, Nat.zero_add, List.size_toArray, Nat.sub_zero]
    by_cases hj : j < 6
    · rw [Array.getElem?_eq_getElem (by omega), Option.map_some, if_pos (by omega)]
      simp [List.getElem?_eq_getElem (show j < L.length by omega), getElem!_pos, show j < L.length by omega]
    · rw [Array.getElem?_eq_none (by omega)]
      simp [List.getElem?_eq_none (show L.length ≤ j by omega)]
  · exact ⟨rfl, rfl, rfl, by simp [Sort.grow, Sort.putRow, Sort.mapBlock, Sort.ahead], fun k hk => by
      show (w.heap.modify B (Sort.onCells _) ++ os)[k]? = _
      rw [Array.getElem?_append_left (by simp; omega), Array.getElem?_modify, if_neg (by omega)]⟩
theorem holds_six {w : World} {B : Nat} {T : TypeId} (L : List Int) (h : w.heap[B]? = some (.cells (L.map (Value.int .i64)).toArray T (0, 0))) : Sort.Holds (Value.int .i64) w B 0 L.toArray := by
  intro j hj
  have hj' : j < L.length := by simpa using hj
  simp only [Nat.zero_add]
  constructor
  · simp [World.cell?, h, List.getElem?_eq_getElem hj', getElem!_pos, hj']
  · simp [World.frozen?, h]
set_option maxHeartbeats 1600000 in
theorem different_any (d : D) (w : World) : Calls Tryd.prog 22 #[D.v d] w fun e w' => e = .returned (.bool (sixB d)) ∧ Below w.heap.size w w' := by
  have HS := hide (six_sorted d)
  have hlen := srtD_len d
  go_enter Tryd.func22, Tryd.ntmps22
  go_wp2_with fail
  refine (facesOf_any d _).mono ?_
  rintro e w1 ⟨rfl, hb1⟩
  have q1 : Below w.heap.size w w1 := below_after (by go_grown) hb1 (by simp)
  have g2 : (w1.alloc (.cells #[.int .i64 d.t, .int .i64 d.n, .int .i64 d.e, .int .i64 d.s, .int .i64 d.w, .int .i64 d.b] 60)).heap[w1.heap.size]? = some (.cells ((flD d).map (Value.int .i64)).toArray 60 (0, 0)) := IsD.new (w := w1) (d := d) (ty := 60)
  have q2 := q1.alloc q1.size (.cells #[.int .i64 d.t, .int .i64 d.n, .int .i64 d.e, .int .i64 d.s, .int .i64 d.w, .int .i64 d.b] 60)
  have hB : w.heap.size ≤ w1.heap.size := q1.size
  clear hb1 q1
  go_wp2_with fail
  generalize w1.heap.size = B at g2 hB ⊢
  generalize w1.alloc (.cells #[.int .i64 d.t, .int .i64 d.n, .int .i64 d.e, .int .i64 d.s, .int .i64 d.w, .int .i64 d.b] 60) = w2 at g2 q2 ⊢
  have hlt2 := lt_of_block g2
  refine (Tryd.slices_Sort_int B 0 6 (flD d) w2 (holds_six (flD d) g2) hlt2 (by simp [flD])).mono ?_
  rintro e w3 ⟨rfl, q, os, rfl⟩
  obtain ⟨g3, b3⟩ := sorted_post (q := q) (os := os) g2 (by simp [flD]) ((flD d).mergeSort fun x y => decide (x ≤ y)) hlen
  have q3 := q2.trans (b3.mono hB)
  clear b3 q2 g2 hlt2
  generalize Sort.grow _ _ = w3 at g3 q3 ⊢
  have hss : ((flD d).mergeSort fun x y => decide (x ≤ y)) = srtD d := rfl
  rw [hss] at g3
  clear hss
  generalize hs : srtD d = L at g3 hlen HS
  clear hs
  have HG := hide g3
  clear g3
  go_wp2_with fail
  have hcc := Tryd.slices_Compact_int B 0 6 L w3 (holds_six L HG.out) (by omega) (by omega)
  rw [hlen] at hcc
  refine hcc.mono ?_
  rintro e w4 ⟨rfl, q', rfl⟩
  have q4 : Below w.heap.size w (Sort.putRow (Value.int .i64) (Sort.ahead w3 q') B 0 (Lib.compact L ++ List.replicate (6 - (Lib.compact L).length) 0).toArray) := Lib.below_putRow q3 hB
  generalize Sort.putRow (Value.int .i64) (Sort.ahead w3 q') B 0 (Lib.compact L ++ List.replicate (6 - (Lib.compact L).length) 0).toArray = w4 at q4 ⊢
  generalize (Lib.compact L).length = n at HS
  have HB := hide (show ((n : Int) == 6) = sixB d from by
    cases h : sixB d
    · have : ¬ n = 6 := fun e => by have := HS.out.1 e; rw [h] at this; cases this
      simp
      omega
    · have := HS.out.2 h
      subst this
      rfl)
  clear HS
  go_wp2
  go_returns
  exact ⟨by rw [← HB.out]; rfl, q4⟩

/-- What IsEvenDie answers. -/
def evF (d x : D) : Bool := sixB d && rbF d x
def evB (d x : D) : Bool := evF d x && decide ((wordOf (bfs d) x).size % 2 = 0)
/-- The parity of a word, and what the model calls odd. -/
def odV (d x : D) : Int := if evF d x = true then (((wordOf (bfs d) x).size % 2 : Nat) : Int) else 0
theorem rbF_six {d x : D} (h : rbF d x = true) : sixB x = sixB d := by
  unfold rbF at h
  split at h
  · have hk := known_iff.1 h
    obtain ⟨p, hp, rfl⟩ := List.mem_map.1 hk
    exact sixB_orbit ((bfs_good d).orb p hp)
  · cases h
theorem wordOf_short (d x : D) : (wordOf (bfs d) x).size ≤ 24 := by
  have hG := bfs_good d
  have hle := hG.le
  unfold wordOf
  split
  · rename_i p hp
    have := hG.short _ (List.mem_of_find?_eq_some hp)
    simp only [ByteArray.size, List.size_toArray]
    omega
  · exact Nat.zero_le _

set_option maxHeartbeats 1600000 in
theorem boOdd_no1 (d x : D) (w : World) (h1 : goodB d = false) : Calls Tryd.prog 21 #[D.v d, D.v x] w fun e w' => e = .returned (.tuple #[.int .i64 0, .bool false]) ∧ Below w.heap.size w w' := by
  have H1 := hide h1
  clear h1
  have I1 := (IsD.new (w := w) (d := d) (ty := 29)).alloc (.cells #[.int .i64 x.t, .int .i64 x.n, .int .i64 x.e, .int .i64 x.s, .int .i64 x.w, .int .i64 x.b] 29)
  have J1 := IsD.new2 (w := w) (o := (.cells #[.int .i64 d.t, .int .i64 d.n, .int .i64 d.e, .int .i64 d.s, .int .i64 d.w, .int .i64 d.b] 29)) (d := x) (ty := 29)
  have Q1 : Below w.heap.size w ((w.alloc (.cells #[.int .i64 d.t, .int .i64 d.n, .int .i64 d.e, .int .i64 d.s, .int .i64 d.w, .int .i64 d.b] 29)).alloc (.cells #[.int .i64 x.t, .int .i64 x.n, .int .i64 x.e, .int .i64 x.s, .int .i64 x.w, .int .i64 x.b] 29)) := by go_grown
  go_enter Tryd.func21, Tryd.ntmps21
  go_wp2_with fail
  generalize (w.alloc (.cells #[.int .i64 d.t, .int .i64 d.n, .int .i64 d.e, .int .i64 d.s, .int .i64 d.w, .int .i64 d.b] 29)).alloc (.cells #[.int .i64 x.t, .int .i64 x.n, .int .i64 x.e, .int .i64 x.s, .int .i64 x.w, .int .i64 x.b] 29) = w1 at I1 J1 Q1 ⊢
  refine (diGood_any d _).mono ?_
  rintro e w2 ⟨rfl, hb2⟩
  rw [H1.out]
  have I2 := isD_to hb2 I1 rfl
  have J2 := isD_to hb2 J1 rfl
  have Q2 := below_to hb2 Q1 Q1.size rfl rfl rfl rfl
  clear hb2 I1 J1 Q1
  go_wp2
  go_returns
  exact ⟨rfl, Q2⟩

set_option maxHeartbeats 1600000 in
theorem boOdd_no2 (d x : D) (w : World) (h1 : goodB d = true) (h2 : goodB x = false) : Calls Tryd.prog 21 #[D.v d, D.v x] w fun e w' => e = .returned (.tuple #[.int .i64 0, .bool false]) ∧ Below w.heap.size w w' := by
  have H1 := hide h1
  have H2 := hide h2
  clear h1 h2
  have I1 := (IsD.new (w := w) (d := d) (ty := 29)).alloc (.cells #[.int .i64 x.t, .int .i64 x.n, .int .i64 x.e, .int .i64 x.s, .int .i64 x.w, .int .i64 x.b] 29)
  have J1 := IsD.new2 (w := w) (o := (.cells #[.int .i64 d.t, .int .i64 d.n, .int .i64 d.e, .int .i64 d.s, .int .i64 d.w, .int .i64 d.b] 29)) (d := x) (ty := 29)
  have Q1 : Below w.heap.size w ((w.alloc (.cells #[.int .i64 d.t, .int .i64 d.n, .int .i64 d.e, .int .i64 d.s, .int .i64 d.w, .int .i64 d.b] 29)).alloc (.cells #[.int .i64 x.t, .int .i64 x.n, .int .i64 x.e, .int .i64 x.s, .int .i64 x.w, .int .i64 x.b] 29)) := by go_grown
  go_enter Tryd.func21, Tryd.ntmps21
  go_wp2_with fail
  generalize (w.alloc (.cells #[.int .i64 d.t, .int .i64 d.n, .int .i64 d.e, .int .i64 d.s, .int .i64 d.w, .int .i64 d.b] 29)).alloc (.cells #[.int .i64 x.t, .int .i64 x.n, .int .i64 x.e, .int .i64 x.s, .int .i64 x.w, .int .i64 x.b] 29) = w1 at I1 J1 Q1 ⊢
  refine (diGood_any d _).mono ?_
  rintro e w2 ⟨rfl, hb2⟩
  rw [H1.out]
  have I2 := isD_to hb2 I1 rfl
  have J2 := isD_to hb2 J1 rfl
  have Q2 := below_to hb2 Q1 Q1.size rfl rfl rfl rfl
  clear hb2 I1 J1 Q1
  obtain ⟨l2, ⟨a0, a1, a2, a3, a4, a5⟩, -⟩ := I2.all
  obtain ⟨m2, ⟨b0, b1, b2, b3, b4, b5⟩, -⟩ := J2.all
  go_wp2_with fail
  clear a0 a1 a2 a3 a4 a5 b0 b1 b2 b3 b4 b5 l2 m2
  refine (diGood_any x _).mono ?_
  rintro e w3 ⟨rfl, hb3⟩
  rw [H2.out]
  have I3 := isD_to hb3 I2 rfl
  have J3 := isD_to hb3 J2 rfl
  have Q3 := below_to hb3 Q2 Q2.size rfl rfl rfl rfl
  clear hb3 I2 J2 Q2
  go_wp2
  go_returns
  exact ⟨rfl, Q3⟩

set_option maxHeartbeats 1600000 in
theorem boOdd_no3 (d x : D) (w : World) (h1 : goodB d = true) (h2 : goodB x = true) (h3 : sixB d = false) : Calls Tryd.prog 21 #[D.v d, D.v x] w fun e w' => e = .returned (.tuple #[.int .i64 0, .bool false]) ∧ Below w.heap.size w w' := by
  have H1 := hide h1
  have H2 := hide h2
  have H3 := hide h3
  clear h1 h2 h3
  have I1 := (IsD.new (w := w) (d := d) (ty := 29)).alloc (.cells #[.int .i64 x.t, .int .i64 x.n, .int .i64 x.e, .int .i64 x.s, .int .i64 x.w, .int .i64 x.b] 29)
  have J1 := IsD.new2 (w := w) (o := (.cells #[.int .i64 d.t, .int .i64 d.n, .int .i64 d.e, .int .i64 d.s, .int .i64 d.w, .int .i64 d.b] 29)) (d := x) (ty := 29)
  have Q1 : Below w.heap.size w ((w.alloc (.cells #[.int .i64 d.t, .int .i64 d.n, .int .i64 d.e, .int .i64 d.s, .int .i64 d.w, .int .i64 d.b] 29)).alloc (.cells #[.int .i64 x.t, .int .i64 x.n, .int .i64 x.e, .int .i64 x.s, .int .i64 x.w, .int .i64 x.b] 29)) := by go_grown
  go_enter Tryd.func21, Tryd.ntmps21
  go_wp2_with fail
  generalize (w.alloc (.cells #[.int .i64 d.t, .int .i64 d.n, .int .i64 d.e, .int .i64 d.s, .int .i64 d.w, .int .i64 d.b] 29)).alloc (.cells #[.int .i64 x.t, .int .i64 x.n, .int .i64 x.e, .int .i64 x.s, .int .i64 x.w, .int .i64 x.b] 29) = w1 at I1 J1 Q1 ⊢
  refine (diGood_any d _).mono ?_
  rintro e w2 ⟨rfl, hb2⟩
  rw [H1.out]
  have I2 := isD_to hb2 I1 rfl
  have J2 := isD_to hb2 J1 rfl
  have Q2 := below_to hb2 Q1 Q1.size rfl rfl rfl rfl
  clear hb2 I1 J1 Q1
  obtain ⟨l2, ⟨a0, a1, a2, a3, a4, a5⟩, -⟩ := I2.all
  obtain ⟨m2, ⟨b0, b1, b2, b3, b4, b5⟩, -⟩ := J2.all
  go_wp2_with fail
  clear a0 a1 a2 a3 a4 a5 b0 b1 b2 b3 b4 b5 l2 m2
  refine (diGood_any x _).mono ?_
  rintro e w3 ⟨rfl, hb3⟩
  rw [H2.out]
  have I3 := isD_to hb3 I2 rfl
  have J3 := isD_to hb3 J2 rfl
  have Q3 := below_to hb3 Q2 Q2.size rfl rfl rfl rfl
  clear hb3 I2 J2 Q2
  obtain ⟨l3, ⟨a0, a1, a2, a3, a4, a5⟩, -⟩ := I3.all
  obtain ⟨m3, ⟨b0, b1, b2, b3, b4, b5⟩, -⟩ := J3.all
  go_wp2_with fail
  clear a0 a1 a2 a3 a4 a5 b0 b1 b2 b3 b4 b5 l3 m3
  refine (boSix_any d _).mono ?_
  rintro e w4 ⟨rfl, hb4⟩
  rw [H3.out]
  have I4 := isD_to hb4 I3 rfl
  have J4 := isD_to hb4 J3 rfl
  have Q4 := below_to hb4 Q3 Q3.size rfl rfl rfl rfl
  clear hb4 I3 J3 Q3
  go_wp2
  go_returns
  exact ⟨rfl, Q4⟩

set_option maxHeartbeats 1600000 in
theorem boOdd_no4 (d x : D) (w : World) (h1 : goodB d = true) (h2 : goodB x = true) (h3 : sixB d = true) (h4 : sixB x = false) : Calls Tryd.prog 21 #[D.v d, D.v x] w fun e w' => e = .returned (.tuple #[.int .i64 0, .bool false]) ∧ Below w.heap.size w w' := by
  have H1 := hide h1
  have H2 := hide h2
  have H3 := hide h3
  have H4 := hide h4
  clear h1 h2 h3 h4
  have I1 := (IsD.new (w := w) (d := d) (ty := 29)).alloc (.cells #[.int .i64 x.t, .int .i64 x.n, .int .i64 x.e, .int .i64 x.s, .int .i64 x.w, .int .i64 x.b] 29)
  have J1 := IsD.new2 (w := w) (o := (.cells #[.int .i64 d.t, .int .i64 d.n, .int .i64 d.e, .int .i64 d.s, .int .i64 d.w, .int .i64 d.b] 29)) (d := x) (ty := 29)
  have Q1 : Below w.heap.size w ((w.alloc (.cells #[.int .i64 d.t, .int .i64 d.n, .int .i64 d.e, .int .i64 d.s, .int .i64 d.w, .int .i64 d.b] 29)).alloc (.cells #[.int .i64 x.t, .int .i64 x.n, .int .i64 x.e, .int .i64 x.s, .int .i64 x.w, .int .i64 x.b] 29)) := by go_grown
  go_enter Tryd.func21, Tryd.ntmps21
  go_wp2_with fail
  generalize (w.alloc (.cells #[.int .i64 d.t, .int .i64 d.n, .int .i64 d.e, .int .i64 d.s, .int .i64 d.w, .int .i64 d.b] 29)).alloc (.cells #[.int .i64 x.t, .int .i64 x.n, .int .i64 x.e, .int .i64 x.s, .int .i64 x.w, .int .i64 x.b] 29) = w1 at I1 J1 Q1 ⊢
  refine (diGood_any d _).mono ?_
  rintro e w2 ⟨rfl, hb2⟩
  rw [H1.out]
  have I2 := isD_to hb2 I1 rfl
  have J2 := isD_to hb2 J1 rfl
  have Q2 := below_to hb2 Q1 Q1.size rfl rfl rfl rfl
  clear hb2 I1 J1 Q1
  obtain ⟨l2, ⟨a0, a1, a2, a3, a4, a5⟩, -⟩ := I2.all
  obtain ⟨m2, ⟨b0, b1, b2, b3, b4, b5⟩, -⟩ := J2.all
  go_wp2_with fail
  clear a0 a1 a2 a3 a4 a5 b0 b1 b2 b3 b4 b5 l2 m2
  refine (diGood_any x _).mono ?_
  rintro e w3 ⟨rfl, hb3⟩
  rw [H2.out]
  have I3 := isD_to hb3 I2 rfl
  have J3 := isD_to hb3 J2 rfl
  have Q3 := below_to hb3 Q2 Q2.size rfl rfl rfl rfl
  clear hb3 I2 J2 Q2
  obtain ⟨l3, ⟨a0, a1, a2, a3, a4, a5⟩, -⟩ := I3.all
  obtain ⟨m3, ⟨b0, b1, b2, b3, b4, b5⟩, -⟩ := J3.all
  go_wp2_with fail
  clear a0 a1 a2 a3 a4 a5 b0 b1 b2 b3 b4 b5 l3 m3
  refine (boSix_any d _).mono ?_
  rintro e w4 ⟨rfl, hb4⟩
  rw [H3.out]
  have I4 := isD_to hb4 I3 rfl
  have J4 := isD_to hb4 J3 rfl
  have Q4 := below_to hb4 Q3 Q3.size rfl rfl rfl rfl
  clear hb4 I3 J3 Q3
  obtain ⟨l4, ⟨a0, a1, a2, a3, a4, a5⟩, -⟩ := I4.all
  obtain ⟨m4, ⟨b0, b1, b2, b3, b4, b5⟩, -⟩ := J4.all
  go_wp2_with fail
  clear a0 a1 a2 a3 a4 a5 b0 b1 b2 b3 b4 b5 l4 m4
  refine (boSix_any x _).mono ?_
  rintro e w5 ⟨rfl, hb5⟩
  rw [H4.out]
  have I5 := isD_to hb5 I4 rfl
  have J5 := isD_to hb5 J4 rfl
  have Q5 := below_to hb5 Q4 Q4.size rfl rfl rfl rfl
  clear hb5 I4 J4 Q4
  go_wp2
  go_returns
  exact ⟨rfl, Q5⟩

set_option maxHeartbeats 1600000 in
theorem boOdd_yes (d x : D) (w : World) (h1 : goodB d = true) (h2 : goodB x = true) (h3 : sixB d = true) (h4 : sixB x = true) : Calls Tryd.prog 21 #[D.v d, D.v x] w fun e w' => e = .returned (.tuple #[.int .i64 (((wordOf (bfs d) x).size % 2 : Nat) : Int), .bool (known (bfs d) x)]) ∧ Below w.heap.size w w' := by
  have H1 := hide h1
  have H2 := hide h2
  have H3 := hide h3
  have H4 := hide h4
  clear h1 h2 h3 h4
  have hsz := wordOf_short d x
  generalize hk : known (bfs d) x = k
  have HK := hide hk
  generalize hwo : wordOf (bfs d) x = wo at hsz ⊢
  have HWO := hide hwo
  clear hk hwo
  generalize hn : wo.size = n at hsz ⊢
  have HN := hide (show (((n % 2 : Nat)) : Int) = (n : Int) % 2 from by omega)
  have I1 := (IsD.new (w := w) (d := d) (ty := 29)).alloc (.cells #[.int .i64 x.t, .int .i64 x.n, .int .i64 x.e, .int .i64 x.s, .int .i64 x.w, .int .i64 x.b] 29)
  have J1 := IsD.new2 (w := w) (o := (.cells #[.int .i64 d.t, .int .i64 d.n, .int .i64 d.e, .int .i64 d.s, .int .i64 d.w, .int .i64 d.b] 29)) (d := x) (ty := 29)
  have Q1 : Below w.heap.size w ((w.alloc (.cells #[.int .i64 d.t, .int .i64 d.n, .int .i64 d.e, .int .i64 d.s, .int .i64 d.w, .int .i64 d.b] 29)).alloc (.cells #[.int .i64 x.t, .int .i64 x.n, .int .i64 x.e, .int .i64 x.s, .int .i64 x.w, .int .i64 x.b] 29)) := by go_grown
  go_enter Tryd.func21, Tryd.ntmps21
  go_wp2_with fail
  generalize (w.alloc (.cells #[.int .i64 d.t, .int .i64 d.n, .int .i64 d.e, .int .i64 d.s, .int .i64 d.w, .int .i64 d.b] 29)).alloc (.cells #[.int .i64 x.t, .int .i64 x.n, .int .i64 x.e, .int .i64 x.s, .int .i64 x.w, .int .i64 x.b] 29) = w1 at I1 J1 Q1 ⊢
  refine (diGood_any d _).mono ?_
  rintro e w2 ⟨rfl, hb2⟩
  rw [H1.out]
  have I2 := isD_to hb2 I1 rfl
  have J2 := isD_to hb2 J1 rfl
  have Q2 := below_to hb2 Q1 Q1.size rfl rfl rfl rfl
  clear hb2 I1 J1 Q1
  obtain ⟨l2, ⟨a0, a1, a2, a3, a4, a5⟩, -⟩ := I2.all
  obtain ⟨m2, ⟨b0, b1, b2, b3, b4, b5⟩, -⟩ := J2.all
  go_wp2_with fail
  clear a0 a1 a2 a3 a4 a5 b0 b1 b2 b3 b4 b5 l2 m2
  refine (diGood_any x _).mono ?_
  rintro e w3 ⟨rfl, hb3⟩
  rw [H2.out]
  have I3 := isD_to hb3 I2 rfl
  have J3 := isD_to hb3 J2 rfl
  have Q3 := below_to hb3 Q2 Q2.size rfl rfl rfl rfl
  clear hb3 I2 J2 Q2
  obtain ⟨l3, ⟨a0, a1, a2, a3, a4, a5⟩, -⟩ := I3.all
  obtain ⟨m3, ⟨b0, b1, b2, b3, b4, b5⟩, -⟩ := J3.all
  go_wp2_with fail
  clear a0 a1 a2 a3 a4 a5 b0 b1 b2 b3 b4 b5 l3 m3
  refine (boSix_any d _).mono ?_
  rintro e w4 ⟨rfl, hb4⟩
  rw [H3.out]
  have I4 := isD_to hb4 I3 rfl
  have J4 := isD_to hb4 J3 rfl
  have Q4 := below_to hb4 Q3 Q3.size rfl rfl rfl rfl
  clear hb4 I3 J3 Q3
  obtain ⟨l4, ⟨a0, a1, a2, a3, a4, a5⟩, -⟩ := I4.all
  obtain ⟨m4, ⟨b0, b1, b2, b3, b4, b5⟩, -⟩ := J4.all
  go_wp2_with fail
  clear a0 a1 a2 a3 a4 a5 b0 b1 b2 b3 b4 b5 l4 m4
  refine (boSix_any x _).mono ?_
  rintro e w5 ⟨rfl, hb5⟩
  rw [H4.out]
  have I5 := isD_to hb5 I4 rfl
  have J5 := isD_to hb5 J4 rfl
  have Q5 := below_to hb5 Q4 Q4.size rfl rfl rfl rfl
  clear hb5 I4 J4 Q4
  obtain ⟨l5, ⟨a0, a1, a2, a3, a4, a5⟩, -⟩ := I5.all
  obtain ⟨m5, ⟨b0, b1, b2, b3, b4, b5⟩, -⟩ := J5.all
  go_wp2_with fail
  clear a0 a1 a2 a3 a4 a5 b0 b1 b2 b3 b4 b5 l5 m5
  refine (diWordTo_any d x _).mono ?_
  rintro e w6 ⟨rfl, hb6⟩
  rw [HK.out, HWO.out]
  have I6 := isD_to hb6 I5 rfl
  have J6 := isD_to hb6 J5 rfl
  have Q6 := below_to hb6 Q5 Q5.size rfl rfl rfl rfl
  clear hb6 I5 J5 Q5
  go_wp2
  go_returns
  exact ⟨by rw [HN.out]; rfl, Q6⟩

theorem boOdd_any (d x : D) (w : World) : Calls Tryd.prog 21 #[D.v d, D.v x] w fun e w' => e = .returned (.tuple #[.int .i64 (odV d x), .bool (evF d x)]) ∧ Below w.heap.size w w' := by
  cases h1 : goodB d
  · have e : evF d x = false := by simp [evF, rbF, h1]
    unfold odV
    rw [e, if_neg (by decide)]
    exact boOdd_no1 d x w h1
  · cases h2 : goodB x
    · have e : evF d x = false := by simp [evF, rbF, h2]
      unfold odV
      rw [e, if_neg (by decide)]
      exact boOdd_no2 d x w h1 h2
    · cases h3 : sixB d
      · have e : evF d x = false := by simp [evF, h3]
        unfold odV
        rw [e, if_neg (by decide)]
        exact boOdd_no3 d x w h1 h2 h3
      · have er : rbF d x = known (bfs d) x := by simp [rbF, h1, h2]
        cases h4 : sixB x
        · have e : evF d x = false := by
            cases h5 : rbF d x
            · simp [evF, h5]
            · have := rbF_six h5
              rw [h3, h4] at this
              cases this
          unfold odV
          rw [e, if_neg (by decide)]
          exact boOdd_no4 d x w h1 h2 h3 h4
        · have e : evF d x = known (bfs d) x := by unfold evF; rw [h3, er]; rfl
          refine (boOdd_yes d x w h1 h2 h3 h4).mono ?_
          rintro e' w' ⟨rfl, hb⟩
          refine ⟨?_, hb⟩
          unfold odV
          rw [e]
          cases hk : known (bfs d) x
          · rw [wordOf_none hk]
            rfl
          · rfl
set_option maxHeartbeats 1600000 in
theorem specEV_any (d x : D) (w : World) : Calls Tryd.prog 8 #[D.v d, D.v x] w fun e w' => e = .returned (.tuple #[.bool (evB d x), .bool (evF d x)]) ∧ Below w.heap.size w w' := by
  have HB := hide (show evB d x = (evF d x && (odV d x == 0)) from by
    unfold evB odV
    cases h : evF d x
    · rfl
    · rw [if_pos rfl]
      congr 1
      by_cases hz : (wordOf (bfs d) x).size % 2 = 0
      · rw [hz]; rfl
      · rw [decide_eq_false hz]
        exact (beq_false_of_ne (by omega)).symm)
  generalize hy : evB d x = y at HB ⊢
  generalize hg : evF d x = g at HB ⊢
  have HG := hide hg
  clear hy hg
  go_enter Tryd.func8, Tryd.ntmps8
  go_wp2_with fail
  refine (boOdd_any d x _).mono ?_
  rintro e w1 ⟨rfl, hb1⟩
  have q1 : Below w.heap.size w w1 := below_after (by go_grown) hb1 (by simp; omega)
  clear hb1
  rw [HG.out]
  clear HG
  generalize odV d x = o at HB ⊢
  cases g
  · have HB2 := hide (show y = false from HB.out)
    clear HB
    go_wp2
    go_returns
    exact ⟨by rw [HB2.out]; rfl, q1⟩
  · have HB2 := hide (show y = (o == 0) from HB.out)
    clear HB
    go_wp2
    go_returns
    exact ⟨by rw [HB2.out]; rfl, q1⟩
set_option maxHeartbeats 1600000 in
theorem implEV_any (d x : D) (w : World) : Calls Tryd.prog 10 #[D.v d, D.v x] w fun e w' => e = .returned (.tuple #[.bool (evB d x), .bool (evF d x)]) ∧ Below w.heap.size w w' := by
  have hsz := wordOf_short d x
  have I1 := (IsD.new (w := w) (d := d) (ty := 29)).alloc (.cells #[.int .i64 x.t, .int .i64 x.n, .int .i64 x.e, .int .i64 x.s, .int .i64 x.w, .int .i64 x.b] 29)
  have J1 := IsD.new2 (w := w) (o := (.cells #[.int .i64 d.t, .int .i64 d.n, .int .i64 d.e, .int .i64 d.s, .int .i64 d.w, .int .i64 d.b] 29)) (d := x) (ty := 29)
  have Q1 : Below w.heap.size w ((w.alloc (.cells #[.int .i64 d.t, .int .i64 d.n, .int .i64 d.e, .int .i64 d.s, .int .i64 d.w, .int .i64 d.b] 29)).alloc (.cells #[.int .i64 x.t, .int .i64 x.n, .int .i64 x.e, .int .i64 x.s, .int .i64 x.w, .int .i64 x.b] 29)) := by go_grown
  cases h : sixB d
  · have HE := hide (show evB d x = false ∧ evF d x = false from by simp [evB, evF, h])
    rw [HE.out.1, HE.out.2]
    have H := hide h
    clear h I1 J1
    go_enter Tryd.func10, Tryd.ntmps10
    go_wp2_with fail
    generalize (w.alloc (.cells #[.int .i64 d.t, .int .i64 d.n, .int .i64 d.e, .int .i64 d.s, .int .i64 d.w, .int .i64 d.b] 29)).alloc (.cells #[.int .i64 x.t, .int .i64 x.n, .int .i64 x.e, .int .i64 x.s, .int .i64 x.w, .int .i64 x.b] 29) = w1 at Q1 ⊢
    refine (different_any d _).mono ?_
    rintro e w2 ⟨rfl, hb2⟩
    rw [H.out]
    have Q2 := below_to hb2 Q1 Q1.size rfl rfl rfl rfl
    go_wp2
    go_returns
    exact ⟨rfl, Q2⟩
  · have H := hide h
    cases hf : rbF d x
    · have HE := hide (show evB d x = false ∧ evF d x = false from by simp [evB, evF, hf])
      rw [HE.out.1, HE.out.2]
      have HF := hide hf
      clear h hf
      go_enter Tryd.func10, Tryd.ntmps10
      go_wp2_with fail
      generalize (w.alloc (.cells #[.int .i64 d.t, .int .i64 d.n, .int .i64 d.e, .int .i64 d.s, .int .i64 d.w, .int .i64 d.b] 29)).alloc (.cells #[.int .i64 x.t, .int .i64 x.n, .int .i64 x.e, .int .i64 x.s, .int .i64 x.w, .int .i64 x.b] 29) = w1 at I1 J1 Q1 ⊢
      refine (different_any d _).mono ?_
      rintro e w2 ⟨rfl, hb2⟩
      rw [H.out]
      have I2 := isD_to hb2 I1 rfl
      have J2 := isD_to hb2 J1 rfl
      have Q2 := below_to hb2 Q1 Q1.size rfl rfl rfl rfl
      clear hb2 I1 J1 Q1
      obtain ⟨l2, ⟨a0, a1, a2, a3, a4, a5⟩, -⟩ := I2.all
      obtain ⟨m2, ⟨b0, b1, b2, b3, b4, b5⟩, -⟩ := J2.all
      go_wp2_with fail
      clear a0 a1 a2 a3 a4 a5 b0 b1 b2 b3 b4 b5 l2 m2 I2 J2
      refine (implRollsBetween_any d x _).mono ?_
      rintro e w3 ⟨rfl, hb3⟩
      rw [HF.out]
      have Q3 := below_to hb3 Q2 Q2.size rfl rfl rfl rfl
      clear hb3 Q2
      go_wp2
      go_returns
      exact ⟨rfl, Q3⟩
    · have er : rbS d x = wordOf (bfs d) x := by
        unfold rbF at hf
        unfold rbS
        split at hf
        · rename_i hh
          rw [if_pos hh]
        · cases hf
      have HE := hide (show evB d x = decide ((wordOf (bfs d) x).size % 2 = 0) ∧ evF d x = true from by simp [evB, evF, hf, h])
      rw [HE.out.1, HE.out.2]
      have HF := hide hf
      have HR := hide er
      clear h hf er
      generalize hwo : wordOf (bfs d) x = wo at hsz HR ⊢
      clear hwo HE
      generalize hn : wo.size = n at hsz ⊢
      have HM := hide (show ((n : Int) % 2 == 0) = decide (n % 2 = 0) from by
        by_cases hz : n % 2 = 0
        · rw [decide_eq_true hz, show (n : Int) % 2 = 0 from by omega]
          rfl
        · rw [decide_eq_false hz]
          exact beq_false_of_ne (by omega))
      go_enter Tryd.func10, Tryd.ntmps10
      go_wp2_with fail
      generalize (w.alloc (.cells #[.int .i64 d.t, .int .i64 d.n, .int .i64 d.e, .int .i64 d.s, .int .i64 d.w, .int .i64 d.b] 29)).alloc (.cells #[.int .i64 x.t, .int .i64 x.n, .int .i64 x.e, .int .i64 x.s, .int .i64 x.w, .int .i64 x.b] 29) = w1 at I1 J1 Q1 ⊢
      refine (different_any d _).mono ?_
      rintro e w2 ⟨rfl, hb2⟩
      rw [H.out]
      have I2 := isD_to hb2 I1 rfl
      have J2 := isD_to hb2 J1 rfl
      have Q2 := below_to hb2 Q1 Q1.size rfl rfl rfl rfl
      clear hb2 I1 J1 Q1
      obtain ⟨l2, ⟨a0, a1, a2, a3, a4, a5⟩, -⟩ := I2.all
      obtain ⟨m2, ⟨b0, b1, b2, b3, b4, b5⟩, -⟩ := J2.all
      go_wp2_with fail
      clear a0 a1 a2 a3 a4 a5 b0 b1 b2 b3 b4 b5 l2 m2 I2 J2
      refine (implRollsBetween_any d x _).mono ?_
      rintro e w3 ⟨rfl, hb3⟩
      rw [HF.out, HR.out]
      have Q3 := below_to hb3 Q2 Q2.size rfl rfl rfl rfl
      clear hb3 Q2
      go_wp2
      go_returns
      exact ⟨by rw [← HM.out]; rfl, Q3⟩

set_option maxHeartbeats 3200000 in
theorem walk_IsEvenDie (d : D) (x : D) (w : World) (_ : Glob w) : Calls Tryd.prog 4 #[D.v d, D.v x] w fun e w' => e = .returned (.bool true) ∧ Below w.heap.size w w' := by
  generalize hy : evB d x = y
  generalize hg : evF d x = g
  have HY := hide hy
  have HG := hide hg
  clear hy hg
  have hs : (y != y) = false := by simp
  have hf : (g != g) = false := by simp
  go_enter Tryd.func4, Tryd.ntmps4
  go_wp2_with fail
  go_region_held3 (fun w' => w'.cell? ⟨w.heap.size, 0, none⟩ = some (.int .i64 d.t) ∧ w'.cell? ⟨w.heap.size, 1, none⟩ = some (.int .i64 d.n) ∧ w'.cell? ⟨w.heap.size, 2, none⟩ = some (.int .i64 d.e) ∧ w'.cell? ⟨w.heap.size, 3, none⟩ = some (.int .i64 d.s) ∧ w'.cell? ⟨w.heap.size, 4, none⟩ = some (.int .i64 d.w) ∧ w'.cell? ⟨w.heap.size, 5, none⟩ = some (.int .i64 d.b) ∧ w'.cell? ⟨w.heap.size + 1, 0, none⟩ = some (.int .i64 x.t) ∧ w'.cell? ⟨w.heap.size + 1, 1, none⟩ = some (.int .i64 x.n) ∧ w'.cell? ⟨w.heap.size + 1, 2, none⟩ = some (.int .i64 x.e) ∧ w'.cell? ⟨w.heap.size + 1, 3, none⟩ = some (.int .i64 x.s) ∧ w'.cell? ⟨w.heap.size + 1, 4, none⟩ = some (.int .i64 x.w) ∧ w'.cell? ⟨w.heap.size + 1, 5, none⟩ = some (.int .i64 x.b)) (first | (refine ⟨?_, ?_, ?_, ?_, ?_, ?_, ?_, ?_, ?_, ?_, ?_, ?_⟩ <;> with_reducible assumption) | (refine ⟨?_, ?_, ?_, ?_, ?_, ?_, ?_, ?_, ?_, ?_, ?_, ?_⟩ <;> assumption) | (simp [go_sem, World.cell?_alloc_past]))
    (first
      | (go_at_call 9; (with_reducible refine (toDie_any d _).mono ?_); rintro e w1 ⟨rfl, hb1⟩; have Ic1 := isD_to hb1 ((IsD.new (w := w) (d := d) (ty := 26)).alloc _) rfl; have Ie1 := isD_to hb1 (IsD.new2 (w := w) (d := x) (ty := 26)) rfl; have Q1 : Below w.heap.size w w1 := below_after (by go_grown) hb1 (by simp; omega); obtain ⟨lc1, ⟨c01, c11, c21, c31, c41, c51⟩, -⟩ := Ic1.all; obtain ⟨le1, ⟨e01, e11, e21, e31, e41, e51⟩, -⟩ := Ie1.all; clear hb1)
      | (go_at_call 9; (with_reducible refine (toDie_any x _).mono ?_); rintro e w2 ⟨rfl, hb2⟩; have Ic2 := isD_to hb2 Ic1 rfl; have Ie2 := isD_to hb2 Ie1 rfl; have Q2 := below_to hb2 Q1 Q1.size rfl rfl rfl rfl; obtain ⟨lc2, ⟨c02, c12, c22, c32, c42, c52⟩, -⟩ := Ic2.all; obtain ⟨le2, ⟨e02, e12, e22, e32, e42, e52⟩, -⟩ := Ie2.all; clear hb2)
      | (go_at_call 8; (refine (specEV_any d x _).mono ?_); rintro e w3 ⟨rfl, hb3⟩; have Ic3 := isD_to hb3 Ic2 rfl; have Ie3 := isD_to hb3 Ie2 rfl; have Q3 := below_to hb3 Q2 Q2.size rfl rfl rfl rfl; obtain ⟨lc3, ⟨c03, c13, c23, c33, c43, c53⟩, -⟩ := Ic3.all; obtain ⟨le3, ⟨e03, e13, e23, e33, e43, e53⟩, -⟩ := Ie3.all; clear hb3))
  rw [HY.out, HG.out]
  clear c01 c11 c21 c31 c41 c51 e01 e11 e21 e31 e41 e51 c02 c12 c22 c32 c42 c52 e02 e12 e22 e32 e42 e52 lc1 le1 lc2 le2
  go_wp2_with fail
  go_region_held3 (fun w' => w'.cell? ⟨w.heap.size, 0, none⟩ = some (.int .i64 d.t) ∧ w'.cell? ⟨w.heap.size, 1, none⟩ = some (.int .i64 d.n) ∧ w'.cell? ⟨w.heap.size, 2, none⟩ = some (.int .i64 d.e) ∧ w'.cell? ⟨w.heap.size, 3, none⟩ = some (.int .i64 d.s) ∧ w'.cell? ⟨w.heap.size, 4, none⟩ = some (.int .i64 d.w) ∧ w'.cell? ⟨w.heap.size, 5, none⟩ = some (.int .i64 d.b) ∧ w'.cell? ⟨w.heap.size + 1, 0, none⟩ = some (.int .i64 x.t) ∧ w'.cell? ⟨w.heap.size + 1, 1, none⟩ = some (.int .i64 x.n) ∧ w'.cell? ⟨w.heap.size + 1, 2, none⟩ = some (.int .i64 x.e) ∧ w'.cell? ⟨w.heap.size + 1, 3, none⟩ = some (.int .i64 x.s) ∧ w'.cell? ⟨w.heap.size + 1, 4, none⟩ = some (.int .i64 x.w) ∧ w'.cell? ⟨w.heap.size + 1, 5, none⟩ = some (.int .i64 x.b)) (first | (refine ⟨?_, ?_, ?_, ?_, ?_, ?_, ?_, ?_, ?_, ?_, ?_, ?_⟩ <;> with_reducible assumption) | (refine ⟨?_, ?_, ?_, ?_, ?_, ?_, ?_, ?_, ?_, ?_, ?_, ?_⟩ <;> assumption) | (simp [go_sem, World.cell?_alloc_past]))
    (first
      | (go_at_call 9; (with_reducible refine (toDie_any d _).mono ?_); rintro e w4 ⟨rfl, hb4⟩; have Ic4 := isD_to hb4 Ic3 rfl; have Ie4 := isD_to hb4 Ie3 rfl; have Q4 := below_to hb4 Q3 Q3.size rfl rfl rfl rfl; obtain ⟨lc4, ⟨c04, c14, c24, c34, c44, c54⟩, -⟩ := Ic4.all; obtain ⟨le4, ⟨e04, e14, e24, e34, e44, e54⟩, -⟩ := Ie4.all; clear hb4)
      | (go_at_call 9; (with_reducible refine (toDie_any x _).mono ?_); rintro e w5 ⟨rfl, hb5⟩; have Ic5 := isD_to hb5 Ic4 rfl; have Ie5 := isD_to hb5 Ie4 rfl; have Q5 := below_to hb5 Q4 Q4.size rfl rfl rfl rfl; obtain ⟨lc5, ⟨c05, c15, c25, c35, c45, c55⟩, -⟩ := Ic5.all; obtain ⟨le5, ⟨e05, e15, e25, e35, e45, e55⟩, -⟩ := Ie5.all; clear hb5)
      | (go_at_call 10; (refine (implEV_any d x _).mono ?_); rintro e w6 ⟨rfl, hb6⟩; have Ic6 := isD_to hb6 Ic5 rfl; have Ie6 := isD_to hb6 Ie5 rfl; have Q6 := below_to hb6 Q5 Q5.size rfl rfl rfl rfl; obtain ⟨lc6, ⟨c06, c16, c26, c36, c46, c56⟩, -⟩ := Ic6.all; obtain ⟨le6, ⟨e06, e16, e26, e36, e46, e56⟩, -⟩ := Ie6.all; clear hb6))
  rw [HY.out, HG.out]
  clear c03 c13 c23 c33 c43 c53 e03 e13 e23 e33 e43 e53 c04 c14 c24 c34 c44 c54 e04 e14 e24 e34 e44 e54 lc3 le3 lc4 le4
  go_wp2
  go_returns
  exact ⟨rfl, Q6⟩
end Go.Proofs.YtnncehifmaaeiaaDoor
