/- Arrays of integers in blocks; arrays compared; numbers each as often as told. -/
import Derived.Test.YtjikpkembcnfnaaDoorDieS
import Derived.Deep.WholeRow
import Derived.ChangeKeysEq
import Derived.Laws.StructEq
import Derived.Laws.CopyOwn
namespace Go.Proofs.YtjikpkembcnfnaaDoor
set_option maxRecDepth 100000
set_option linter.all false
open Go.RowKit

theorem ints_one (M : List Int) : (ints M).toArray.all (·.oneCell') = true := by
  simp [ints, Value.oneCell']
theorem ints_size (M : List Int) : (ints M).toArray.size = M.length := by simp [ints]
/-- Block b is an array of integers. -/
def IsA (w : World) (b : Nat) (M : List Int) (ty : TypeId) : Prop := w.heap[b]? = some (.cells (ints M).toArray ty (0, 0))
theorem IsA.lt {w : World} {b : Nat} {M : List Int} {ty : TypeId} (h : IsA w b M ty) : b < w.heap.size := lt_of_block h
theorem IsA.cell {w : World} {b : Nat} {M : List Int} {ty : TypeId} (h : IsA w b M ty) {j : Nat} {x : Int} (hx : M[j]? = some x) : w.cell? ⟨b, j, none⟩ = some (.int .i64 x) ∧ w.frozen? ⟨b, j, none⟩ = false := by
  unfold IsA at h
  simp [World.cell?, World.frozen?, h, ints, hx]
theorem IsA.set {w : World} {b : Nat} {M : List Int} {ty : TypeId} (h : IsA w b M ty) (j : Nat) (hj : j < M.length) (x : Int) : IsA (w.setCell ⟨b, j, none⟩ (.int .i64 x)) b (M.set j x) ty := by
  have := cells_set h j (by simpa [ints] using hj) (.int .i64 x)
  unfold IsA
  rw [this]
  simp [ints, List.map_set]
theorem IsA.to {w w0 w1 : World} {b : Nat} {M : List Int} {ty : TypeId} (hb : Below w0.heap.size w0 w1) (h : IsA w b M ty) (e : w0.heap = w.heap) : IsA w1 b M ty := by
  have hl := h.lt
  unfold IsA at h ⊢
  rw [hb.block b (by rw [e]; exact hl), e]
  exact h
theorem IsA.other {w : World} {b : Nat} {M : List Int} {ty : TypeId} (h : IsA w b M ty) {p : Addr} (hp : b ≠ p.block) (u : Value) : IsA (w.setCell p u) b M ty := (Below.heap_setCell w p u b hp).trans h
theorem IsA.alloc {w : World} {b : Nat} {M : List Int} {ty : TypeId} (h : IsA w b M ty) (o : Obj) : IsA (w.alloc o) b M ty := (Below.heap_alloc w o b h.lt).trans h
theorem IsA.grown {w w1 : World} {b : Nat} {M : List Int} {ty : TypeId} {r : Option Nat} (h : IsA w b M ty) (hg : w.grownBy w1 r) (hne : some b ≠ r) : IsA w1 b M ty := (hg.block b h.lt hne).trans h
theorem IsA.new {w : World} {M : List Int} {ty : TypeId} : IsA (w.alloc (.cells (ints M).toArray ty)) w.heap.size M ty := by
  show (w.heap.push _)[w.heap.size]? = _
  simp
theorem IsA.row {w : World} {b : Nat} {M N : List Int} {ty : TypeId} (h : IsA w b M ty) : IsA (w.setRow b (ints N).toArray) b N ty := setRow_heap w b _ _ _ _ h
theorem IsA.rowOther {w : World} {b g : Nat} {M : List Int} {ty : TypeId} (h : IsA w b M ty) (hne : b ≠ g) (cs : Array Value) : IsA (w.setRow g cs) b M ty := (setRow_other w g b cs hne).trans h
theorem und_num : Tryd.prog.underlying 80 = some (.array 10 3) := by kernel_rfl
theorem size_num : (Tryd.prog.info? 80).map (·.size) = some 10 := by kernel_rfl
theorem und_sides : Tryd.prog.underlying 155 = some (.array 4 80) := by kernel_rfl
theorem size_sides : (Tryd.prog.info? 155).map (·.size) = some 40 := by kernel_rfl
theorem cellsOf_int : Tryd.prog.cellsOf 3 = 1 := by kernel_rfl
theorem cellsOf_num : Tryd.prog.cellsOf 80 = 10 := by kernel_rfl
theorem plain_int : Tryd.prog.plainKey 3 = true := by kernel_rfl
theorem part_int (M : List Int) (i : Nat) (h : i < M.length) (w : World) : (part 3 (ints M).toArray i).run Tryd.prog w = .ok (.int .i64 (M.getD i 0)) w :=
  run_part_plain w plain_int (by simp [ints, h])
theorem eqItems_ints (d : Nat) (M N : List Int) (w : World) : ∀ is : List Nat, (∀ i ∈ is, i < M.length ∧ i < N.length) → (Op.eqItems (d + 1) 3 1 (ints M).toArray (ints N).toArray is).run Tryd.prog w = .ok (is.all fun i => M.getD i 0 == N.getD i 0) w
  | [], _ => by simp [Op.eqItems]
  | i :: is, h => by
    obtain ⟨h1, h2⟩ := h i (by simp)
    have ih := eqItems_ints d M N w is (fun j hj => h j (by simp [hj]))
    have p1 := part_int M i h1 w
    have p2 := part_int N i h2 w
    have p3 := run_equalIn_int (P := Tryd.prog) (w := w) d 3 .i64 .i64 (M.getD i 0) (N.getD i 0) Tryd.underlying3
    simp only [Op.eqItems, Sem.run_bind, Nat.mul_one, p1, p2, p3, Result.andThen_ok, List.all_cons]
    cases hb : (M.getD i 0 == N.getD i 0)
    · simp
    · simpa using ih
theorem all_eq {M N : List Int} (h : M.length = N.length) : ((List.range M.length).all fun i => M.getD i 0 == N.getD i 0) = decide (M = N) := by
  rw [Bool.eq_iff_iff]
  simp only [List.all_eq_true, List.mem_range, beq_iff_eq, decide_eq_true_eq]
  constructor
  · intro hh
    apply List.ext_getElem h
    intro i h1 h2
    have := hh i h1
    simpa [List.getD_eq_getElem?_getD, h1, h2] using this
  · rintro rfl i _
    rfl
theorem eq_num (d : Nat) (M N : List Int) (hM : M.length = 10) (hN : N.length = 10) (w : World) : (Op.equalIn (d + 2) 80 (.agg (ints M).toArray) (.agg (ints N).toArray)).run Tryd.prog w = .ok (decide (M = N)) w := by
  obtain ⟨i, hi⟩ : ∃ i, Tryd.prog.info? 3 = some i := by
    obtain ⟨i, hi, _⟩ := info_parts info_intI
    exact ⟨i, hi⟩
  rw [run_equalIn_array w (d + 1) _ _ und_num hi, cellsOf_int, eqItems_ints d M N w _ (fun i hi => by rw [List.mem_range] at hi; omega), ← hM, all_eq (by omega)]
theorem eql_num (M N : List Int) (hM : M.length = 10) (hN : N.length = 10) (w : World) : (Op.equalIn 10000 80 (.agg (ints M).toArray) (.agg (ints N).toArray)).run Tryd.prog w = .ok (decide (M = N)) w := eq_num 9998 M N hM hN w
/-- Four rows, one behind the other. -/
def flat4 (f : Nat → List Int) : List Int := f 0 ++ (f 1 ++ (f 2 ++ f 3))
theorem flat4_len {f : Nat → List Int} (h : ∀ k, k < 4 → (f k).length = 10) : (flat4 f).length = 40 := by
  unfold flat4
  simp only [List.length_append, h 0 (by omega), h 1 (by omega), h 2 (by omega), h 3 (by omega)]
theorem flat4_get {f : Nat → List Int} (h : ∀ k, k < 4 → (f k).length = 10) (k : Nat) (hk : k < 4) (j : Nat) (hj : j < 10) : (flat4 f)[k * 10 + j]? = (f k)[j]? := by
  have h0 := h 0 (by omega)
  have h1 := h 1 (by omega)
  have h2 := h 2 (by omega)
  unfold flat4
  match k, hk with
  | 0, _ => rw [List.getElem?_append_left (by omega)]; congr 1; omega
  | 1, _ => rw [List.getElem?_append_right (by omega), List.getElem?_append_left (by omega)]; congr 1; omega
  | 2, _ => rw [List.getElem?_append_right (by omega), List.getElem?_append_right (by omega), List.getElem?_append_left (by omega)]; congr 1; omega
  | 3, _ => rw [List.getElem?_append_right (by omega), List.getElem?_append_right (by omega), List.getElem?_append_right (by omega)]; congr 1; omega
theorem flat4_set {f : Nat → List Int} (h : ∀ k, k < 4 → (f k).length = 10) (k : Nat) (hk : k < 4) (j : Nat) (hj : j < 10) (x : Int) (g : Nat → List Int) (hg : ∀ i, i < 4 → g i = if i = k then (f i).set j x else f i) : (flat4 f).set (k * 10 + j) x = flat4 g := by
  have hgl : ∀ i, i < 4 → (g i).length = 10 := fun i hi => by
    rw [hg i hi]
    split
    · rw [List.length_set]; exact h i hi
    · exact h i hi
  apply List.ext_getElem?
  intro i
  rw [List.getElem?_set, flat4_len h]
  by_cases hi : i < 40
  · obtain ⟨a, b, hb, rfl⟩ : ∃ a b, b < 10 ∧ i = a * 10 + b := ⟨i / 10, i % 10, by omega, by omega⟩
    have ha : a < 4 := by omega
    rw [flat4_get hgl a ha b hb, flat4_get h a ha b hb, hg a ha]
    by_cases e : a = k
    · subst e
      rw [if_pos rfl, List.getElem?_set, h a ha]
      by_cases e2 : j = b
      · subst e2
        rw [if_pos rfl, if_pos rfl, if_pos (by omega), if_pos hj]
      · rw [if_neg (by omega), if_neg e2]
    · rw [if_neg (by omega), if_neg e]
  · rw [if_neg (by omega), List.getElem?_eq_none (by rw [flat4_len h]; omega), List.getElem?_eq_none (by rw [flat4_len hgl]; omega)]
theorem flat4_part {f : Nat → List Int} (h : ∀ k, k < 4 → (f k).length = 10) (k : Nat) (hk : k < 4) : (ints (flat4 f)).toArray.extract (k * 10) (k * 10 + 10) = (ints (f k)).toArray := by
  have hs : (ints (flat4 f)).toArray.size = 40 := by rw [ints_size, flat4_len h]
  apply Array.ext_getElem?
  intro j
  rw [Array.getElem?_extract, hs]
  by_cases hj : j < 10
  · have hf := flat4_get h k hk j hj
    simp only [List.getElem?_toArray, ints, List.getElem?_map, hf]
    rw [if_pos (by omega)]
  · have h2 : (ints (f k)).toArray[j]? = none := Array.getElem?_eq_none (by rw [ints_size, h k hk]; omega)
    rw [h2]
    simp
    intro h3
    omega
theorem part_num (cs : Array Value) (off : Nat) (w : World) : (part 80 cs off).run Tryd.prog w = .ok (.agg (cs.extract off (off + 10))) w := by
  have hagg : (isAgg 80).run Tryd.prog w = .ok true w := by kernel_rfl
  have hsz : (sizeOf 80).run Tryd.prog w = .ok 10 w := by kernel_rfl
  simp [part, Sem.run_bind, hagg, hsz]
theorem eqItems_sides (d : Nat) (f g : Nat → List Int) (hf : ∀ k, k < 4 → (f k).length = 10) (hg : ∀ k, k < 4 → (g k).length = 10) (w : World) : ∀ is : List Nat, (∀ i ∈ is, i < 4) → (Op.eqItems (d + 2) 80 10 (ints (flat4 f)).toArray (ints (flat4 g)).toArray is).run Tryd.prog w = .ok (is.all fun i => decide (f i = g i)) w
  | [], _ => by simp [Op.eqItems]
  | i :: is, h => by
    have hi := h i (by simp)
    have ih := eqItems_sides d f g hf hg w is (fun j hj => h j (by simp [hj]))
    have p1 := part_num (ints (flat4 f)).toArray (i * 10) w
    have p2 := part_num (ints (flat4 g)).toArray (i * 10) w
    rw [flat4_part hf i hi] at p1
    rw [flat4_part hg i hi] at p2
    have p3 := eq_num d (f i) (g i) (hf i hi) (hg i hi) w
    simp only [Op.eqItems, Sem.run_bind, p1, p2, p3, Result.andThen_ok, List.all_cons]
    cases hb : decide (f i = g i)
    · simp
    · simpa using ih
theorem eql_sides (f g : Nat → List Int) (hf : ∀ k, k < 4 → (f k).length = 10) (hg : ∀ k, k < 4 → (g k).length = 10) (w : World) : (Op.equalIn 10000 155 (.agg (ints (flat4 f)).toArray) (.agg (ints (flat4 g)).toArray)).run Tryd.prog w = .ok ((List.range 4).all fun i => decide (f i = g i)) w := by
  obtain ⟨i, hi⟩ : ∃ i, Tryd.prog.info? 80 = some i := by
    cases h : Tryd.prog.info? 80 with
    | none => have := size_num; rw [h] at this; cases this
    | some i => exact ⟨i, rfl⟩
  show (Op.equalIn (9999 + 1) _ _ _).run _ _ = _
  rw [run_equalIn_array w 9999 _ _ und_sides hi, cellsOf_num, eqItems_sides 9997 f g hf hg w _ (fun i hi => by rw [List.mem_range] at hi; exact hi)]
/-- Numbers 1 to n, each as often as told. -/
def eachU (n : Nat) (t : Int) : List Int := (List.range 10).map (fun i => if 1 ≤ i ∧ i ≤ n then t else 0)
theorem eachU_len (n : Nat) (t : Int) : (eachU n t).length = 10 := by simp [eachU]
theorem eachU_get (n : Nat) (t : Int) (j : Nat) (h : j < 10) : (eachU n t)[j]? = some (if 1 ≤ j ∧ j ≤ n then t else 0) := by
  unfold eachU
  rw [List.getElem?_map, List.getElem?_range h]
  rfl
theorem eachU_set (k : Nat) (t : Int) (h : k + 1 < 10) : (eachU k t).set (k + 1) t = eachU (k + 1) t := by
  apply List.ext_getElem?
  intro j
  rw [List.getElem?_set, eachU_len]
  by_cases hj : j < 10
  · rw [eachU_get _ _ j hj, eachU_get _ _ j hj]
    by_cases e : k + 1 = j
    · subst e
      simp [h]
    · rw [if_neg e]
      by_cases h2 : 1 ≤ j ∧ j ≤ k
      · rw [if_pos h2, if_pos (by omega)]
      · rw [if_neg h2, if_neg (by omega)]
  · have h1 : (eachU k t)[j]? = none := List.getElem?_eq_none (by rw [eachU_len]; omega)
    have h2 : (eachU (k + 1) t)[j]? = none := List.getElem?_eq_none (by rw [eachU_len]; omega)
    rw [h1, h2]
    have : ¬ k + 1 = j := by omega
    rw [if_neg this]
theorem eachU_zero (t : Int) : eachU 0 t = List.replicate 10 0 := by
  unfold eachU
  have : (fun i : Nat => if 1 ≤ i ∧ i ≤ 0 then t else 0) = fun _ => (0 : Int) := by funext i; rw [if_neg (by omega)]
  rw [this]
  decide
theorem zeros_num : (ints (List.replicate 10 0)).toArray = #[Value.int .i64 0, .int .i64 0, .int .i64 0, .int .i64 0, .int .i64 0, .int .i64 0, .int .i64 0, .int .i64 0, .int .i64 0, .int .i64 0] := rfl
set_option maxRecDepth 100000 in
theorem ret_num {fn : Func} {p : Tmp} {tmps : Array Value} {w : World} {b : Nat} {M : List Int} (h : fn.results = #[.cell p 80]) (hM : M.length = 10) (hp : tmps.getD p undef = .pointer (some ⟨b, 0, none⟩)) (hd : IsA w b M 80) : (results fn tmps).run Tryd.prog w = .ok (.agg (ints M).toArray) w :=
  results_cell_row h tmps w b _ _ _ _ hp hd und_num rfl (by rw [ints_size, hM]; exact size_num)
set_option maxHeartbeats 1600000 in
theorem eachOf_any (n : Nat) (t : Int) (h4 : n ≤ 4) (w : World) : Calls Tryd.prog 136 #[.int .i64 (n : Int), .int .i64 t] w fun e w' => e = .returned (.agg (ints (eachU n t)).toArray) ∧ Below w.heap.size w w' := by
  have hn4 : (n : Int) ≤ 4 := by omega
  have A0 := IsA.new (w := w) (M := List.replicate 10 0) (ty := 80)
  have A1 := IsA.new (w := w.alloc (.cells (ints (List.replicate 10 0)).toArray 80)) (M := List.replicate 10 0) (ty := 80)
  have B0 := A0.alloc (.cells (ints (List.replicate 10 0)).toArray 80)
  have q : Below w.heap.size w ((w.alloc (.cells (ints (List.replicate 10 0)).toArray 80)).alloc (.cells (ints (List.replicate 10 0)).toArray 80)) := by go_grown
  simp only [World.size_alloc] at A1
  rw [zeros_num] at A1 B0 q
  clear A0
  go_enter Tryd.func136, Tryd.ntmps136
  go_upto_region 2 with (fail)
  generalize (w.alloc _).alloc _ = w1 at A1 B0 q ⊢
  obtain ⟨b, hb⟩ : ∃ b, b = w.heap.size := ⟨_, rfl⟩
  have hwb : w.heap.size ≤ b := by omega
  rw [← hb] at A1 B0 ⊢
  clear hb
  have HA := hide A1
  have HB := hide B0
  have HQ := hide q
  clear A1 B0 q
  go_wp2
  go_loopw [6] (fun i wr => ∃ k : Nat, k ≤ n ∧ i = .int .i64 ((k + 1 : Nat) : Int) ∧ IsA wr (b + 1) (eachU k t) 80 ∧ IsA wr b (List.replicate 10 0) 80 ∧ Below w.heap.size w wr) (fun i _ => n + 1 - (intOf i).toNat)
  case atStart => exact ⟨0, Nat.zero_le _, rfl, by rw [eachU_zero]; exact HA.out, HB.out, HQ.out⟩
  case round =>
    obtain ⟨k, hk, rfl, A, Bz, q⟩ := hrel
    clear HA HB HQ
    by_cases hlt : k < n
    · have hki : ((k + 1 : Nat) : Int) ≤ (n : Int) := by omega
      have hk10 : ((k + 1 : Nat) : Int) < 10 := by omega
      have hk0 : (0 : Int) ≤ ((k + 1 : Nat) : Int) := by omega
      obtain ⟨ca, fa⟩ := A.cell (eachU_get k t (k + 1) (by omega))
      have HA := hide (A.set (k + 1) (by rw [eachU_len]; omega) t)
      rw [eachU_set k t (by omega)] at HA
      have HB := hide (Bz.other (p := ⟨b + 1, k + 1, none⟩) (by simp) (.int .i64 t))
      have HQ := hide (q.setCell (p := ⟨b + 1, k + 1, none⟩) (by simp; omega) (.int .i64 t))
      obtain ⟨j, hj⟩ : ∃ j, j = k + 1 := ⟨_, rfl⟩
      rw [← hj] at hki hk10 hk0 ca fa HA HB HQ ⊢
      have HJ := hide hj
      clear hj A Bz q
      go_wp2
      go_roundw
      case rel => exact ⟨k + 1, by omega, by have := HJ.out; (try rw [IntWalk.wrap64_in ((j : Int) + 1) (by omega)]); exact congrArg (Value.int .i64) (by omega), by rw [← HJ.out]; exact HA.out, HB.out, HQ.out⟩
      case measure =>
        have hw3 := IntWalk.wrap64_in ((j : Int) + 1) (by omega)
        have := HJ.out
        simp [intOf, hw3]
        try omega
    · obtain rfl : k = n := by omega
      have HA := hide A
      have HB := hide Bz
      have HLE := hide (eachU_len k t)
      have hki : ¬ ((k + 1 : Nat) : Int) ≤ (k : Int) := by omega
      obtain ⟨M, hM⟩ : ∃ M, M = eachU k t := ⟨_, rfl⟩
      have HME := hide hM
      rw [← hM] at HA HLE
      clear hM
      clear A Bz
      go_wp2_with (first
        | (refine wpList_load_row rfl 80 (.tmp 5) rfl (b + 1) rfl _ _ _ _ HA.out und_num rfl (by rw [ints_size, HLE.out]; exact size_num) ?_)
        | (refine wpList_store_row rfl 80 (.tmp 4) (.tmp 15) rfl b (ints M).toArray rfl rfl _ _ HB.out (by rw [ints_size, HLE.out]; exact size_num) (by rw [ints_size, ints_size, HLE.out]; rfl) (ints_one M) ?_))
      refine bodyPost_ret (ret_num Tryd.results136 HLE.out rfl (HB.out.row (N := M))) rfl ⟨congrArg (fun M => Ending.returned (.agg (ints M).toArray)) HME.out, ?_⟩
      exact below_setRow q hwb _
end Go.Proofs.YtjikpkembcnfnaaDoor
