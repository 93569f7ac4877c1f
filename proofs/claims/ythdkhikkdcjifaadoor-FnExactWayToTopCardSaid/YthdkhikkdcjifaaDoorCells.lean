/- The contracts of the model's cells (boCell, boFloor), and what the program's cells have to do with them. -/
import Derived.Test.YthdkhikkdcjifaaDoorRead
import Derived.Test.YthdkhikkdcjifaaDoorDie
namespace Go.Proofs.YthdkhikkdcjifaaDoor
set_option maxRecDepth 100000
set_option linter.all false
open Go.RowKit

/-- Block g holds the bytes L from its head on. -/
def BytesAt (w : World) (g : Nat) (L : List UInt8) : Prop := ∃ cur : Array Value, w.heap[g]? = some (.cells cur 5 (0, 0)) ∧ ∀ (j : Nat) (c : UInt8), L[j]? = some c → cur[j]? = some (Value.int .u8 (c.toNat : Int))
theorem BytesAt.lt {w : World} {g : Nat} {L : List UInt8} (h : BytesAt w g L) : g < w.heap.size := by
  obtain ⟨cur, h, _⟩ := h
  rcases Nat.lt_or_ge g w.heap.size with h' | h'
  · exact h'
  · simp [Array.getElem?_eq_none h'] at h
theorem bytesAt_to {w w0 w1 : World} {g : Nat} {L : List UInt8} (hb : Below w0.heap.size w0 w1) (h : BytesAt w g L) (e : w0.heap = w.heap) : BytesAt w1 g L := by
  have hl := h.lt
  obtain ⟨cur, h1, h2⟩ := h
  refine ⟨cur, ?_, h2⟩
  rw [hb.block g (by rw [e]; exact hl), e]
  exact h1
theorem BytesAt.cell {w : World} {g : Nat} {L : List UInt8} (h : BytesAt w g L) {j : Nat} {c : UInt8} (hc : L[j]? = some c) : w.cell? ⟨g, j, none⟩ = some (.int .u8 (c.toNat : Int)) := by
  obtain ⟨cur, h1, h2⟩ := h
  have := h2 j c hc
  simp [World.cell?, h1, this]
theorem bytesAt_own {w : World} {base g n cap : Nat} {L : List UInt8} (h : w.ownsRow base 5 1 (.slice (some ⟨g, 0, none⟩) n cap) n (bytesV L)) : BytesAt w g L := by
  rcases h.2 with ⟨h1, _⟩ | ⟨g', cap', cur, h1, _, h2, _, _, _, h3⟩
  · cases h1
  · simp only [Value.slice.injEq, Option.some.injEq, Addr.mk.injEq, and_true, true_and] at h1
    obtain ⟨rfl, rfl⟩ := h1
    refine ⟨cur, h2, fun j c hc => ?_⟩
    have h4 : (bytesV L)[j]? = some (.int .u8 (c.toNat : Int)) := by simp [bytesV, hc]
    rw [← h3, List.getElem?_take] at h4
    split at h4
    · simpa using h4
    · cases h4

/-- The value of a board's grid. -/
abbrev gridV (W H n g cap : Nat) : Value := .agg #[.int .i64 (W : Int), .int .i64 (H : Int), .slice (some ⟨g, 0, none⟩) n cap]
/-- A board's numbers. -/
def GridOk (l : List UInt8) (W H n : Nat) : Prop := isBd l = true ∧ width l = W ∧ (splitP l).length = H ∧ (splitP l).flatten.length = n
/-- Is there a cell? -/
def inL (l : List UInt8) (x y : Int) : Bool := decide (0 ≤ x ∧ x ≤ (width l : Int) - 1) && decide (0 ≤ y ∧ y ≤ ((splitP l).length : Int) - 1)
/-- Is there a cell that is floor? -/
def floorL (l : List UInt8) (x y : Int) : Bool := decide (((cellI (splitP l) x y).toNat : Int) = 46)
theorem bd_facts {l : List UInt8} (h : isBd l = true) : 1 ≤ width l ∧ width l ≤ 7 ∧ 1 ≤ (splitP l).length ∧ (splitP l).length ≤ 7 ∧ (splitP l).all (rowOk (width l)) = true ∧ (splitP l).flatten.length = width l * (splitP l).length := by
  unfold isBd at h
  simp only [Bool.and_eq_true, decide_eq_true_eq] at h
  exact ⟨h.1.1, h.1.2.1, List.length_pos_iff.2 (splitP_ne _), h.1.2.2.1, h.2, flat_len _ _ h.2⟩
theorem cellI_out {l : List UInt8} (h : isBd l = true) {x y : Int} (hi : inL l x y = false) : cellI (splitP l) x y = 35 := by
  obtain ⟨_, _, _, _, hall, _⟩ := bd_facts h
  unfold inL at hi
  unfold cellI
  split
  · rename_i hxy
    rw [Bool.and_eq_false_iff, decide_eq_false_iff_not, decide_eq_false_iff_not] at hi
    by_cases hy : y.toNat < (splitP l).length
    · have hr : (splitP l).getD y.toNat [] = (splitP l)[y.toNat]'hy := by simp [hy]
      rw [hr]
      have hm := List.all_eq_true.1 hall _ (List.getElem_mem hy)
      simp only [rowOk, Bool.and_eq_true, decide_eq_true_eq] at hm
      have : ¬ x.toNat < ((splitP l)[y.toNat]'hy).length := by rw [hm.1]; omega
      simp [List.getD, List.getElem?_eq_none (Nat.not_lt.1 this)]
    · simp [List.getD, List.getElem?_eq_none (Nat.not_lt.1 hy)]
  · rfl
theorem cellI_in {l : List UInt8} (h : isBd l = true) {j k : Nat} (hj : j < width l) (hk : k < (splitP l).length) : (splitP l).flatten[k * width l + j]? = some (cellI (splitP l) j k) := by
  obtain ⟨_, _, _, _, hall, _⟩ := bd_facts h
  rw [flat_at _ _ k j hall hj hk]
  unfold cellI
  rw [if_pos ⟨by omega, by omega⟩]
  rfl

theorem l1In_as (n lo hi : Int) (b : Bool) (h : decide (lo ≤ n ∧ n ≤ hi) = b) (w : World) :
    Calls Tryd.prog 54 #[.int .i64 n, .int .i64 lo, .int .i64 hi] w fun e w' => e = .returned (.bool b) ∧ w = w' := by
  rw [← h]
  exact l1In_any n lo hi w

theorem grid_facts {l : List UInt8} {W H n : Nat} (h : GridOk l W H n) : 1 ≤ W ∧ W ≤ 7 ∧ 1 ≤ H ∧ H ≤ 7 ∧ n = W * H := by
  obtain ⟨hb, rfl, rfl, rfl⟩ := h
  obtain ⟨a, b, c, d, _, e⟩ := bd_facts hb
  exact ⟨a, b, c, d, e⟩
theorem inL_eq {l : List UInt8} {W H n : Nat} (h : GridOk l W H n) (x y : Int) : inL l x y = (decide (0 ≤ x ∧ x ≤ (W : Int) - 1) && decide (0 ≤ y ∧ y ≤ (H : Int) - 1)) := by
  obtain ⟨hb, rfl, rfl, rfl⟩ := h
  rfl
set_option maxHeartbeats 800000 in
theorem boCell_any (l : List UInt8) (W H n : Nat) (hg : GridOk l W H n) (g cap : Nat) (x y : Int) (w : World) : Calls Tryd.prog 81 #[gridV W H n g cap, .int .i64 x, .int .i64 y] w fun e w' => e = .returned (.bool (inL l x y)) ∧ Below w.heap.size w w' := by
  obtain ⟨w0, w1, h0, h1, _⟩ := grid_facts hg
  have HI := hide (inL_eq hg x y)
  unfold gridV
  clear hg
  generalize hx : decide (0 ≤ x ∧ x ≤ (W : Int) - 1) = bx at HI
  generalize hy : decide (0 ≤ y ∧ y ≤ (H : Int) - 1) = bh at HI
  have HX := hide hx
  have HY := hide hy
  clear hx hy
  cases bx
  · go_enter Tryd.func81, Tryd.ntmps81
    go_wp2_with (go_at_call 54; (with_reducible refine (l1In_as x 0 ((W : Int) - 1) false HX.out _).mono ?_); rintro e w' ⟨rfl, rfl⟩)
    go_returns
    exact ⟨ret_bool (by rw [HI.out]; rfl), by go_grown⟩
  · cases bh
    · go_enter Tryd.func81, Tryd.ntmps81
      go_wp2_with (go_at_call 54; (first | (with_reducible refine (l1In_as x 0 ((W : Int) - 1) true HX.out _).mono ?_) | (with_reducible refine (l1In_as y 0 ((H : Int) - 1) false HY.out _).mono ?_)); rintro e w' ⟨rfl, rfl⟩)
      go_returns
      exact ⟨ret_bool (by rw [HI.out]; rfl), by go_grown⟩
    · go_enter Tryd.func81, Tryd.ntmps81
      go_wp2_with (go_at_call 54; (first | (with_reducible refine (l1In_as x 0 ((W : Int) - 1) true HX.out _).mono ?_) | (with_reducible refine (l1In_as y 0 ((H : Int) - 1) true HY.out _).mono ?_)); rintro e w' ⟨rfl, rfl⟩)
      go_returns
      exact ⟨ret_bool (by rw [HI.out]; rfl), by go_grown⟩

set_option maxHeartbeats 800000 in
theorem boFloor_any (l : List UInt8) (W H n : Nat) (hg : GridOk l W H n) (g cap : Nat) (x y : Int) (w : World) (hA : BytesAt w g (splitP l).flatten) : Calls Tryd.prog 95 #[gridV W H n g cap, .int .i64 x, .int .i64 y] w fun e w' => e = .returned (.bool (floorL l x y)) ∧ Below w.heap.size w w' := by
  have hb := hg.1
  cases hin : inL l x y
  · have HN := hide (show floorL l x y = false from by unfold floorL; rw [cellI_out hb hin]; rfl)
    have HIN := hide hin
    have HBD := hide hg
    clear hin hb hg
    go_enter Tryd.func95, Tryd.ntmps95
    go_wp2_with fail
    refine (boCell_any l W H n HBD.out g cap x y _).mono ?_
    rintro e w1 ⟨rfl, hb1⟩
    rw [HIN.out]
    have q1 : Below w.heap.size w w1 := below_after (by go_grown) hb1 (by simp)
    clear hb1
    go_wp2
    go_returns
    exact ⟨ret_bool HN.out.symm, q1⟩
  · have hin' := hin
    rw [inL_eq hg, Bool.and_eq_true, decide_eq_true_eq, decide_eq_true_eq] at hin'
    obtain ⟨⟨x0, x1⟩, y0, y1⟩ := hin'
    obtain ⟨w0, w1, h0, h1, hfl⟩ := grid_facts hg
    obtain ⟨j, rfl⟩ : ∃ j : Nat, x = (j : Int) := ⟨x.toNat, by omega⟩
    obtain ⟨k, rfl⟩ : ∃ k : Nat, y = (k : Int) := ⟨y.toNat, by omega⟩
    have hcell := cellI_in hb (j := j) (k := k) (by rw [hg.2.1]; omega) (by rw [hg.2.2.1]; omega)
    rw [hg.2.1] at hcell
    have HF := hide (show floorL l j k = decide (((cellI (splitP l) j k).toNat : Int) = 46) from rfl)
    generalize cellI (splitP l) (j : Int) (k : Int) = c at hcell HF
    have hpk : k * W ≤ 6 * 7 := Nat.mul_le_mul (by omega) w1
    have hlt := (List.getElem?_eq_some_iff.1 hcell).1
    rw [hg.2.2.2] at hlt
    generalize hp : k * W = p at hcell hpk hlt
    generalize hq : p + j = q at hcell hlt
    have hp2 : (k : Int) * (W : Int) = (p : Int) := by rw [← hp]; simp
    have hq2 : (p : Int) + (j : Int) = (q : Int) := by omega
    have hql : (q : Int) < (n : Int) := by omega
    have hn42 : q ≤ 100 := by omega
    have HIN := hide hin
    have HBD := hide hg
    have HA := hide hA
    have HC := hide hcell
    clear hin hb hA hcell hp hq hfl hg hlt
    go_enter Tryd.func95, Tryd.ntmps95
    go_wp2_with fail
    refine (boCell_any l W H n HBD.out g cap j k _).mono ?_
    rintro e w2 ⟨rfl, hb1⟩
    rw [HIN.out]
    have q1 : Below w.heap.size w w2 := below_after (by go_grown) hb1 (by simp)
    have hA2 := bytesAt_to q1 HA.out rfl
    have cq := hA2.cell HC.out
    have hG := isG_to hb1 (IsG.new (w := w) (x := (W : Int)) (y := (H : Int)) (v := .slice (some ⟨g, 0, none⟩) n cap)) rfl
    obtain ⟨l0, ⟨r0, r1, r2⟩, -⟩ := hG.all
    clear hb1 hG hA2
    go_wp2
    go_returns
    exact ⟨ret_bool (by rw [HF.out]; rw [Bool.eq_iff_iff]; simp), q1⟩

/-! ### The program's cells are the model's -/
theorem getD_rows (s : ByteArray) (k : Nat) : ((rowsB s).getD k ByteArray.empty).data.toList = (splitP s.data.toList).getD k [] := by
  rw [← rowsB_data]
  simp only [List.getD, List.getElem?_map]
  cases (rowsB s)[k]? <;> rfl
theorem hasB_in {s : ByteArray} (h : isBd s.data.toList = true) (x y : Int) : hasB (rowsB s) x y = inL s.data.toList x y := by
  obtain ⟨_, _, _, _, hall, _⟩ := bd_facts h
  have hlen : (rowsB s).length = (splitP s.data.toList).length := by rw [← rowsB_data, List.length_map]
  unfold hasB inL
  rw [hlen, Bool.eq_iff_iff]
  simp only [decide_eq_true_eq, Bool.and_eq_true]
  have key : ∀ k : Nat, k < (splitP s.data.toList).length → ((rowsB s).getD k ByteArray.empty).size = width s.data.toList := by
    intro k hk
    have h1 := getD_rows s k
    have h2 : (splitP s.data.toList).getD k [] = (splitP s.data.toList)[k]'hk := by simp [hk]
    have hm := List.all_eq_true.1 hall _ (List.getElem_mem hk)
    simp only [rowOk, Bool.and_eq_true, decide_eq_true_eq] at hm
    have h3 := congrArg List.length h1
    rw [h2, hm.1] at h3
    simpa using h3
  constructor
  · rintro ⟨a, b, c, d⟩
    rw [key y.toNat (by omega)] at d
    omega
  · rintro ⟨⟨a, b⟩, c, d⟩
    rw [key y.toNat (by omega)]
    omega
theorem cellB_I {s : ByteArray} (h : isBd s.data.toList = true) (x y : Int) : cellB (rowsB s) x y = cellI (splitP s.data.toList) x y := by
  unfold cellB
  rw [hasB_in h, getD_rows]
  cases hin : inL s.data.toList x y
  · rw [cellI_out h hin]
    rfl
  · have hin' := hin
    unfold inL at hin'
    rw [Bool.and_eq_true, decide_eq_true_eq, decide_eq_true_eq] at hin'
    rw [if_pos rfl]
    unfold cellI
    rw [if_pos ⟨by omega, by omega⟩]
/-- The bounds under which the program's cells may be asked. -/
theorem rows_fit {s : ByteArray} (hs : s.size ≤ 1048576) (h : isBd s.data.toList = true) : (rowsB s).length ≤ 1048576 ∧ ∀ r ∈ rowsB s, r.size ≤ 1048576 := by
  obtain ⟨_, _, _, h1, _, _⟩ := bd_facts h
  have hlen : (rowsB s).length = (splitP s.data.toList).length := by rw [← rowsB_data, List.length_map]
  exact ⟨by omega, fun r hr => Nat.le_trans (rowsB_fit s r hr) hs⟩
theorem hasCellL_any (s : ByteArray) (g : Nat) (x y : Int) (w : World) (hs : s.size ≤ 1048576) (h : isBd s.data.toList = true) (ha : RowsAt w g (rowsB s)) :
    Calls Tryd.prog 106 #[.slice (some ⟨g, 0, none⟩) (rowsB s).length (rowsB s).length, .int .i64 x, .int .i64 y] w fun e w' => e = .returned (.bool (inL s.data.toList x y)) ∧ w = w' := by
  rw [← hasB_in h]
  exact hasCell_any (rowsB s) g x y w ha (rows_fit hs h).1 (rows_fit hs h).2
theorem cellAtL_any (s : ByteArray) (g : Nat) (x y : Int) (w : World) (hs : s.size ≤ 1048576) (h : isBd s.data.toList = true) (ha : RowsAt w g (rowsB s)) :
    Calls Tryd.prog 103 #[.slice (some ⟨g, 0, none⟩) (rowsB s).length (rowsB s).length, .int .i64 x, .int .i64 y] w fun e w' => e = .returned (.int .u8 ((cellI (splitP s.data.toList) x y).toNat : Int)) ∧ w = w' := by
  rw [← cellB_I h]
  exact cellAt_any (rowsB s) g x y w ha (rows_fit hs h).1 (rows_fit hs h).2

/-! ### The two readings, by cases -/
theorem flat_pos {l : List UInt8} (h : isBd l = true) : 0 < (splitP l).flatten.length := by
  obtain ⟨a, _, c, _, _, e⟩ := bd_facts h
  rw [e]
  exact Nat.mul_pos a c
theorem boRead_yes (s : ByteArray) (w : World) (hs : s.size ≤ 1048576) (h : isBd s.data.toList = true) : Calls Tryd.prog 69 #[.string s] w fun e w' => ∃ W H n g cap, GridOk s.data.toList W H n ∧ e = .returned (.tuple #[gridV W H n g cap, .bool true]) ∧ BytesAt w' g (splitP s.data.toList).flatten ∧ Below w.heap.size w w' :=
  (boRead_any s w hs).mono fun e w' hp => by
    rcases hp with ⟨_, v, h1, h2, h3⟩ | ⟨hn, _⟩
    · obtain ⟨g, cap, rfl, _, _⟩ := own_form h2 (flat_pos h)
      exact ⟨_, _, _, g, cap, ⟨h, rfl, rfl, rfl⟩, h1, bytesAt_own h2, h3⟩
    · rw [h] at hn; cases hn
theorem boRead_no (s : ByteArray) (w : World) (hs : s.size ≤ 1048576) (h : isBd s.data.toList = false) : Calls Tryd.prog 69 #[.string s] w fun e w' => e = .returned (.tuple #[.agg #[.int .i64 0, .int .i64 0, .slice none 0 0], .bool false]) ∧ Below w.heap.size w w' :=
  (boRead_any s w hs).mono fun e w' hp => by
    rcases hp with ⟨hn, _⟩ | ⟨_, hp⟩
    · rw [h] at hn; cases hn
    · exact hp
theorem rowsOf_yes (s : ByteArray) (w : World) (hs : s.size ≤ 1048576) (hg : Glob w) (h : isBd s.data.toList = true) : Calls Tryd.prog 78 #[.string s] w fun e w' => e = .returned (.tuple #[.slice (some ⟨w.heap.size, 0, none⟩) (rowsB s).length (rowsB s).length, .bool true]) ∧ RowsAt w' w.heap.size (rowsB s) ∧ Below w.heap.size w w' :=
  (rowsOf_any s w hs hg).mono fun e w' hp => by
    rcases hp with ⟨_, hp⟩ | ⟨hn, _⟩
    · exact hp
    · have hn' : isBd s.data.toList = false := hn
      rw [h] at hn'; cases hn'
theorem rowsOf_no (s : ByteArray) (w : World) (hs : s.size ≤ 1048576) (hg : Glob w) (h : isBd s.data.toList = false) : Calls Tryd.prog 78 #[.string s] w fun e w' => e = .returned (.tuple #[.slice none 0 0, .bool false]) ∧ Below w.heap.size w w' :=
  (rowsOf_any s w hs hg).mono fun e w' hp => by
    rcases hp with ⟨hn, _⟩ | ⟨_, hp⟩
    · have hn' : isBd s.data.toList = true := hn
      rw [h] at hn'; cases hn'
    · exact hp
end Go.Proofs.YthdkhikkdcjifaaDoor
