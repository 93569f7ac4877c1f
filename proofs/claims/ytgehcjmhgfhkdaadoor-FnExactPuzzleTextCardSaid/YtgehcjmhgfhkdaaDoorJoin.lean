/- strings.Join of a few short texts, out of the builder's contracts (the kit's own laying of Join falls at copyCheck's refused statement). -/
import Derived.Test.YtgehcjmhgfhkdaaDoorShelf
import Derived.Test.YtgehcjmhgfhkdaaDoorBase
import Derived.Test.YtgehcjmhgfhkdaaDoorState
import Derived.Lib.AppendStr
import Derived.Lib.Builder
import Derived.Deep.Cut
namespace Go.Proofs.YtgehcjmhgfhkdaaDoor
set_option maxRecDepth 100000
set_option linter.all false
open Go.RowKit

theorem info_u8J : (Tryd.prog.info? 5).map (fun i => (i.zero, i.size, i.bytes)) = some (some (.int .u8 0), 1, 1) := by kernel_rfl
theorem copyCheckJ (B b : Nat) (bs : List Value) (w : World) (h : Lib.BuilderAt 116 5 B b (.pointer (some ⟨b, 0, none⟩)) bs w) : Calls Tryd.prog 97 #[.pointer (some ⟨b, 0, none⟩)] w fun e w' => e = .returned (.tuple #[]) ∧ w = w' := by
  have c0 := h.cell0
  have hinfo : (Tryd.prog.info? 116).map (fun i => i.size) = some 2 := by kernel_rfl
  obtain ⟨j, hj, -⟩ := Option.map_eq_some_iff.1 hinfo
  clear h hinfo
  go_enter Tryd.func97, Tryd.ntmps97
  go_wp2
  rw [Lib.run_neq_ptr_same w _ Tryd.underlying114 hj]
  go_wp2
  go_returns
  exact ⟨rfl, rfl⟩
set_option maxHeartbeats 800000 in
theorem writeStringJ (B b : Nat) (bs : List Value) (s : ByteArray) (w : World) (h : Lib.BuilderAt 116 5 B b (.pointer (some ⟨b, 0, none⟩)) bs w) (hl : bs.length + s.size ≤ 100000) (hBw : B ≤ w.heap.size) : Calls Tryd.prog 80 #[.pointer (some ⟨b, 0, none⟩), .string s] w fun e w' => (∃ r, e = .returned r) ∧ Lib.BuilderAt 116 5 B b (.pointer (some ⟨b, 0, none⟩)) (bs ++ Lib.strCells s) w' ∧ Below B w w' := by
  obtain ⟨i0, hi, hz0, hz1, hz2⟩ := info_parts info_u8J
  have HI := hide hi
  have HZ0 := hide hz0
  have HZ1 := hide hz1
  have HZ2 := hide hz2
  clear hi hz0 hz1 hz2
  have HC := hide (copyCheckJ B b bs w h)
  obtain ⟨hB, v, hb, hown, hne⟩ := h
  have HO := hide hown
  have HBK := hide hb
  have c1 : w.cell? ⟨b, 1, none⟩ = some v := by simp [World.cell?, hb]
  have f1 : w.frozen? ⟨b, 1, none⟩ = false := by simp [World.frozen?, hb]
  have hbl := lt_of_block hb
  have hvl := fun j hj => hown.lt j hj
  clear hown hb
  go_enter Tryd.func80, Tryd.ntmps80
  go_wp2_with fail
  refine HC.out.mono ?_
  rintro e w1 ⟨rfl, rfl⟩
  go_upto_region 2 with (fail)
  go_wp2_with (at_builtin; refine Lib.wpList_append_own_string _ rfl _ _ 75 9 rfl B 5 i0 Tryd.underlying75 Tryd.underlying9 HI.out HZ0.out HZ1.out HZ2.out _ _ _ rfl HO.out s rfl ?c3 ?c4 ?c5 ?_)
  case c3 => unfold maxLen; omega
  case c4 => omega
  case c5 => exact hBw
  intro v2 w2 hown2 hg2 _
  have hb2 : w2.heap[b]? = some (.cells #[.pointer (some ⟨b, 0, none⟩), v] 116 (0, 0)) := (hg2.block b hbl (fun e => hne e.symm)).trans HBK.out
  have c2 : w2.cell? ⟨b, 1, none⟩ = some v := by simp [World.cell?, hb2]
  have f2 : w2.frozen? ⟨b, 1, none⟩ = false := by simp [World.frozen?, hb2]
  have P2 := hide (Lib.BuilderAt.put (v' := v2) (bs' := bs ++ Lib.strCells s) hB hb2 (by rw [List.length_append, Lib.strCells_length]; exact hown2) (by decide))
  have q2 : Below B w w2 := (Below.refl _ _).grown hg2 hBw (fun j hj => (hvl j hj).1)
  have q3 := q2.setCell (p := ⟨b, 1, none⟩) hB v2
  have hform : v2 = .slice none 0 0 ∨ ∃ g c, v2 = .slice (some ⟨g, 0, none⟩) (bs.length + s.size) c := by
    rcases hown2.2 with ⟨e, _⟩ | ⟨g, c, _, e, _⟩
    · exact .inl e
    · exact .inr ⟨g, c, e⟩
  clear c1 f1 hown2 hb2 hg2 q2
  rcases hform with rfl | ⟨g, c, rfl⟩
  all_goals
    go_wp2
    go_returns
    exact ⟨⟨_, rfl⟩, P2.out, q3⟩
/-- Texts with a slash between them. -/
def joinB : List (List UInt8) → List UInt8
  | [] => []
  | x :: xs => x ++ xs.flatMap fun y => 47 :: y
def sizeB (xs : List ByteArray) : Nat := (xs.map (·.size)).sum
theorem sizeB_take (xs : List ByteArray) (k : Nat) (x : ByteArray) (h : xs[k]? = some x) : sizeB (xs.take (k + 1)) = sizeB (xs.take k) + x.size := by
  unfold sizeB
  rw [List.take_add_one, h, List.map_append, List.sum_append]
  simp
theorem sizeB_le (xs : List ByteArray) : ∀ k, (∀ x ∈ xs, x.size ≤ 100) → sizeB (xs.take k) ≤ 100 * k
  | 0, _ => by simp [sizeB]
  | k + 1, h => by
    cases hk : xs[k]? with
    | none =>
      have : xs.take (k + 1) = xs.take k := by rw [List.take_add_one, hk]; simp
      rw [this]
      have := sizeB_le xs k h
      omega
    | some x =>
      rw [sizeB_take xs k x hk]
      have h1 := sizeB_le xs k h
      have h2 := h x (List.mem_of_getElem? hk)
      omega
theorem strCells_byte (s : ByteArray) : Lib.strCells s = Lib.byteCells s.data.toList := by
  simp [Lib.strCells, Lib.byteCells]

/-- The text behind the first text and k more. -/
def partB (x : List UInt8) (xs : List (List UInt8)) (k : Nat) : List UInt8 := x ++ (xs.take k).flatMap fun y => 47 :: y
theorem partB_zero (x : List UInt8) (xs : List (List UInt8)) : partB x xs 0 = x := by simp [partB]
theorem partB_succ (x : List UInt8) (xs : List (List UInt8)) (k : Nat) (y : List UInt8) (h : xs[k]? = some y) : partB x xs (k + 1) = partB x xs k ++ [47] ++ y := by
  unfold partB
  rw [List.take_add_one, h]
  simp
theorem partB_done (x : List UInt8) (xs : List (List UInt8)) : partB x xs xs.length = joinB (x :: xs) := by simp [partB, joinB]
theorem byteCells_append (a b : List UInt8) : Lib.byteCells (a ++ b) = Lib.byteCells a ++ Lib.byteCells b := by simp [Lib.byteCells]
theorem partB_len (x : List UInt8) (xs : List (List UInt8)) (hx : x.length ≤ 100) (h : ∀ y ∈ xs, y.length ≤ 100) : ∀ k, (partB x xs k).length ≤ 100 + 101 * k
  | 0 => by simp [partB]; omega
  | k + 1 => by
    have ih := partB_len x xs hx h k
    cases hk : xs[k]? with
    | none =>
      have : partB x xs (k + 1) = partB x xs k := by unfold partB; rw [List.take_add_one, hk]; simp
      rw [this]
      omega
    | some y =>
      rw [partB_succ x xs k y hk]
      have := h y (List.mem_of_getElem? hk)
      simp
      omega
theorem run_tail (g n c : Nat) (h1 : 1 ≤ n) (h2 : n ≤ c) (h3 : 2 ≤ c) (wx : World) : (Instr.slice 40 (.slice (some ⟨g, 0, none⟩) n c) (some (.int .i64 1)) none none).run Tryd.prog wx = .ok (.slice (some ⟨g, 1, none⟩) (n - 1) (c - 1)) wx := by
  have e1 : ¬ c = 1 := by omega
  have e2 : (0 : Int) ≤ 1 ∧ (1 : Int) ≤ (n : Int) := by omega
  simp [Instr.slice, run_underlying Tryd.underlying40, Instr.sliceBounds, Instr.sliceBound, asIntOf, go_sem, e1, Addr.add]
  try (intro h; omega)

set_option maxHeartbeats 3200000 in
theorem joinJ (g c : Nat) (xs : List ByteArray) (w : World) (hc : ∀ j x, xs[j]? = some x → w.cell? ⟨g, j, none⟩ = some (.string x)) (hg : g < w.heap.size) (h2 : 2 ≤ xs.length) (h100 : xs.length ≤ 100) (hcap : xs.length ≤ c) (hx : ∀ x ∈ xs, x.size ≤ 100) : Calls Tryd.prog 54 #[.slice (some ⟨g, 0, none⟩) xs.length c, .string ⟨#[47]⟩] w fun e w' => e = .returned (.string ⟨(joinB (xs.map (·.data.toList))).toArray⟩) ∧ Below w.heap.size w w' := by
  have HC := hide hc
  have HX := hide hx
  have hn0 : (((xs.length : Nat) : Int) == 0) = false := by simpa using (show ¬ ((xs.length : Nat) : Int) = 0 by omega)
  have hn1 : (((xs.length : Nat) : Int) == 1) = false := by simpa using (show ¬ ((xs.length : Nat) : Int) = 1 by omega)
  have hq : (1 : Int) < 9223372036854775807 / (((xs.length : Nat) : Int) - 1) := by
    have : (2 : Int) ≤ 9223372036854775807 / (((xs.length : Nat) : Int) - 1) := (Int.le_ediv_iff_mul_le (by omega)).2 (by omega)
    omega
  clear hc hx
  go_enter Tryd.func54, Tryd.ntmps54
  go_upto_region 11 with (fail)
  go_wp2
  go_loop [41, 7, 5] (fun i _ t => ∃ k T : Nat, k ≤ xs.length ∧ i = .int .i64 (k : Int) ∧ t = .int .i64 (T : Int) ∧ T = xs.length - 1 + sizeB (xs.take k)) (fun i _ _ => xs.length - (intOf i).toNat)
  case atStart => exact ⟨0, xs.length - 1, Nat.zero_le _, rfl, by first | rfl | (congr 1; omega), by simp [sizeB]⟩
  case round =>
    obtain ⟨k, T, hk, rfl, rfl, hT⟩ := hrel
    have hTT := sizeB_le xs k HX.out
    have HT := hide hT
    have hT2 : T ≤ 20000 := by omega
    clear hT
    by_cases hlt : k < xs.length
    · have hxk : xs[k]? = some (xs[k]'hlt) := List.getElem?_eq_getElem hlt
      generalize xs[k]'hlt = x at hxk
      have hcell := HC.out k x hxk
      have hsz := HX.out x (List.mem_of_getElem? hxk)
      have HN := hide (sizeB_take xs k x hxk)
      have w1q : IntKind.i64.wrap (9223372036854775807 - (T : Int)) = 9223372036854775807 - (T : Int) := IntWalk.i64_in _ (by omega)
      have w2q : IntKind.i64.wrap ((T : Int) + (x.size : Int)) = (T : Int) + (x.size : Int) := IntWalk.i64_in _ (by omega)
      have hgt : ¬ ((x.size : Int) > 9223372036854775807 - (T : Int)) := by omega
      have hki : (k : Int) < ((xs.length : Nat) : Int) := by omega
      clear hxk
      go_wp2
      go_round
      case rel => exact ⟨k + 1, T + x.size, by omega, by go_num, by go_num, by rw [HN.out, HT.out]; omega⟩
      case measure => simp [intOf] <;> omega
    · obtain rfl : k = xs.length := by omega
      have hx0 : xs[0]? = some (xs[0]'(by omega)) := List.getElem?_eq_getElem (by omega)
      generalize xs[0]'(by omega) = x0 at hx0
      have hs0 := HX.out x0 (List.mem_of_getElem? hx0)
      have HJ := hide (show joinB (xs.map (·.data.toList)) = partB x0.data.toList ((xs.drop 1).map (·.data.toList)) (xs.length - 1) from by
        have e : xs = x0 :: xs.drop 1 := by
          cases xs with
          | nil => simp at h2
          | cons a l =>
            simp at hx0
            simp [hx0]
        have hl : ((xs.drop 1).map (·.data.toList)).length = xs.length - 1 := by simp
        rw [← hl, partB_done]
        conv => lhs; rw [e]
        rfl)
      have HY := hide (show ∀ k, (partB x0.data.toList ((xs.drop 1).map (·.data.toList)) k).length ≤ 100 + 101 * k from partB_len _ _ (by simpa using hs0) (by
        intro y hy
        obtain ⟨z, hz, rfl⟩ := List.mem_map.1 hy
        have := HX.out z (List.mem_of_mem_drop hz)
        simpa using this))
      have HYS := hide (show ∀ (k : Nat) (y : ByteArray), xs[k + 1]? = some y → ((xs.drop 1).map (·.data.toList))[k]? = some y.data.toList from fun k y h => by
        rw [List.getElem?_map, List.getElem?_drop, Nat.add_comm 1 k, h]
        rfl)
      generalize (xs.drop 1).map (·.data.toList) = YS at HJ HY HYS
      have HBK := hide (show (w.alloc (.cells #[.pointer none, .slice none 0 0] 116)).heap[w.heap.size]? = some (.cells #[.pointer none, .slice none 0 0] 116 (0, 0)) from by
        show (w.heap.push _)[w.heap.size]? = _
        simp)
      go_wp2_with fail
      refine (Tryd.Builder_Grow_fresh w.heap.size w.heap.size T _ (Nat.le_refl _) HBK.out (by simp) (by omega)).mono ?_
      rintro e w1 ⟨rfl, P1, b1⟩
      have q1 : Below w.heap.size w w1 := ((Below.refl _ w).alloc (Nat.le_refl _) _).trans b1
      have c0 : w1.cell? ⟨g, 0, none⟩ = some (.string x0) := (q1.cell (p := ⟨g, 0, none⟩) hg).trans (HC.out 0 x0 hx0)
      clear b1
      go_wp2_with fail
      clear c0
      refine (writeStringJ w.heap.size w.heap.size [] x0 w1 P1 (by simp; omega) q1.size).mono ?_
      rintro e w2 ⟨⟨r, rfl⟩, P2, b2⟩
      have q2 := q1.trans b2
      have HP2 := hide (show Lib.BuilderAt 116 5 w.heap.size w.heap.size (.pointer (some ⟨w.heap.size, 0, none⟩)) (Lib.byteCells (partB x0.data.toList YS 0)) w2 from by
        rw [partB_zero, ← strCells_byte]
        exact P2)
      have stq := fun wx => run_tail g xs.length c (by omega) hcap (by omega) wx
      clear P1 P2 b2 q1
      go_wp2
      go_loopw [65, 10] (fun i _ wr => ∃ k : Nat, k ≤ xs.length - 1 ∧ i = .int .i64 (k : Int) ∧ Lib.BuilderAt 116 5 w.heap.size w.heap.size (.pointer (some ⟨w.heap.size, 0, none⟩)) (Lib.byteCells (partB x0.data.toList YS k)) wr ∧ Below w.heap.size w wr) (fun i _ _ => xs.length - 1 - (intOf i).toNat)
      case atStart => exact ⟨0, Nat.zero_le _, rfl, HP2.out, q2⟩
      case round =>
        obtain ⟨k, hk, rfl, P, q⟩ := hrel
        clear HP2 q2
        have hpl := HY.out k
        by_cases hlt : k < xs.length - 1
        · have hxk : xs[k + 1]? = some (xs[k + 1]'(by omega)) := List.getElem?_eq_getElem (by omega)
          generalize xs[k + 1]'(by omega) = y at hxk
          have hsy := HX.out y (List.mem_of_getElem? hxk)
          have HS := hide (partB_succ x0.data.toList YS k y.data.toList (HYS.out k y hxk))
          have hcell : wr.cell? ⟨g, 1 + k, none⟩ = some (.string y) := by
            rw [Nat.add_comm]
            exact (q.cell (p := ⟨g, k + 1, none⟩) hg).trans (HC.out (k + 1) y hxk)
          have hki : (k : Int) < ((xs.length - 1 : Nat) : Int) := by omega
          have hki2 : (k : Int) < ((xs.length : Nat) : Int) - 1 := by omega
          have HP := hide P
          clear P hxk
          go_wp2_with fail
          refine (writeStringJ w.heap.size w.heap.size _ ⟨#[47]⟩ wr HP.out (by rw [Lib.byteCells_length]; show _ + 1 ≤ _; omega) q.size).mono ?_
          rintro e w3 ⟨⟨r3, rfl⟩, P3, b3⟩
          have q3 := q.trans b3
          have HP3 := hide P3
          clear P3 b3
          go_wp2_with fail
          refine (writeStringJ w.heap.size w.heap.size _ y w3 HP3.out (by rw [List.length_append, Lib.byteCells_length, Lib.strCells_length]; show _ + 1 + _ ≤ _; omega) q3.size).mono ?_
          rintro e w4 ⟨⟨r4, rfl⟩, P4, b4⟩
          have q4 := q3.trans b4
          have HP4 := hide (show Lib.BuilderAt 116 5 w.heap.size w.heap.size (.pointer (some ⟨w.heap.size, 0, none⟩)) (Lib.byteCells (partB x0.data.toList YS (k + 1))) w4 from by
            rw [HS.out, byteCells_append, byteCells_append, ← strCells_byte y]
            exact P4)
          clear P4 b4
          go_wp2
          go_roundw
          case rel => exact ⟨k + 1, by omega, by go_num, HP4.out, q4⟩
          case measure => simp [intOf] <;> omega
        · obtain rfl : k = xs.length - 1 := by omega
          have HP := hide P
          clear P
          go_wp2_with fail
          refine (Tryd.Builder_String_any w.heap.size w.heap.size _ wr (.inr HP.out) q.size).mono ?_
          rintro e w5 ⟨rfl, b5⟩
          have q5 := q.trans b5
          go_wp2
          go_returns
          exact ⟨by rw [HJ.out]; rfl, q5⟩
end Go.Proofs.YtgehcjmhgfhkdaaDoor
