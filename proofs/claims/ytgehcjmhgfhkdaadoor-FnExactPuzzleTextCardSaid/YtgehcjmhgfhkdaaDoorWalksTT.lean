/- The program's turned text of rows. -/
import Derived.Test.YtgehcjmhgfhkdaaDoorWalksTB
namespace Go.Proofs.YtgehcjmhgfhkdaaDoor
set_option maxRecDepth 100000
set_option linter.all false
open Go.RowKit

/-- A row of texts of which the first are filled. -/
def rowS (made : List Value) (f : Nat → List UInt8) (k : Nat) : List Value := ((List.range k).map fun i => Value.string ⟨(f i).toArray⟩) ++ made.drop k
theorem rowS_zero (made : List Value) (f : Nat → List UInt8) : rowS made f 0 = made := by simp [rowS]
theorem rowS_set (made : List Value) (f : Nat → List UInt8) (k : Nat) (h : k < made.length) : (rowS made f k).set k (.string ⟨(f k).toArray⟩) = rowS made f (k + 1) := by
  unfold rowS
  rw [List.set_append_right k _ (by simp), List.length_map, List.length_range, Nat.sub_self, List.drop_eq_getElem_cons h, List.range_succ, List.map_append, List.append_assoc]
  rfl
theorem rowS_get (made : List Value) (f : Nat → List UInt8) (k j : Nat) (h : j < k) : (rowS made f k)[j]? = some (.string ⟨(f j).toArray⟩) := by
  unfold rowS
  rw [List.getElem?_append_left (by simpa using h), List.getElem?_map, List.getElem?_range h]
  rfl
theorem RowsAt.otherT {w : World} {g : Nat} {rs : List ByteArray} (h : RowsAt w g rs) {p : Addr} (hp : g ≠ p.block) (u : Value) : RowsAt (w.setCell p u) g rs := (Below.heap_setCell w p u g hp).trans h
theorem RowsAt.keptT {w w1 : World} {g : Nat} {rs : List ByteArray} {row : Option Nat} (h : RowsAt w g rs) (hg : w.grownBy w1 row) (hne : some g ≠ row) : RowsAt w1 g rs := (hg.block g h.lt hne).trans h
theorem RowsAt.allocT {w : World} {g : Nat} {rs : List ByteArray} (h : RowsAt w g rs) (o : Obj) : RowsAt (w.alloc o) g rs := (Below.heap_alloc w o g h.lt).trans h
theorem rows_lenT (s : ByteArray) : (rowsB s).length = (splitP s.data.toList).length := by rw [← rowsB_data, List.length_map]
theorem row0_T {s : ByteArray} (h : isBd s.data.toList = true) : ∃ r, (rowsB s)[0]? = some r ∧ r.size = width s.data.toList := by
  obtain ⟨_, _, h1, _, hall, _⟩ := bd_facts h
  have hlen := rows_lenT s
  refine ⟨(rowsB s)[0]'(by omega), List.getElem?_eq_getElem (by omega), ?_⟩
  have e1 := getD_rows s 0
  have e2 : (splitP s.data.toList).getD 0 [] = (splitP s.data.toList)[0]'(by omega) := by simp [show 0 < (splitP s.data.toList).length by omega]
  have e3 : (rowsB s).getD 0 ByteArray.empty = (rowsB s)[0]'(by omega) := by simp [show 0 < (rowsB s).length by omega]
  have hm := List.all_eq_true.1 hall _ (List.getElem_mem (show 0 < (splitP s.data.toList).length by omega))
  simp only [rowOk, Bool.and_eq_true, decide_eq_true_eq] at hm
  have h3 := congrArg List.length e1
  rw [e2, e3, hm.1] at h3
  simpa using h3
set_option maxHeartbeats 800000 in
theorem join1 (g c : Nat) (x : ByteArray) (w : World) (hc : w.cell? ⟨g, 0, none⟩ = some (.string x)) : Calls Tryd.prog 54 #[.slice (some ⟨g, 0, none⟩) 1 c, .string ⟨#[47]⟩] w fun e w' => e = .returned (.string x) ∧ w = w' := by
  go_enter Tryd.func54, Tryd.ntmps54
  go_wp2
  go_returns
  exact ⟨rfl, rfl⟩
theorem joinT (g c : Nat) (f : Nat → List UInt8) (W H : Nat) (w : World) (hc : ∀ j, j < W → w.cell? ⟨g, j, none⟩ = some (.string ⟨(f j).toArray⟩)) (hg : g < w.heap.size) (h1 : 1 ≤ W) (h7 : W ≤ 7) (hcap : W ≤ c) (hf : ∀ j, (f j).length = H) (hH : H ≤ 7) : Calls Tryd.prog 54 #[.slice (some ⟨g, 0, none⟩) W c, .string ⟨#[47]⟩] w fun e w' => e = .returned (.string ⟨(joinB ((List.range W).map f)).toArray⟩) ∧ Below w.heap.size w w' := by
  rcases Nat.lt_or_ge 1 W with h2 | h2
  · have h := joinJ g c ((List.range W).map fun j => (⟨(f j).toArray⟩ : ByteArray)) w (by
      intro j x hx
      rw [List.getElem?_map] at hx
      obtain ⟨i, hi, rfl⟩ := Option.map_eq_some_iff.1 hx
      obtain ⟨hlt, hi⟩ := List.getElem?_eq_some_iff.1 hi
      rw [List.getElem_range] at hi
      subst hi
      exact hc _ (by simpa using hlt)) hg (by simp; omega) (by simp; omega) (by simpa using hcap) (by
      intro x hx
      obtain ⟨i, _, rfl⟩ := List.mem_map.1 hx
      show (f i).toArray.size ≤ 100
      rw [List.size_toArray, hf i]
      omega)
    simpa [Function.comp_def] using h
  · obtain rfl : W = 1 := by omega
    refine (join1 g c _ w (hc 0 (by omega))).mono ?_
    rintro e w' ⟨rfl, rfl⟩
    exact ⟨by simp [joinB], Below.refl _ _⟩

set_option maxHeartbeats 4000000 in
theorem turnedText_any (rs : List ByteArray) (gR : Nat) (F : List UInt8) (W H : Nat) (w1 : 1 ≤ W) (w7 : W ≤ 7) (h1 : 1 ≤ H) (h7 : H ≤ 7) (hN : rs.length = H) (r0 : ByteArray) (hr0 : rs[0]? = some r0) (hr0s : r0.size = W) (hC : ∀ x y : Nat, x < W → y < H → F[y * W + x]? = some (cellB rs x y)) (hl : rs.length ≤ 1048576) (hz : ∀ r ∈ rs, r.size ≤ 1048576) (w : World) (RA : RowsAt w gR rs) :
    Calls Tryd.prog 75 #[.slice (some ⟨gR, 0, none⟩) rs.length rs.length] w fun e w' => e = .returned (.string ⟨(joinB (rowsT F W H)).toArray⟩) ∧ Below w.heap.size w w' := by
  have HCI := hide hC
  have HLZ := hide (And.intro hl hz)
  clear hC hl hz
  obtain ⟨i0, hi, hz0, hz1, hz2⟩ := info_parts info_byte
  have HI := hide hi
  have HZ0 := hide hz0
  have HZ1 := hide hz1
  have HZ2 := hide hz2
  clear hi hz0 hz1 hz2
  obtain ⟨i1, hi, hz0, hz1, hz2⟩ := info_parts info_strT
  have HJ := hide hi
  have HY0 := hide hz0
  have HY1 := hide hz1
  have HY2 := hide hz2
  clear hi hz0 hz1 hz2
  have cr := RA.cell hr0
  have HRA := hide RA
  have HNN := hide hN
  rw [hN]
  have hN0 : (0 : Int) < (H : Int) := by omega
  have hgR := RA.lt
  clear RA hr0 hN
  go_enter Tryd.func75, Tryd.ntmps75
  go_wp2_with (at_make; refine wpList_make_full _ rfl _ _ 40 rfl w.heap.size 9 i1 (.string ⟨#[]⟩) 1 Tryd.underlying40 HJ.out HY0.out HY1.out .i64 .i64 _ _ W rfl rfl (by omega) (by omega) (by rw [HY2.out]; omega) (by unfold maxLen; omega) (Nat.le_refl _) ?_; intro wb T0 hgr0)
  have RB := hide (HRA.out.keptT hgr0 (by simp))
  have qb : Below w.heap.size w wb := (Below.refl _ _).grown hgr0 (Nat.le_refl _) (fun k hk => by cases hk)
  generalize (madeCells (Value.string ⟨#[]⟩).cells (W * 1)).toList = made at T0
  have hml : made.length = W := by have := T0.1; omega
  obtain ⟨g1, hg1⟩ : ∃ g1, g1 = w.heap.size := ⟨_, rfl⟩
  have hga : gR < g1 := by omega
  have hge : w.heap.size ≤ g1 := by omega
  rw [← hg1] at T0 ⊢
  clear hg1
  have HT0 := hide T0
  clear cr hgr0 HRA T0
  go_wp2
  go_loopw [14, 4, 5, 6] (fun xi _ _ _ wr => ∃ x : Nat, x ≤ W ∧ xi = .int .i64 (x : Int) ∧ wr.ownsRow g1 9 1 (.slice (some ⟨g1, 0, none⟩) W W) W (rowS made (fun i => colT F W H i H) x) ∧ RowsAt wr gR rs ∧ Below w.heap.size w wr) (fun xi _ _ _ _ => W - (intOf xi).toNat)
  case atStart => exact ⟨0, Nat.zero_le _, rfl, by rw [rowS_zero]; exact HT0.out, RB.out, qb⟩
  case round =>
    clear HT0 RB qb
    obtain ⟨x, hx, rfl, T, RA, q⟩ := hrel
    have hgT := (T.lt g1 rfl).2
    by_cases hlt : x < W
    · have hxi : (x : Int) < (W : Int) := by omega
      have HT := hide T
      have HRA := hide RA
      clear T RA
      go_wp2_with (at_make; refine wpList_make_own _ rfl _ _ 75 rfl wr.heap.size 5 i0 (.int .u8 0) 1 Tryd.underlying75 HI.out HZ0.out HZ1.out .i64 .i64 _ H rfl rfl (by omega) (by rw [HZ2.out]; omega) (by unfold maxLen; omega) (Nat.le_refl _) ?_; intro wb O0 hgr0)
      have T1 := HT.out.kept hgr0 (.inr (by simp [Value.ownBlock]))
      have R1 := HRA.out.keptT hgr0 (by simp)
      have q1 := q.grown hgr0 q.size (fun k hk => by cases hk)
      have hqs := q.size
      generalize wr.heap.size = g2 at O0 hgT hqs ⊢
      have HST := hide (show wb.ownsRow g2 5 1 (.slice (some ⟨g2, 0, none⟩) 0 H) 0 (bytesV (colT F W H x 0)) ∧ wb.ownsRow g1 9 1 (.slice (some ⟨g1, 0, none⟩) W W) W (rowS made (fun i => colT F W H i H) x) ∧ RowsAt wb gR rs ∧ Below w.heap.size w wb from ⟨O0, T1, R1, q1⟩)
      clear O0 T1 R1 q1 q HT HRA hgr0
      go_wp2
      go_loopw [5, 6] (fun o yi wi => ∃ i : Nat, i ≤ H ∧ yi = .int .i64 ((H : Int) - 1 - (i : Int)) ∧ o = .slice (some ⟨g2, 0, none⟩) i H ∧ wi.ownsRow g2 5 1 (.slice (some ⟨g2, 0, none⟩) i H) i (bytesV (colT F W H x i)) ∧ wi.ownsRow g1 9 1 (.slice (some ⟨g1, 0, none⟩) W W) W (rowS made (fun i => colT F W H i H) x) ∧ RowsAt wi gR rs ∧ Below w.heap.size w wi) (fun _ yi _ => (intOf yi + 1).toNat)
      case atStart => exact ⟨0, Nat.zero_le _, by simp, rfl, HST.out⟩
      case round =>
        clear HST
        obtain ⟨i, hi, rfl, rfl, O, T, RA, q⟩ := hrel
        by_cases hih : i < H
        · obtain ⟨y, hy⟩ : ∃ y : Nat, y = H - 1 - i := ⟨_, rfl⟩
          have hyi : ((H : Int) - 1 - (i : Int)) = (y : Int) := by omega
          have hy0 : (0 : Int) ≤ (y : Int) := by omega
          have hcell := HCI.out x y hlt (by omega)
          have hca := cellAt_any rs gR (x : Int) (y : Int) wr RA HLZ.out.1 HLZ.out.2
          rw [HNN.out] at hca
          have HCA := hide hca
          clear hca
          generalize cellB rs (x : Int) (y : Int) = c at hcell HCA
          have HS := hide (show bytesV (colT F W H x (i + 1)) = bytesV (colT F W H x i) ++ [.int .u8 (c.toNat : Int)] from by
            rw [colT, ← hy, bytesV_snoc, List.getD, hcell]
            rfl)
          have HY := hide hyi
          rw [hyi]
          have hsz := q.size
          have hgr := (O.lt g2 rfl).2
          have hT1 := (T.lt g1 rfl).2
          have hroom : i + 1 ≤ H := by omega
          clear hcell hyi hy
          go_wp2_with (first
            | (go_at_call 91; refine HCA.out.mono ?_; rintro e w' ⟨rfl, rfl⟩)
            | (at_builtin; refine wpList_append_fits _ rfl _ _ 75 rfl g2 5 i0 1 Tryd.underlying75 HI.out HZ1.out g2 i H _ rfl (O.alloc _) ⟨wr.heap.size, 0, none⟩ 1 1 [.int .u8 (c.toNat : Int)] rfl rfl ?c1 ?c2 hroom ?_))
          case c1 =>
            intro j u hj
            match j, hj with
            | 0, hj => simp at hj; subst hj; simp [Addr.add, World.cell?_alloc_mark]
          case c2 => intro u hu; simp at hu; subst hu; rfl
          · intro w3 hown3 hg3
            have HST := hide (show w3.ownsRow g2 5 1 (.slice (some ⟨g2, 0, none⟩) (i + 1) H) (i + 1) (bytesV (colT F W H x (i + 1))) ∧ w3.ownsRow g1 9 1 (.slice (some ⟨g1, 0, none⟩) W W) W (rowS made (fun i => colT F W H i H) x) ∧ RowsAt w3 gR rs ∧ Below w.heap.size w w3 from by
              refine ⟨by rw [HS.out]; exact hown3, (T.alloc _).kept hg3 (.inr (by simp [Value.ownBlock]; omega)), (RA.allocT _).keptT hg3 (by simp; omega), ?_⟩
              exact (q.alloc hsz _).grown hg3 (by simp; omega) (fun k hk => by cases hk; omega))
            clear hown3 hg3 O T RA q HCA
            go_wp2
            go_roundw
            case rel =>
              refine ⟨i + 1, by omega, ?_, rfl, HST.out⟩
              have := HY.out
              rw [show ((H : Int) - 1 - ((i + 1 : Nat) : Int)) = (y : Int) - 1 from by omega]
              first | rfl | rw [IntWalk.wrap64_in ((y : Int) - 1) (by omega)]
            case measure =>
              have := HY.out
              have hw3 := IntWalk.wrap64_in ((y : Int) - 1) (by omega)
              simp [intOf, hw3]
              try omega
        · obtain rfl : i = H := by omega
          have hyi : ((i : Int) - 1 - (i : Int)) = -1 := by omega
          rw [hyi]
          have hcv := bytes_backT O (colT_len F W i x i)
          have hxm : x < made.length := by omega
          have HS := hide (rowS_set made (fun k => colT F W i k i) x hxm)
          obtain ⟨yv, hyv⟩ : ∃ yv, (rowS made (fun k => colT F W i k i) x)[x]? = some yv := ⟨_, List.getElem?_eq_getElem (by have := T.1; omega)⟩
          have d0 := (T.cellAt x (by omega)).trans hyv
          have df := own_freeT T x
          have hgr := (O.lt g2 rfl).2
          have hT1 := (T.lt g1 rfl).2
          have hsz := q.size
          have HST := hide (show (wr.setCell ⟨g1, x, none⟩ (.string ⟨(colT F W i x i).toArray⟩)).ownsRow g1 9 1 (.slice (some ⟨g1, 0, none⟩) W W) W (rowS made (fun k => colT F W i k i) (x + 1)) ∧ RowsAt (wr.setCell ⟨g1, x, none⟩ (.string ⟨(colT F W i x i).toArray⟩)) gR rs ∧ Below w.heap.size w (wr.setCell ⟨g1, x, none⟩ (.string ⟨(colT F W i x i).toArray⟩)) from by
            refine ⟨?_, RA.otherT (by simp; omega) _, q.setCell (by simp; omega) _⟩
            rw [← HS.out]
            exact own_putT T x (by omega) _)
          clear O T RA q hyv HS
          go_wp2
          go_roundw
          case rel => exact ⟨x + 1, by omega, by go_num, HST.out⟩
          case measure => simp [intOf] <;> omega
    · obtain rfl : x = W := by omega
      have HC := hide (show ∀ j, j < x → wr.cell? ⟨g1, j, none⟩ = some (.string ⟨(colT F x H j H).toArray⟩) from fun j hj => (T.cellAt j (by omega)).trans (rowS_get made (fun i => colT F x H i H) x j hj))
      have HQ := hide q
      clear T RA q
      go_wp2_with fail
      refine (joinT g1 x (fun j => colT F x H j H) x H wr HC.out hgT w1 w7 (Nat.le_refl _) (fun j => colT_len F x H j H) h7).mono ?_
      rintro e w4 ⟨rfl, hb4⟩
      go_wp2
      go_returns
      exact ⟨rfl, below_after HQ.out hb4 HQ.out.size⟩
end Go.Proofs.YtgehcjmhgfhkdaaDoor
