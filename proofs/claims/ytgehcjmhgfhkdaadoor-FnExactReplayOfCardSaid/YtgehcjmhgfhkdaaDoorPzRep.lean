/- The replay of a word: ReplayOf of the program and of the model. -/
import Derived.Test.YtgehcjmhgfhkdaaDoorPzWay
import Derived.Test.YtgehcjmhgfhkdaaDoorWalksR
import Derived.Test.YtgehcjmhgfhkdaaDoorStrs
namespace Go.Proofs.YtgehcjmhgfhkdaaDoor
set_option maxRecDepth 100000
set_option linter.all false
open Go.RowKit

/-- The texts of the dice along the word. -/
def rpL (p : Pz) (L : List UInt8) : List (List UInt8) := (WL p L).map fun s => dText s.d
theorem rpL_len (p : Pz) (L : List UInt8) : (rpL p L).length = (WL p L).length := by simp [rpL]
theorem rpL_at {p : Pz} {L : List UInt8} {k : Nat} {u : St} (h : (WL p L)[k]? = some u) : (rpL p L)[k]? = some (dText u.d) := by
  unfold rpL
  rw [List.getElem?_map, h]
  rfl
theorem WL_good {p : Pz} {L : List UInt8} {k : Nat} {u : St} (h : (WL p L)[k]? = some u) : goodB u.d = true := by
  unfold WL saV at h
  split at h
  · split at h
    · rename_i hr
      have hk := (List.getElem?_eq_some_iff.1 h).1
      rw [waysT_len] at hk
      rw [waysT_get p.s L L.length k (by omega)] at h
      obtain rfl := Option.some.inj h
      unfold raB at hr
      simp only [Bool.and_eq_true] at hr
      have hst := hr.2.1
      unfold stL at hst
      exact goodB_way (L.take k) p.s (Bool.and_eq_true_iff.1 hst).2
    · simp at h
  · simp at h
theorem WL_wb {p : Pz} {L : List UInt8} (h : wb p L = false) : WL p L = [] := by
  unfold wb at h
  unfold WL saV
  cases h1 : pzB p with
  | false => rfl
  | true =>
    rw [h1] at h
    have h' : raB p.b.data.toList p.s L = false := h
    rw [h']
    rfl
theorem WL_pos {p : Pz} {L : List UInt8} (h : wb p L = true) : 0 < (WL p L).length := by
  unfold wb at h
  rw [Bool.and_eq_true] at h
  unfold WL saV
  rw [h.1, h.2, if_pos rfl, if_pos rfl, waysT_len]
  omega
/-- A row of which the first k texts are written. -/
def rowTx (made : List Value) (T : List (List UInt8)) (k : Nat) : List Value := strs (T.take k) ++ made.drop k
theorem rowTx_done (made : List Value) (T : List (List UInt8)) (k : Nat) (h1 : made.length = k) (h2 : T.length = k) : rowTx made T k = strs T := by
  unfold rowTx
  rw [List.drop_of_length_le (by omega), List.take_of_length_le (by omega), List.append_nil]
theorem rowTx_set (made : List Value) (T : List (List UInt8)) (k : Nat) (x : List UInt8) (h1 : k < made.length) (h2 : T[k]? = some x) : (rowTx made T k).set k (sV x) = rowTx made T (k + 1) := by
  have hk : k < T.length := (List.getElem?_eq_some_iff.1 h2).1
  unfold rowTx
  have hl : (strs (T.take k)).length = k := by rw [strs_len, List.length_take]; omega
  rw [List.set_append_right k _ (by omega), hl, Nat.sub_self, List.drop_eq_getElem_cons h1, List.take_add_one, h2]
  show _ ++ (sV x :: _) = strs (T.take k ++ [x]) ++ _
  rw [strs_snoc, List.append_assoc]
  rfl
theorem info_strP : (Tryd.prog.info? 9).map (fun i => (i.zero, i.size, i.bytes)) = some (some (.string ⟨#[]⟩), 1, 16) := by kernel_rfl
structure RpI (w wr : World) (p : Pz) (L : List UInt8) (vv : Value) (g0 n : Nat) (made : List Value) (k : Nat) : Prop where
  row : wr.ownsRow w.heap.size 32 8 vv n (cellsS (WL p L))
  txt : wr.ownsRow g0 9 1 (.slice (some ⟨g0, 0, none⟩) n n) n (rowTx made (rpL p L) k)
  below : Below w.heap.size w wr
set_option maxHeartbeats 3200000 in
theorem implRP_any (p : Pz) (v : ByteArray) (w : World) (hs : p.b.size ≤ 1048576) (hv : v.size ≤ 1048576) (hg : Glob w) : Calls Tryd.prog 17 #[Pz.v p, .string v] w fun e w' => ∃ vv, e = .returned (.tuple #[vv, .bool (wb p v.data.toList)]) ∧ w'.ownsRow w.heap.size 9 1 vv (rpL p v.data.toList).length (strs (rpL p v.data.toList)) ∧ Below w.heap.size w w' := by
  obtain ⟨W0, hW, P0, q0⟩ := pz_start p w
  have HW := hide hW
  have HG := hide (glob_to q0 hg rfl)
  have HWF := hide (fun wx hx => wayFrom_any p v wx hs hv hx)
  obtain ⟨i0, hi, hz0, hz1, hz2⟩ := info_parts info_strP
  have HI := hide hi
  have HZ0 := hide hz0
  have HZ1 := hide hz1
  have HZ2 := hide hz2
  obtain ⟨l0, ⟨a0, a1, a2, a3, a4, a5, a6, a7, a8, a9, a10, a11⟩, -⟩ := P0.all
  clear hW hg hs hv hi hz0 hz1 hz2
  cases h : wb p v.data.toList with
  | false =>
    rw [h] at HWF
    have HE := hide (show rpL p v.data.toList = [] from by unfold rpL; rw [WL_wb h]; rfl)
    rw [HE.out]
    clear h
    generalize WL p v.data.toList = M at HWF
    go_enter Tryd.func17, Tryd.ntmps17
    go_upto_region 1 with (fail)
    rw [HW.out]
    go_wp2_with fail
    refine (HWF.out _ HG.out).mono ?_
    rintro e w1 ⟨vv, rfl, -, hb1⟩
    have q1 := below_to hb1 q0 q0.size rfl rfl rfl rfl
    clear hb1
    go_wp2
    go_returns
    exact ⟨_, rfl, ⟨rfl, .inl ⟨rfl, rfl⟩⟩, q1⟩
  | true =>
    rw [h] at HWF
    have hpos := WL_pos h
    have hwl := (WL_len p v.data.toList).2
    rw [rpL_len]
    obtain ⟨n, hn⟩ : ∃ n, n = (WL p v.data.toList).length := ⟨_, rfl⟩
    rw [← hn] at HWF hwl hpos ⊢
    have HN := hide hn
    have HRL := hide (show (rpL p v.data.toList).length = n from by rw [rpL_len, hn])
    clear h hn
    go_enter Tryd.func17, Tryd.ntmps17
    go_upto_region 1 with (fail)
    rw [HW.out]
    go_wp2_with fail
    refine (HWF.out _ HG.out).mono ?_
    rintro e w1 ⟨vv, rfl, hO, hb1⟩
    have q1 := below_to hb1 q0 q0.size rfl rfl rfl rfl
    have HO1 := hide (own_mono hO q0.size)
    obtain ⟨gq, cq, rfl, -, -⟩ := own_form hO hpos
    have hgq : gq < w1.heap.size := (hO.lt gq rfl).2
    clear hb1 hO a0 a1 a2 a3 a4 a5 a6 a7 a8 a9 a10 a11 l0 P0 q0
    go_wp2_with (at_make; refine wpList_make_full _ rfl _ _ 40 rfl w1.heap.size 9 i0 (.string ⟨#[]⟩) 1 Tryd.underlying40 HI.out HZ0.out HZ1.out .i64 .i64 _ _ n rfl rfl (by omega) (by omega) (by rw [HZ2.out]; omega) (by unfold maxLen; omega) (Nat.le_refl _) ?_; intro w0 hown0 hgrow0)
    have O0 := hide (HO1.out.kept hgrow0 (.inr (by simp [Value.ownBlock])))
    have q2 : Below w.heap.size w w0 := q1.grown hgrow0 q1.size (fun k hk => by cases hk)
    generalize (madeCells (Value.string ⟨#[]⟩).cells (n * 1)).toList = made at hown0
    have hml := hide (show made.length = n from by have := hown0.1; omega)
    have hq0 := q1.size
    generalize w1.heap.size = g0 at hgq hown0 hq0 ⊢
    have HT := hide (show RpI w w0 p v.data.toList (.slice (some ⟨gq, 0, none⟩) n cq) g0 n made 0 from ⟨O0.out, by unfold rowTx; exact hown0, q2⟩)
    clear hgrow0 HO1 hown0 q1 q2 O0
    go_wp2
    go_loopw [24] (fun i wr => ∃ k : Nat, k ≤ n ∧ i = .int .i64 (k : Int) ∧ RpI w wr p v.data.toList (.slice (some ⟨gq, 0, none⟩) n cq) g0 n made k) (fun i _ => n - (intOf i).toNat)
    case atStart => exact ⟨0, Nat.zero_le _, rfl, HT.out⟩
    case round =>
      obtain ⟨k, hk, rfl, T⟩ := hrel
      clear HT
      by_cases hlt : k < n
      · obtain ⟨u, hu⟩ : ∃ u, (WL p v.data.toList)[k]? = some u := ⟨_, List.getElem?_eq_getElem (by rw [← HN.out]; exact hlt)⟩
        obtain ⟨c0, c1, c2, c3, c4, c5, c6, c7⟩ := row_cells_at k T.row hlt hu
        have HST := hide (rowTx_set made (rpL p v.data.toList) k (dText u.d) (by have := hml.out; omega) (rpL_at hu))
        have HDT := hide (implDieText_any u.d)
        rw [WL_good hu, if_pos rfl] at HDT
        have hki : (k : Int) < (n : Int) := by omega
        have w1q : IntKind.i64.wrap ((k : Int) + 1) = (k : Int) + 1 := IntWalk.i64_in _ (by omega)
        have R3 := hide (T.row.alloc (.cells #[.int .i64 u.x, .int .i64 u.y, .int .i64 u.d.t, .int .i64 u.d.n, .int .i64 u.d.e, .int .i64 u.d.s, .int .i64 u.d.w, .int .i64 u.d.b] 32))
        have X3 := hide (T.txt.alloc (.cells #[.int .i64 u.x, .int .i64 u.y, .int .i64 u.d.t, .int .i64 u.d.n, .int .i64 u.d.e, .int .i64 u.d.s, .int .i64 u.d.w, .int .i64 u.d.b] 32))
        have q3 := T.below.alloc T.below.size (.cells #[.int .i64 u.x, .int .i64 u.y, .int .i64 u.d.t, .int .i64 u.d.n, .int .i64 u.d.e, .int .i64 u.d.s, .int .i64 u.d.w, .int .i64 u.d.b] 32)
        clear hu T
        go_wp2_with fail
        refine (HDT.out _).mono ?_
        rintro e w4 ⟨rfl, hb4⟩
        have q4 := below_to hb4 q3 q3.size rfl rfl rfl rfl
        have O4 := own_to hb4 R3.out rfl
        have T4 := own_to hb4 X3.out rfl
        clear hb4 q3 c0 c1 c2 c3 c4 c5 c6 c7 R3 X3
        generalize rowTx made (rpL p v.data.toList) k = P at T4 HST
        have hbg : g0 < w4.heap.size := (T4.lt g0 rfl).2
        obtain ⟨y, hy⟩ : ∃ y, P[k]? = some y := ⟨P[k]'(by have := T4.1; omega), List.getElem?_eq_getElem (by have := T4.1; omega)⟩
        have d0 := (T4.cellAt k (by omega)).trans hy
        have df := own_free T4 k
        have T5 := hide (show RpI w (w4.setCell ⟨g0, k, none⟩ (sV (dText u.d))) p v.data.toList (.slice (some ⟨gq, 0, none⟩) n cq) g0 n made (k + 1) from ⟨ownsRow_setCell_other O4 (a := ⟨g0, k, none⟩) (by simp [Value.ownBlock]; omega) _, by rw [← HST.out]; exact own_put T4 k (by omega) _, q4.setCell (p := ⟨g0, k, none⟩) hq0 _⟩)
        clear O4 T4 q4 hy
        go_wp2
        go_roundw
        case rel => exact ⟨k + 1, by omega, by go_num, T5.out⟩
        case measure => simp [intOf] <;> omega
      · obtain rfl : k = n := by omega
        have HT := hide (own_mono T.txt hq0)
        rw [rowTx_done made _ k hml.out HRL.out] at HT
        have q4 := T.below
        clear T
        go_wp2
        go_returns
        exact ⟨_, rfl, HT.out, q4⟩
end Go.Proofs.YtgehcjmhgfhkdaaDoor
