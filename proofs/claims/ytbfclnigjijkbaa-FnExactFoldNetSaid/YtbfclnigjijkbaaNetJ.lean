/- The program's PlacesOfNet and FoldOrder. Condition: at most 1048576 bytes. -/
import Derived.Test.YtbfclnigjijkbaaNetI
namespace Go.Proofs.Ytbfclnigjijkbaa
set_option maxRecDepth 100000
set_option linter.all false
open Go.RowKit

def letF (l : List UInt8) (k i : Nat) : Int := if i < k then (((placesW l).getD i 0).toNat : Int) else 0
theorem letF_snoc {l : List UInt8} {k b : Nat} (h : (bots l)[k]? = some (b : Int)) (i : Nat) : letF l (k + 1) i = if i = k then ((letB b).toNat : Int) else letF l k i := by
  unfold letF placesW
  by_cases e : i = k
  · subst e
    rw [if_pos (by omega), if_pos rfl, List.getD_eq_getElem?_getD, List.getElem?_map, h]
    rfl
  · rw [if_neg e]
    by_cases h2 : i < k
    · rw [if_pos h2, if_pos (by omega)]
    · rw [if_neg h2, if_neg (by omega)]
def farF (l : List UInt8) (k i : Nat) : Int := if i < k then (farL l).getD i 0 else 0
theorem farF_snoc {l : List UInt8} {k d : Nat} {x : Int} (h : (digs l)[k]? = some d) (hx : x = farI (width l) (lgs l) d) (i : Nat) : farF l (k + 1) i = if i = k then x else farF l k i := by
  unfold farF farL
  by_cases e : i = k
  · subst e
    rw [if_pos (by omega), if_pos rfl, List.getD_eq_getElem?_getD, List.getElem?_map, h, hx]
    rfl
  · rw [if_neg e]
    by_cases h2 : i < k
    · rw [if_pos h2, if_pos (by omega)]
    · rw [if_neg h2, if_neg (by omega)]
theorem implPlaces_no (s : ByteArray) (w : World) (hs : s.size ≤ 1048576) (hn : netB s.data.toList = false) : Calls Try.prog 16 #[.string s] w fun e w' => e = .returned (.tuple #[.string ⟨#[]⟩, .bool false]) ∧ Below w.heap.size w w' := by
  have HN := hide hn
  clear hn
  go_enter Try.func16, Try.ntmps16
  go_wp2_with fail
  refine (landingsOnNet_any s _ hs).mono ?_
  rintro e w2 (⟨hy, -⟩ | ⟨-, rfl, hb⟩)
  · rw [HN.out] at hy; cases hy
  · have hm : ∀ wx, (Instr.makeSlice 35 (.int .i64 0) (.int .i64 0)).run Try.prog wx = .ok (.slice (some ⟨wx.heap.size, 0, none⟩) 0 0) (wx.alloc (.cells (madeCells #[.int .u8 0] 0) 5)) := fun wx => make_byteN 0 (by omega) wx
    have hc : (convert 35 9 (.slice (some ⟨w2.heap.size, 0, none⟩) 0 0)).run Try.prog (w2.alloc (.cells (madeCells #[.int .u8 0] 0) 5)) = .ok (.string ⟨#[]⟩) (w2.alloc (.cells (madeCells #[.int .u8 0] 0) 5)) := row_out [] (World.rowIs_made w2 (.int .u8 0) 0 5) rfl (fun i c h => by simp at h)
    go_wp2
    go_loopw [19, 7, 8] (fun i _ _ wr => i = .int .i64 0 ∧ wr = w2.alloc (.cells (madeCells #[.int .u8 0] 0) 5)) (fun _ _ _ _ => 0)
    case atStart => exact ⟨rfl, rfl⟩
    case round =>
      obtain ⟨rfl, rfl⟩ := hrel
      go_wp2
      go_returns
      exact ⟨rfl, hb.alloc hb.size _⟩
set_option maxHeartbeats 3200000 in
theorem implPlaces_yes (s : ByteArray) (w : World) (hs : s.size ≤ 1048576) (hn : netB s.data.toList = true) : Calls Try.prog 16 #[.string s] w fun e w' => e = .returned (.tuple #[.string ⟨(placesW s.data.toList).toArray⟩, .bool true]) ∧ Below w.heap.size w w' := by
  have HL := fun wx => landingsOnNet_any s wx hs
  obtain ⟨l, hl⟩ : ∃ l, l = s.data.toList := ⟨_, rfl⟩
  simp only [← hl] at HL hn ⊢
  have h6 := net_is_six hn
  have HL := hide HL
  have HN := hide hn
  have HLEN := hide (lands_len h6)
  have HBL := hide (lands_bots h6)
  have HBD := hide (fun b hb => bots_bd h6 (b := b) hb)
  have HPL := hide (show (placesW l).length = 6 from by unfold placesW; rw [List.length_map, ← lands_bots h6, List.length_map, lands_len h6])
  clear h6 hl hs hn
  have hm : ∀ wx, (Instr.makeSlice 35 (.int .i64 6) (.int .i64 6)).run Try.prog wx = .ok (.slice (some ⟨wx.heap.size, 0, none⟩) 6 6) (wx.alloc (.cells (madeCells #[.int .u8 0] 6) 5)) := fun wx => make_byteN 6 (by omega) wx
  go_enter Try.func16, Try.ntmps16
  go_wp2_with fail
  refine (HL.out _).mono ?_
  rintro e w2 (⟨-, g', cap', rfl, hg, hL, hb⟩ | ⟨hy, -⟩)
  rotate_left
  · rw [HN.out] at hy; cases hy
  have hgl := hL.1
  have hz := hb.size
  have HB2 := hide hb
  have HL2 := hide hL
  clear hg hL hb
  go_wp2
  go_loopw [19, 7, 8] (fun i _ _ wr => ∃ k : Nat, k ≤ 6 ∧ i = .int .i64 (k : Int) ∧ wr.rowIs w2.heap.size 5 6 (fun i => .int .u8 (letF l k i)) ∧ LandsAt wr g' (lands l) ∧ Below w.heap.size w wr) (fun i _ _ _ => 6 - (intOf i).toNat)
  case atStart =>
    refine ⟨0, Nat.zero_le _, rfl, (World.rowIs_made w2 (.int .u8 0) 6 5).congr (fun i _ => by simp [letF]), landsAt_to ((Below.refl _ _).alloc (Nat.le_refl _) _) HL2.out rfl, HB2.out.alloc HB2.out.size _⟩
  case round =>
    obtain ⟨k, hk, rfl, R, L, B⟩ := hrel
    by_cases hlt : k < 6
    · have hki : (k : Int) < 6 := by omega
      obtain ⟨q, hq⟩ : ∃ q, (lands l)[k]? = some q := ⟨_, List.getElem?_eq_getElem (by rw [HLEN.out]; exact hlt)⟩
      have hqb : (bots l)[k]? = some q.s.d.b := by rw [← HBL.out, List.getElem?_map, hq]; rfl
      obtain ⟨b0, b6⟩ := HBD.out _ (List.mem_of_getElem? hqb)
      obtain ⟨b, hbe⟩ := Int.eq_ofNat_of_zero_le b0
      rw [hbe] at hqb b6
      have hb6 : b < 6 := by omega
      have HBE := hide hbe
      have HSN := hide (fun i => letF_snoc hqb i)
      have HIX := hide (fun wx => index_let b hb6 wx)
      obtain ⟨a0, a1, a2, a3, a4, a5, a6, a7, a8, a9⟩ := L.cells hq
      have HR := hide R
      have HLA := hide L
      have HB := hide B
      clear R L B hq hqb hbe b0
      go_wp2_with (go_at_call 28; (refine (place_any q _).mono ?_); rintro e w3 ⟨rfl, hb3⟩; rw [HBE.out]; have HR3 := hide (rowIs_to hb3 (HR.out.alloc _) rfl); have HL3 := hide (landsAt_to hb3 (landsAt_to ((Below.refl _ _).alloc (Nat.le_refl _) _) HLA.out rfl) rfl); have HB3 := hide (below_after (HB.out.alloc HB.out.size _) hb3 (HB.out.alloc HB.out.size _).size); have d0 : w3.cell? ⟨w2.heap.size, k, none⟩ = some (.int .u8 (letF l k k)) := HR3.out.cell hlt; have f0 := HR3.out.frozen k; have x0 := HIX.out; clear hb3)
      go_roundw
      case rel =>
        refine ⟨k + 1, by omega, by go_num, (HR3.out.set k (.int .u8 ((letB b).toNat : Int))).congr (fun i _ => ?_), HL3.out.set (by show w2.heap.size ≠ g'; omega) _, HB3.out.setCell (p := ⟨w2.heap.size, k, none⟩) hz _⟩
        rw [HSN.out]
        by_cases e : i = k
        · rw [if_pos e, if_pos e]
        · rw [if_neg e, if_neg e]
      case measure => simp [intOf] <;> omega
    · obtain rfl : k = 6 := by omega
      have hcv : (convert 35 9 (.slice (some ⟨w2.heap.size, 0, none⟩) 6 6)).run Try.prog wr = .ok (.string ⟨(placesW l).toArray⟩) wr := row_out (placesW l) R HPL.out (fun i c h => by
        have hi := (List.getElem?_eq_some_iff.1 h).1
        unfold letF
        rw [if_pos (by rw [HPL.out] at hi; exact hi), List.getD_eq_getElem?_getD, h]
        rfl)
      have HB := hide B
      clear R L B
      go_wp2
      go_returns
      exact ⟨rfl, HB.out⟩
theorem implOrder_no (s : ByteArray) (w : World) (hs : s.size ≤ 1048576) (hn : netB s.data.toList = false) : Calls Try.prog 18 #[.string s] w fun e w' => e = .returned (.tuple #[.slice none 0 0, .bool false]) ∧ Below w.heap.size w w' := by
  have HN := hide hn
  clear hn
  go_enter Try.func18, Try.ntmps18
  go_wp2_with fail
  refine (landingsOnNet_any s _ hs).mono ?_
  rintro e w2 (⟨hy, -⟩ | ⟨-, rfl, hb⟩)
  · rw [HN.out] at hy; cases hy
  · go_wp2
    go_returns
    exact ⟨rfl, hb⟩
theorem farL_len {l : List UInt8} (h : sixB l = true) : (farL l).length = 6 := by
  unfold farL
  rw [List.length_map, digs_len, (six_parts h).1.cnt]
set_option maxHeartbeats 3200000 in
theorem implOrder_yes (s : ByteArray) (w : World) (hs : s.size ≤ 1048576) (hn : netB s.data.toList = true) : Calls Try.prog 18 #[.string s] w fun e w' => ∃ v, e = .returned (.tuple #[v, .bool true]) ∧ w'.ownsRow w.heap.size 3 1 v 6 (ints (farL s.data.toList)) ∧ Below w.heap.size w w' := by
  have HL := fun wx => landingsOnNet_any s wx hs
  obtain ⟨l, hl⟩ : ∃ l, l = s.data.toList := ⟨_, rfl⟩
  simp only [← hl] at HL hn ⊢
  have h6 := net_is_six hn
  have HL := hide HL
  have HN := hide hn
  have HLEN := hide (lands_len h6)
  have HAT := hide (fun k q (hq : (lands l)[k]? = some q) => land_at h6 hq)
  have HPL := hide (farL_len h6)
  clear h6 hl hs hn
  have hm := make_int6
  go_enter Try.func18, Try.ntmps18
  go_wp2_with fail
  refine (HL.out _).mono ?_
  rintro e w2 (⟨-, g', cap', rfl, hg, hL, hb⟩ | ⟨hy, -⟩)
  rotate_left
  · rw [HN.out] at hy; cases hy
  have hgl := hL.1
  have hz := hb.size
  have HB2 := hide hb
  have HL2 := hide hL
  clear hg hL hb
  go_wp2
  go_loopw [21, 7, 8] (fun i _ _ wr => ∃ k : Nat, k ≤ 6 ∧ i = .int .i64 (k : Int) ∧ wr.rowIs w2.heap.size 3 6 (fun i => .int .i64 (farF l k i)) ∧ LandsAt wr g' (lands l) ∧ Below w.heap.size w wr) (fun i _ _ _ => 6 - (intOf i).toNat)
  case atStart =>
    refine ⟨0, Nat.zero_le _, rfl, (World.rowIs_made w2 (.int .i64 0) 6 3).congr (fun i _ => by simp [farF]), landsAt_to ((Below.refl _ _).alloc (Nat.le_refl _) _) HL2.out rfl, HB2.out.alloc HB2.out.size _⟩
  case round =>
    obtain ⟨k, hk, rfl, R, L, B⟩ := hrel
    by_cases hlt : k < 6
    · have hki : (k : Int) < 6 := by omega
      obtain ⟨q, hq⟩ : ∃ q, (lands l)[k]? = some q := ⟨_, List.getElem?_eq_getElem (by rw [HLEN.out]; exact hlt)⟩
      obtain ⟨d, hd, h1, h2, h3⟩ := HAT.out k q hq
      have HSN := hide (fun i => farF_snoc hd h3 i)
      obtain ⟨a0, a1, a2, a3, a4, a5, a6, a7, a8, a9⟩ := L.cells hq
      obtain ⟨l0, ⟨c0, c1, c2, c3, c4, c5, c6, c7, c8, c9⟩, -⟩ := (IsL.new (w := wr) (q := q) (ty := 51)).all
      have HR3 := hide (R.alloc (.cells #[.int .i64 q.n, .int .i64 q.s.x, .int .i64 q.s.y, .int .i64 q.s.d.t, .int .i64 q.s.d.n, .int .i64 q.s.d.e, .int .i64 q.s.d.s, .int .i64 q.s.d.w, .int .i64 q.s.d.b, .int .i64 q.r] 51))
      have HL3 := hide (landsAt_to (w1 := wr.alloc (.cells #[.int .i64 q.n, .int .i64 q.s.x, .int .i64 q.s.y, .int .i64 q.s.d.t, .int .i64 q.s.d.n, .int .i64 q.s.d.e, .int .i64 q.s.d.s, .int .i64 q.s.d.w, .int .i64 q.s.d.b, .int .i64 q.r] 51)) ((Below.refl _ _).alloc (Nat.le_refl _) _) L rfl)
      have HB3 := hide (B.alloc B.size (.cells #[.int .i64 q.n, .int .i64 q.s.x, .int .i64 q.s.y, .int .i64 q.s.d.t, .int .i64 q.s.d.n, .int .i64 q.s.d.e, .int .i64 q.s.d.s, .int .i64 q.s.d.w, .int .i64 q.s.d.b, .int .i64 q.r] 51))
      have d0 : (wr.alloc (.cells #[.int .i64 q.n, .int .i64 q.s.x, .int .i64 q.s.y, .int .i64 q.s.d.t, .int .i64 q.s.d.n, .int .i64 q.s.d.e, .int .i64 q.s.d.s, .int .i64 q.s.d.w, .int .i64 q.s.d.b, .int .i64 q.r] 51)).cell? ⟨w2.heap.size, k, none⟩ = some (.int .i64 (farF l k k)) := HR3.out.cell hlt
      have f0 := HR3.out.frozen k
      clear R L B hq hd h1 h2 h3
      go_wp2
      go_roundw
      case rel =>
        refine ⟨k + 1, by omega, by go_num, (HR3.out.set k (.int .i64 q.r)).congr (fun i _ => ?_), HL3.out.set (by show w2.heap.size ≠ g'; omega) _, HB3.out.setCell (p := ⟨w2.heap.size, k, none⟩) hz _⟩
        rw [HSN.out]
        by_cases e : i = k
        · rw [if_pos e, if_pos e]
        · rw [if_neg e, if_neg e]
      case measure => simp [intOf] <;> omega
    · obtain rfl : k = 6 := by omega
      have HO := hide (own_of_row (B := w.heap.size) R (by omega) (by omega) (xs := ints (farL l)) (by rw [ints_len, HPL.out]) (fun i hi => by
        unfold ints farF
        rw [List.getElem?_map, List.getElem?_eq_getElem (by rw [HPL.out]; exact hi), if_pos hi, List.getD_eq_getElem?_getD, List.getElem?_eq_getElem (by rw [HPL.out]; exact hi)]
        rfl))
      have HB := hide B
      clear R L B
      go_wp2
      go_returns
      exact ⟨_, rfl, HO.out, HB.out⟩
end Go.Proofs.Ytbfclnigjijkbaa
