/- The program's FoldNet, PlacesOfNet and FoldOrder. Condition: at most 1048576 bytes. -/
import Derived.Test.YtkknjokacinlaaaNetH
import Derived.Test.YtkknjokacinlaaaInts
import Derived.Test.YtkknjokacinlaaaFaces
import Derived.Test.YtkknjokacinlaaaNeRead
namespace Go.Proofs.Ytkknjokacinlaaa
set_option maxRecDepth 100000
set_option linter.all false
open Go.RowKit

theorem net_is_six {l : List UInt8} (h : netB l = true) : sixB l = true := by
  cases hs : sixB l
  · rw [net_six hs] at h; cases h
  · rfl
/-- What the landing on a digit says. -/
theorem land_at {l : List UInt8} (h : sixB l = true) {k : Nat} {q : Ld} (hq : (lands l)[k]? = some q) : ∃ d, (digs l)[k]? = some d ∧ q.s.d.b = botI (width l) (lgs l) d ∧ q.n = (((flatL l).getD d 0).toNat : Int) - 48 ∧ q.r = farI (width l) (lgs l) d := by
  obtain ⟨hF, h6⟩ := six_parts h
  unfold lands at hq
  rw [List.getElem?_map] at hq
  cases hd : (digs l)[k]? with
  | none => rw [hd] at hq; cases hq
  | some d =>
    rw [hd] at hq
    obtain rfl := Option.some.inj hq
    obtain ⟨e1, e2, e3⟩ := land_says hF h6 (List.mem_of_getElem? hd)
    exact ⟨d, rfl, e2, e1, e3⟩
/-- The faces behind k digits. -/
def faceF (l : List UInt8) : Nat → Nat → Int
  | 0, _ => 0
  | k + 1, i => match (digs l)[k]? with
    | some d => if (i : Int) = botI (width l) (lgs l) d then (((flatL l).getD d 0).toNat : Int) - 48 else faceF l k i
    | none => faceF l k i
def foldD (l : List UInt8) : D := ⟨faceF l 6 0, faceF l 6 1, faceF l 6 2, faceF l 6 3, faceF l 6 4, faceF l 6 5⟩
theorem faceF_snoc {l : List UInt8} {k d b : Nat} {x : Int} (hd : (digs l)[k]? = some d) (hb : (b : Int) = botI (width l) (lgs l) d) (hx : x = (((flatL l).getD d 0).toNat : Int) - 48) (i : Nat) : faceF l (k + 1) i = if i = b then x else faceF l k i := by
  show (match (digs l)[k]? with
    | some d => if (i : Int) = botI (width l) (lgs l) d then (((flatL l).getD d 0).toNat : Int) - 48 else faceF l k i
    | none => faceF l k i) = _
  rw [hd]
  show (if (i : Int) = botI (width l) (lgs l) d then _ else _) = _
  rw [← hb, hx]
  by_cases e : i = b
  · rw [if_pos e, if_pos (by omega)]
  · rw [if_neg e, if_neg (by omega)]
/-- The letter of a face. -/
def letB (b : Nat) : UInt8 := [116, 110, 101, 115, 119, 98].getD b 0
def placesW (l : List UInt8) : List UInt8 := (bots l).map fun b => letB b.toNat
/-- The numbers of rolls to the digits. -/
def farL (l : List UInt8) : List Int := (digs l).map (farI (width l) (lgs l))
theorem own_of_row {w : World} {g n B : Nat} {e : TypeId} {f : Nat → Value} (h : w.rowIs g e n f) (hB : B ≤ g) (hn : n ≤ 1000000) {xs : List Value} (hl : xs.length = n) (hx : ∀ i, i < n → xs[i]? = some (f i)) : w.ownsRow B e 1 (.slice (some ⟨g, 0, none⟩) n n) n xs := by
  obtain ⟨c, hb, hs, hc⟩ := h
  refine ⟨by omega, .inr ⟨g, n, c, rfl, hB, hb, Nat.le_refl _, by unfold maxLen; omega, by omega, ?_⟩⟩
  apply List.ext_getElem?
  intro i
  by_cases hi : i < n
  · rw [List.getElem?_take_of_lt (by omega), hx i hi, Array.getElem?_toList]
    exact hc i hi
  · rw [List.getElem?_eq_none (by rw [List.length_take, Array.length_toList]; omega), List.getElem?_eq_none (by omega)]
theorem info_intJ : (Try.prog.info? 3).map (fun i => (i.zero, i.size, i.bytes)) = some (some (.int .i64 0), 1, 8) := by kernel_rfl
theorem make_int6 (wx : World) : (Instr.makeSlice 31 (.int .i64 6) (.int .i64 6)).run Try.prog wx = .ok (.slice (some ⟨wx.heap.size, 0, none⟩) 6 6) (wx.alloc (.cells (madeCells #[.int .i64 0] 6) 3)) :=
  run_make_row' (P := Try.prog) 31 3 (.int .i64 0) 8 Try.underlying31 info_intJ rfl .i64 .i64 6 (by omega) (by omega) wx
theorem info_byteJ : (Try.prog.info? 5).map (fun i => (i.zero, i.size, i.bytes)) = some (some (.int .u8 0), 1, 1) := by kernel_rfl
theorem make_byteN (n : Nat) (hn : n ≤ 6) (wx : World) : (Instr.makeSlice 28 (.int .i64 (n : Int)) (.int .i64 (n : Int))).run Try.prog wx = .ok (.slice (some ⟨wx.heap.size, 0, none⟩) n n) (wx.alloc (.cells (madeCells #[.int .u8 0] n) 5)) :=
  run_make_row' (P := Try.prog) 28 5 (.int .u8 0) 1 Try.underlying28 info_byteJ rfl .i64 .i64 n (by omega) (by omega) wx
/-- 'string(b)' of a row of bytes. -/
theorem row_out {w : World} {g n : Nat} {f : Nat → Value} (L : List UInt8) (h : w.rowIs g 5 n f) (hl : L.length = n) (hx : ∀ i c, L[i]? = some c → f i = .int .u8 (c.toNat : Int)) : (convert 28 9 (.slice (some ⟨g, 0, none⟩) n n)).run Try.prog w = .ok (.string ⟨L.toArray⟩) w := by
  subst hl
  refine run_convert_bytes_back w _ _ 5 _ _ L Try.underlying28 Try.underlying5 Try.underlying9 (fun j hj => ?_)
  have : (⟨g, 0, none⟩ : Addr).add j = ⟨g, j, none⟩ := by
    unfold Addr.add
    split <;> simp_all
  rw [this, h.cell hj, hx j _ (List.getElem?_eq_getElem hj)]
theorem index_let (b : Nat) (hb : b < 6) (wx : World) : (Instr.index 9 (.string ⟨#[116, 110, 101, 115, 119, 98]⟩) (.int .i64 (b : Int))).run Try.prog wx = .ok (.int .u8 ((letB b).toNat : Int)) wx := by
  match b, hb with
  | 0, _ => rfl
  | 1, _ => rfl
  | 2, _ => rfl
  | 3, _ => rfl
  | 4, _ => rfl
  | 5, _ => rfl
theorem implFoldNet_no (s : ByteArray) (w : World) (hs : s.size ≤ 1048576) (hn : netB s.data.toList = false) : Calls Try.prog 16 #[.string s] w fun e w' => e = .returned (.tuple #[D.v zeroD, .bool false]) ∧ Below w.heap.size w w' := by
  have HN := hide hn
  have q0 : Below w.heap.size w (w.alloc (.cells #[.int .i64 0, .int .i64 0, .int .i64 0, .int .i64 0, .int .i64 0, .int .i64 0] 39)) := by go_grown
  have G0 := IsD.new (w := w) (d := ⟨0, 0, 0, 0, 0, 0⟩) (ty := 39)
  clear hn
  go_enter Try.func16, Try.ntmps16
  go_wp2_with fail
  refine (landingsOnNet_any s _ hs).mono ?_
  generalize w.alloc (.cells #[.int .i64 0, .int .i64 0, .int .i64 0, .int .i64 0, .int .i64 0, .int .i64 0] 39) = W0 at q0 G0 ⊢
  rintro e w2 (⟨hy, -⟩ | ⟨-, rfl, hb⟩)
  · rw [HN.out] at hy; cases hy
  · have g2 := isD_to hb G0 rfl
    have q2 := below_after q0 hb q0.size
    obtain ⟨l2, ⟨d0, d1, d2, d3, d4, d5⟩, e0, e1, e2, e3, e4, e5⟩ := g2.all
    clear q0 G0 hb
    go_wp2
    refine bodyPost_ret (ret_die2 Try.results16 rfl rfl (g2.set6 ⟨0, 0, 0, 0, 0, 0⟩)) rfl ⟨rfl, ?_⟩
    exact below_set6 q2 (Nat.le_refl _) ⟨0, 0, 0, 0, 0, 0⟩
set_option maxHeartbeats 6400000 in
theorem implFoldNet_yes (s : ByteArray) (w : World) (hs : s.size ≤ 1048576) (hn : netB s.data.toList = true) : Calls Try.prog 16 #[.string s] w fun e w' => e = .returned (.tuple #[D.v (foldD s.data.toList), .bool true]) ∧ Below w.heap.size w w' := by
  have HL := fun wx => landingsOnNet_any s wx hs
  obtain ⟨l, hl⟩ : ∃ l, l = s.data.toList := ⟨_, rfl⟩
  simp only [← hl] at HL hn ⊢
  have h6 := net_is_six hn
  have HL := hide HL
  have HN := hide hn
  have HLEN := hide (lands_len h6)
  have HBL := hide (lands_bots h6)
  have HBD := hide (fun b hb => bots_bd h6 (b := b) hb)
  have HAT := hide (fun k q (hq : (lands l)[k]? = some q) => land_at h6 hq)
  have q0 : Below w.heap.size w (w.alloc (.cells #[.int .i64 0, .int .i64 0, .int .i64 0, .int .i64 0, .int .i64 0, .int .i64 0] 39)) := by go_grown
  have G0 := IsD.new (w := w) (d := ⟨0, 0, 0, 0, 0, 0⟩) (ty := 39)
  clear h6 hl hs hn
  go_enter Try.func16, Try.ntmps16
  go_wp2_with fail
  refine (HL.out _).mono ?_
  have hz0 : (w.alloc (.cells #[.int .i64 0, .int .i64 0, .int .i64 0, .int .i64 0, .int .i64 0, .int .i64 0] 39)).heap.size = w.heap.size + 1 := by simp
  generalize w.alloc (.cells #[.int .i64 0, .int .i64 0, .int .i64 0, .int .i64 0, .int .i64 0, .int .i64 0] 39) = W0 at q0 G0 hz0 ⊢
  rintro e w2 (⟨-, g', cap', rfl, hg, hL, hb⟩ | ⟨hy, -⟩)
  rotate_left
  · rw [HN.out] at hy; cases hy
  have hgl := hL.1
  have hz := hb.size
  have HG2 := hide (isD_to hb G0 rfl)
  have HB2 := hide (below_after q0 hb q0.size)
  have HL2 := hide hL
  clear hg hL hb q0 G0
  go_wp2
  go_loopw [19, 8] (fun i _ wr => ∃ k : Nat, k ≤ 6 ∧ i = .int .i64 (k : Int) ∧ wr.rowIs w2.heap.size 63 6 (fun i => .int .i64 (faceF l k i)) ∧ LandsAt wr g' (lands l) ∧ IsD wr w.heap.size ⟨0, 0, 0, 0, 0, 0⟩ 39 ∧ Below w.heap.size w wr) (fun i _ _ => 6 - (intOf i).toNat)
  case atStart =>
    refine ⟨0, Nat.zero_le _, rfl, ?_, landsAt_to ((Below.refl _ _).alloc (Nat.le_refl _) _) HL2.out rfl, HG2.out.alloc _, HB2.out.alloc HB2.out.size _⟩
    exact World.rowIs_alloc w2 #[.int .i64 0, .int .i64 0, .int .i64 0, .int .i64 0, .int .i64 0, .int .i64 0] 63 _ (fun i hi => by
      match i, hi with
      | 0, _ => rfl
      | 1, _ => rfl
      | 2, _ => rfl
      | 3, _ => rfl
      | 4, _ => rfl
      | 5, _ => rfl)
  case round =>
    obtain ⟨k, hk, rfl, R, L, G, B⟩ := hrel
    by_cases hlt : k < 6
    · have hki : (k : Int) < 6 := by omega
      obtain ⟨q, hq⟩ : ∃ q, (lands l)[k]? = some q := ⟨_, List.getElem?_eq_getElem (by rw [HLEN.out]; exact hlt)⟩
      have hqb : (bots l)[k]? = some q.s.d.b := by rw [← HBL.out, List.getElem?_map, hq]; rfl
      obtain ⟨b0, b6⟩ := HBD.out _ (List.mem_of_getElem? hqb)
      obtain ⟨b, hbe⟩ := Int.eq_ofNat_of_zero_le b0
      have hb6 : b < 6 := by omega
      rw [hbe] at b6
      have HBE := hide hbe
      obtain ⟨d, hd, h1, h2, h3⟩ := HAT.out k q hq
      have HSN := hide (fun i => faceF_snoc hd (hbe.symm.trans h1) h2 i)
      obtain ⟨a0, a1, a2, a3, a4, a5, a6, a7, a8, a9⟩ := L.cells hq
      have HR := hide R
      have HLA := hide L
      have HGD := hide G
      have HB := hide B
      obtain ⟨l0, ⟨c0, c1, c2, c3, c4, c5, c6, c7, c8, c9⟩, -⟩ := (IsL.new (w := wr) (q := q) (ty := 67)).all
      have hne : w2.heap.size ≠ wr.heap.size := Nat.ne_of_lt R.lt
      clear R L G B hq hqb hbe b0 hd h1 h2 h3
      go_upto_region 8 with (fail)
      go_region_held3 (fun w' => w'.cell? ⟨wr.heap.size, 0, none⟩ = some (.int .i64 q.n) ∧ w'.cell? ⟨wr.heap.size, 1, none⟩ = some (.int .i64 q.s.x) ∧ w'.cell? ⟨wr.heap.size, 2, none⟩ = some (.int .i64 q.s.y) ∧ w'.cell? ⟨wr.heap.size, 3, none⟩ = some (.int .i64 q.s.d.t) ∧ w'.cell? ⟨wr.heap.size, 4, none⟩ = some (.int .i64 q.s.d.n) ∧ w'.cell? ⟨wr.heap.size, 5, none⟩ = some (.int .i64 q.s.d.e) ∧ w'.cell? ⟨wr.heap.size, 6, none⟩ = some (.int .i64 q.s.d.s) ∧ w'.cell? ⟨wr.heap.size, 7, none⟩ = some (.int .i64 q.s.d.w) ∧ w'.cell? ⟨wr.heap.size, 8, none⟩ = some (.int .i64 q.s.d.b) ∧ w'.cell? ⟨wr.heap.size, 9, none⟩ = some (.int .i64 q.r)) (first | (refine ⟨?_, ?_, ?_, ?_, ?_, ?_, ?_, ?_, ?_, ?_⟩ <;> with_reducible assumption) | (refine ⟨?_, ?_, ?_, ?_, ?_, ?_, ?_, ?_, ?_, ?_⟩ <;> (rw [World.cell?_setCell_other _ _ _ _ (fun e => hne (by injection e))]; with_reducible assumption)) | (refine ⟨?_, ?_, ?_, ?_, ?_, ?_, ?_, ?_, ?_, ?_⟩ <;> assumption))
        (first | (go_at_call 28; (refine (place_any q _).mono ?_); rintro e w3 ⟨rfl, hb3⟩; rw [HBE.out]; have HR3 := hide (rowIs_to hb3 (HR.out.alloc (.cells #[.int .i64 q.n, .int .i64 q.s.x, .int .i64 q.s.y, .int .i64 q.s.d.t, .int .i64 q.s.d.n, .int .i64 q.s.d.e, .int .i64 q.s.d.s, .int .i64 q.s.d.w, .int .i64 q.s.d.b, .int .i64 q.r] 67)) rfl); have HL3 := hide (landsAt_to hb3 (landsAt_to (w1 := wr.alloc (.cells #[.int .i64 q.n, .int .i64 q.s.x, .int .i64 q.s.y, .int .i64 q.s.d.t, .int .i64 q.s.d.n, .int .i64 q.s.d.e, .int .i64 q.s.d.s, .int .i64 q.s.d.w, .int .i64 q.s.d.b, .int .i64 q.r] 67)) ((Below.refl _ _).alloc (Nat.le_refl _) _) HLA.out rfl) rfl); have HG3 := hide (isD_to hb3 (HGD.out.alloc (.cells #[.int .i64 q.n, .int .i64 q.s.x, .int .i64 q.s.y, .int .i64 q.s.d.t, .int .i64 q.s.d.n, .int .i64 q.s.d.e, .int .i64 q.s.d.s, .int .i64 q.s.d.w, .int .i64 q.s.d.b, .int .i64 q.r] 67)) rfl); have HB3 := hide (below_to hb3 (HB.out.alloc HB.out.size (.cells #[.int .i64 q.n, .int .i64 q.s.x, .int .i64 q.s.y, .int .i64 q.s.d.t, .int .i64 q.s.d.n, .int .i64 q.s.d.e, .int .i64 q.s.d.s, .int .i64 q.s.d.w, .int .i64 q.s.d.b, .int .i64 q.r] 67)) (HB.out.alloc HB.out.size (.cells #[.int .i64 q.n, .int .i64 q.s.x, .int .i64 q.s.y, .int .i64 q.s.d.t, .int .i64 q.s.d.n, .int .i64 q.s.d.e, .int .i64 q.s.d.s, .int .i64 q.s.d.w, .int .i64 q.s.d.b, .int .i64 q.r] 67)).size rfl rfl rfl rfl); obtain ⟨m0, ⟨b0, b1, b2, b3, b4, b5, b66, b7, b8, b9⟩, -⟩ := (isL_to hb3 (IsL.new (w := wr) (q := q) (ty := 67)) rfl).all; have d0 : w3.cell? ⟨w2.heap.size, b, none⟩ = some (.int .i64 (faceF l k b)) := HR3.out.cell hb6; have f0 := HR3.out.frozen b; clear hb3))
      all_goals
        go_wp2
        go_roundw
        case rel =>
          refine ⟨k + 1, by omega, by go_num, (HR3.out.set b (.int .i64 q.n)).congr (fun i _ => ?_), HL3.out.set (by show w2.heap.size ≠ g'; omega) _, HG3.out.other (by show w.heap.size ≠ w2.heap.size; omega) _, HB3.out.setCell (p := ⟨w2.heap.size, b, none⟩) (by show w.heap.size ≤ w2.heap.size; omega) _⟩
          rw [HSN.out]
          by_cases e : i = b
          · rw [if_pos e, if_pos e]
          · rw [if_neg e, if_neg e]
        case measure => simp [intOf] <;> omega
    · obtain rfl : k = 6 := by omega
      have HGD := hide G
      have HB := hide B
      have HFD := hide (show foldD l = ⟨faceF l 6 0, faceF l 6 1, faceF l 6 2, faceF l 6 3, faceF l 6 4, faceF l 6 5⟩ from rfl)
      have r0 : wr.cell? ⟨w2.heap.size, 0, none⟩ = some (.int .i64 (faceF l 6 0)) := R.cell (by omega)
      have r1 : wr.cell? ⟨w2.heap.size, 1, none⟩ = some (.int .i64 (faceF l 6 1)) := R.cell (by omega)
      have r2 : wr.cell? ⟨w2.heap.size, 2, none⟩ = some (.int .i64 (faceF l 6 2)) := R.cell (by omega)
      have r3 : wr.cell? ⟨w2.heap.size, 3, none⟩ = some (.int .i64 (faceF l 6 3)) := R.cell (by omega)
      have r4 : wr.cell? ⟨w2.heap.size, 4, none⟩ = some (.int .i64 (faceF l 6 4)) := R.cell (by omega)
      have r5 : wr.cell? ⟨w2.heap.size, 5, none⟩ = some (.int .i64 (faceF l 6 5)) := R.cell (by omega)
      clear R L G B
      generalize faceF l 6 0 = x0 at *
      generalize faceF l 6 1 = x1 at *
      generalize faceF l 6 2 = x2 at *
      generalize faceF l 6 3 = x3 at *
      generalize faceF l 6 4 = x4 at *
      generalize faceF l 6 5 = x5 at *
      go_wp2_with (go_at_call 29; (refine (dieOf_any ⟨x0, x1, x2, x3, x4, x5⟩ _).mono ?_); rintro e w4 ⟨rfl, hb4⟩; have g4 := isD_to hb4 HGD.out rfl; have q4 := below_after HB.out hb4 HB.out.size; obtain ⟨l2, ⟨d0, d1, d2, d3, d4, d5⟩, e0, e1, e2, e3, e4, e5⟩ := g4.all; clear hb4)
      refine bodyPost_ret (ret_die2 Try.results16 rfl rfl (g4.set6 ⟨x0, x1, x2, x3, x4, x5⟩)) rfl ⟨by rw [HFD.out], ?_⟩
      exact below_set6 q4 (Nat.le_refl _) ⟨x0, x1, x2, x3, x4, x5⟩
end Go.Proofs.Ytkknjokacinlaaa
