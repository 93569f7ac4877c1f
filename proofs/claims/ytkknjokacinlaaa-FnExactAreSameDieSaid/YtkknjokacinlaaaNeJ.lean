/- The model of nets: spec.neFold, FoldNet, PlacesOfNet, FoldOrder. No condition. -/
import Derived.Test.YtkknjokacinlaaaNeH
import Derived.Test.YtkknjokacinlaaaNetI
namespace Go.Proofs.Ytkknjokacinlaaa
set_option maxRecDepth 100000
set_option linter.all false
open Go.RowKit

/-- The digits of a six, row by row. -/
theorem digs_any (l : List UInt8) (W H n g cap : Nat) (h6 : sixB l = true) (hn : n = (flatL l).length) (w : World) (hA : ByN w g (flatL l)) : Calls Try.prog 26 #[gN W H n g cap] w fun e w' => ∃ db dc, e = .returned (.slice (some ⟨db, 0, none⟩) 6 dc) ∧ w.heap.size ≤ db ∧ db < w'.heap.size ∧ w'.ownsRow w.heap.size 3 1 (.slice (some ⟨db, 0, none⟩) 6 dc) 6 (ints (natI (digs l))) ∧ Below w.heap.size w w' := by
  have hF := (six_parts h6).1
  have hG := hF.toGrid6
  have hn36 : n ≤ 36 := by rw [hn, hG.flat_len]; exact Nat.mul_le_mul hG.w6 hG.h6
  have hokF : ∀ c ∈ flatL l, okN c = true := by
    intro c hc
    unfold flatL at hc
    obtain ⟨r, hr, hcr⟩ := List.mem_flatten.1 hc
    exact List.all_eq_true.1 (hG.ok r hr) c hcr
  have hde : digK (flatL l) n = digs l := by rw [hn]; rfl
  have hd6 : (digs l).length = 6 := by rw [digs_len, hG.cnt]
  have h := neDigits_any (flatL l) W H n g cap hn.symm (by omega) hokF w hA
  rw [hde, hd6] at h
  refine h.mono ?_
  rintro e w' ⟨v, rfl, O, hb⟩
  obtain ⟨db, dc, rfl, h1, h2⟩ := own_form O (by omega)
  exact ⟨db, dc, rfl, h1, h2, O, hb⟩
/-- What a digit says. -/
theorem dig_says {l : List UInt8} (h6 : sixB l = true) {k d : Nat} (hd : (digs l)[k]? = some d) : d < (flatL l).length ∧ (∃ c, (flatL l)[d]? = some c ∧ isDig c = true ∧ (flatL l).getD d 0 = c) ∧ (bots l)[k]? = some (botI (width l) (lgs l) d) ∧ ∃ b : Nat, b < 6 ∧ botI (width l) (lgs l) d = (b : Int) := by
  obtain ⟨h1, h2⟩ := mem_digs.1 (List.mem_of_getElem? hd)
  have hb := bot_bd h6 (List.mem_of_getElem? hd)
  refine ⟨h1, ⟨_, List.getElem?_eq_getElem h1, ?_, ?_⟩, by unfold bots; rw [List.getElem?_map, hd]; rfl, (botI (width l) (lgs l) d).toNat, by omega, by omega⟩
  · rw [List.getD_eq_getElem?_getD, List.getElem?_eq_getElem h1] at h2; exact h2
  · rw [List.getD_eq_getElem?_getD, List.getElem?_eq_getElem h1]; rfl
theorem digs_at {l : List UInt8} (h6 : sixB l = true) {k : Nat} (hk : k < 6) : ∃ d, (digs l)[k]? = some d := ⟨_, List.getElem?_eq_getElem (by rw [digs_len, (six_parts h6).1.cnt]; exact hk)⟩
theorem cell_setO {w : World} {b i c j : Nat} {v : Value} (h : b ≠ c) : (w.setCell ⟨b, i, none⟩ v).cell? ⟨c, j, none⟩ = w.cell? ⟨c, j, none⟩ := World.cell?_setCell_other _ _ _ _ (fun e => h (by injection e))
theorem cell_setD {w : World} {b i c j : Nat} {v : Value} (h : b ≠ c) : (w.setCell ⟨b, i, none⟩ v).drew.cell? ⟨c, j, none⟩ = w.cell? ⟨c, j, none⟩ := cell_setO h
theorem ByN.set {w : World} {g b i : Nat} {F : List UInt8} (h : ByN w g F) (hne : b ≠ g) (v : Value) : ByN (w.setCell ⟨b, i, none⟩ v) g F :=
  ⟨by have := h.1; simpa using this, fun j c hc => (cell_setO hne).trans (h.2 j c hc)⟩
/-- What neFold holds. -/
structure FN (l : List UInt8) (W H n g cap ob db dc : Nat) (w0 w : World) (f : Nat → Int) : Prop where
  box : IsGN w w0.heap.size (W : Int) (H : Int) (.slice (some ⟨g, 0, none⟩) n cap)
  die : IsD w (w0.heap.size + 1) ⟨0, 0, 0, 0, 0, 0⟩ 39
  row : w.rowIs (w0.heap.size + 2) 3 6 (fun i => .int .i64 (f i))
  byn : ByN w g (flatL l)
  bot : w.rowIs ob 3 n (fun i => .int .i64 (botI (width l) (lgs l) i))
  dig : w.ownsRow (w0.heap.size + 3) 3 1 (.slice (some ⟨db, 0, none⟩) 6 dc) 6 (ints (natI (digs l)))
  bel : Below w0.heap.size w0 w
theorem FN.put {l : List UInt8} {W H n g cap ob db dc : Nat} {w0 w : World} {f f' : Nat → Int} (t : FN l W H n g cap ob db dc w0 w f) (hg : g < w0.heap.size) (ho : ob < w0.heap.size) {b : Nat} {x : Int} (e : ∀ i, f' i = if i = b then x else f i) : FN l W H n g cap ob db dc w0 (w.setCell ⟨w0.heap.size + 2, b, none⟩ (.int .i64 x)) f' := by
  refine ⟨t.box.other (by show w0.heap.size ≠ w0.heap.size + 2; omega) _, t.die.other (by show w0.heap.size + 1 ≠ w0.heap.size + 2; omega) _, (t.row.set b _).congr (fun i _ => ?_), t.byn.set (by omega) _, t.bot.setOther (a := ⟨w0.heap.size + 2, b, none⟩) (by show ob ≠ w0.heap.size + 2; omega) _, ownsRow_setCell_below t.dig (by show w0.heap.size + 2 < w0.heap.size + 3; omega) _, t.bel.setCell (p := ⟨w0.heap.size + 2, b, none⟩) (by show w0.heap.size ≤ w0.heap.size + 2; omega) _⟩
  rw [e]
  by_cases h : i = b
  · rw [if_pos h, if_pos h]
  · rw [if_neg h, if_neg h]
theorem FN.drew {l : List UInt8} {W H n g cap ob db dc : Nat} {w0 w : World} {f : Nat → Int} (t : FN l W H n g cap ob db dc w0 w f) : FN l W H n g cap ob db dc w0 w.drew f := ⟨t.box, t.die, t.row, t.byn, t.bot, t.dig, t.bel.drew⟩
set_option maxHeartbeats 6400000 in
theorem neFold_any (l : List UInt8) (W H n g cap ob : Nat) (h6 : sixB l = true) (hn : n = (flatL l).length) (w : World) (hA : ByN w g (flatL l)) (hR : w.rowIs ob 3 n (fun i => .int .i64 (botI (width l) (lgs l) i))) : Calls Try.prog 15 #[.agg #[.int .i64 (W : Int), .int .i64 (H : Int), .slice (some ⟨g, 0, none⟩) n cap], .slice (some ⟨ob, 0, none⟩) n n] w fun e w' => e = .returned (D.v (foldD l)) ∧ Below w.heap.size w w' := by
  have hm := make_int6
  have HDG := hide (fun wx (hx : ByN wx g (flatL l)) => digs_any l W H n g cap h6 hn wx hx)
  have HSY := hide (fun k d (hd : (digs l)[k]? = some d) => dig_says h6 hd)
  have HAT := hide (fun k (hk : k < 6) => digs_at h6 hk)
  have hgw := hA.1
  have how := hR.lt
  have HA := hide hA
  have HR := hide hR
  have HNN := hide hn
  clear hA hR h6 hn
  go_enter Try.func15, Try.ntmps15
  go_wp2_with fail
  have q0 : Below w.heap.size w (((w.alloc (.cells #[.int .i64 (W : Int), .int .i64 (H : Int), .slice (some ⟨g, 0, none⟩) n cap] 30)).alloc (.cells #[.int .i64 0, .int .i64 0, .int .i64 0, .int .i64 0, .int .i64 0, .int .i64 0] 39)).alloc (.cells (madeCells #[.int .i64 0] 6) 3)) := by go_grown
  have G0 := ((IsGN.new (w := w) (x := (W : Int)) (y := (H : Int)) (v := .slice (some ⟨g, 0, none⟩) n cap)).alloc (.cells #[.int .i64 0, .int .i64 0, .int .i64 0, .int .i64 0, .int .i64 0, .int .i64 0] 39)).alloc (.cells (madeCells #[.int .i64 0] 6) 3)
  have D0 := (IsD.new2 (w := w) (o := .cells #[.int .i64 (W : Int), .int .i64 (H : Int), .slice (some ⟨g, 0, none⟩) n cap] 30) (d := ⟨0, 0, 0, 0, 0, 0⟩) (ty := 39)).alloc (.cells (madeCells #[.int .i64 0] 6) 3)
  have R0 := World.rowIs_made ((w.alloc (.cells #[.int .i64 (W : Int), .int .i64 (H : Int), .slice (some ⟨g, 0, none⟩) n cap] 30)).alloc (.cells #[.int .i64 0, .int .i64 0, .int .i64 0, .int .i64 0, .int .i64 0, .int .i64 0] 39)) (.int .i64 0) 6 3
  have hsz : ((w.alloc (.cells #[.int .i64 (W : Int), .int .i64 (H : Int), .slice (some ⟨g, 0, none⟩) n cap] 30)).alloc (.cells #[.int .i64 0, .int .i64 0, .int .i64 0, .int .i64 0, .int .i64 0, .int .i64 0] 39)).heap.size = w.heap.size + 2 := by simp
  have hs3 : (((w.alloc (.cells #[.int .i64 (W : Int), .int .i64 (H : Int), .slice (some ⟨g, 0, none⟩) n cap] 30)).alloc (.cells #[.int .i64 0, .int .i64 0, .int .i64 0, .int .i64 0, .int .i64 0, .int .i64 0] 39)).alloc (.cells (madeCells #[.int .i64 0] 6) 3)).heap.size = w.heap.size + 3 := by simp
  rw [hsz] at R0
  have A0 := byN_to q0 HA.out rfl
  have O0 := rowIs_to q0 HR.out rfl
  generalize (((w.alloc (.cells #[.int .i64 (W : Int), .int .i64 (H : Int), .slice (some ⟨g, 0, none⟩) n cap] 30)).alloc (.cells #[.int .i64 0, .int .i64 0, .int .i64 0, .int .i64 0, .int .i64 0, .int .i64 0] 39)).alloc (.cells (madeCells #[.int .i64 0] 6) 3)) = W0 at q0 G0 D0 R0 A0 O0 hs3 ⊢
  obtain ⟨l0, ⟨a0, a1, a2⟩, -⟩ := G0.all
  go_wp2_with fail
  refine (HDG.out _ A0).mono ?_
  rintro e w2 ⟨db, dc, rfl, hdb0, hdb1, OD, hb2⟩
  have HF := hide (show FN l W H n g cap ob db dc w w2 (faceF l 0) from ⟨isGN_to hb2 G0 rfl, isD_to hb2 D0 rfl, rowIs_to hb2 R0 rfl, byN_to hb2 A0 rfl, rowIs_to hb2 O0 rfl, by rw [← hs3]; exact OD, below_after q0 hb2 q0.size⟩)
  clear q0 G0 D0 R0 A0 O0 OD hb2 a0 a1 a2 l0 hdb1
  go_wp2
  go_loopw [12, 7] (fun i _ wr => ∃ k : Nat, k ≤ 6 ∧ i = .int .i64 (k : Int) ∧ FN l W H n g cap ob db dc w wr (faceF l k)) (fun i _ _ => 6 - (intOf i).toNat)
  case atStart => exact ⟨0, Nat.zero_le _, rfl, HF.out⟩
  case round =>
    obtain ⟨k, hk, rfl, T⟩ := hrel
    by_cases hlt : k < 6
    · have hki : (k : Int) < 6 := by omega
      obtain ⟨d, hd⟩ := HAT.out k hlt
      obtain ⟨hdn, ⟨c, hc, hcd, hgc⟩, -, b, hb6, hbe⟩ := HSY.out k d hd
      rw [← HNN.out] at hdn
      have hdi : (d : Int) < (n : Int) := by omega
      have hbi : (b : Int) < 6 := by omega
      obtain ⟨c48, c57⟩ := dig_of hcd
      have w1 : IntKind.u8.wrap ((c.toNat : Int) - 48) = (c.toNat : Int) - 48 := by simp [IntKind.wrap, IntKind.signed, IntKind.bits]; omega
      have w3 : IntKind.i64.wrap ((c.toNat : Int) - 48) = (c.toNat : Int) - 48 := IntWalk.i64_in _ (by omega)
      have HSN := hide (fun i => faceF_snoc hd hbe.symm (x := (c.toNat : Int) - 48) (by rw [hgc]) i)
      have dcell := ints_cell T.dig k (d : Int) (natI_get hd)
      have ocell : wr.cell? ⟨ob, d, none⟩ = some (.int .i64 (b : Int)) := by rw [← hbe]; exact T.bot.cell hdn
      have gcell := T.byn.2 d c hc
      obtain ⟨l1, ⟨b0, b1, b2⟩, -⟩ := T.box.all
      have fcell : wr.cell? ⟨w.heap.size + 2, b, none⟩ = some (.int .i64 (faceF l k b)) := T.row.cell hb6
      have ffree := T.row.frozen b
      have hn1 : w.heap.size + 2 ≠ ob := by omega
      have hn2 : w.heap.size + 2 ≠ w.heap.size := by omega
      have hn3 : w.heap.size + 2 ≠ g := by omega
      have HT := hide T
      clear T hd hc hcd hgc hbe
      go_upto_region 5 with (fail)
      go_region_held3 (fun w' => w'.cell? ⟨ob, d, none⟩ = some (.int .i64 (b : Int)) ∧ w'.cell? ⟨w.heap.size, 2, none⟩ = some (.slice (some ⟨g, 0, none⟩) n cap) ∧ w'.cell? ⟨g, d, none⟩ = some (.int .u8 (c.toNat : Int))) (first | (refine ⟨?_, ?_, ?_⟩ <;> with_reducible assumption) | (refine ⟨?_, ?_, ?_⟩ <;> (first | rw [cell_setD hn1] | rw [cell_setD hn2] | rw [cell_setD hn3]) <;> with_reducible assumption) | (refine ⟨?_, ?_, ?_⟩ <;> assumption)) (fail)
      all_goals
        go_wp2
        go_roundw
        case rel => exact ⟨k + 1, by omega, by go_num, (HT.out.put hgw how HSN.out).drew⟩
        case measure => simp [intOf] <;> omega
    · obtain rfl : k = 6 := by omega
      have HFD := hide (show foldD l = ⟨faceF l 6 0, faceF l 6 1, faceF l 6 2, faceF l 6 3, faceF l 6 4, faceF l 6 5⟩ from rfl)
      have r0 : wr.cell? ⟨w.heap.size + 2, 0, none⟩ = some (.int .i64 (faceF l 6 0)) := T.row.cell (by omega)
      have r1 : wr.cell? ⟨w.heap.size + 2, 1, none⟩ = some (.int .i64 (faceF l 6 1)) := T.row.cell (by omega)
      have r2 : wr.cell? ⟨w.heap.size + 2, 2, none⟩ = some (.int .i64 (faceF l 6 2)) := T.row.cell (by omega)
      have r3 : wr.cell? ⟨w.heap.size + 2, 3, none⟩ = some (.int .i64 (faceF l 6 3)) := T.row.cell (by omega)
      have r4 : wr.cell? ⟨w.heap.size + 2, 4, none⟩ = some (.int .i64 (faceF l 6 4)) := T.row.cell (by omega)
      have r5 : wr.cell? ⟨w.heap.size + 2, 5, none⟩ = some (.int .i64 (faceF l 6 5)) := T.row.cell (by omega)
      have hlw := T.row.lt
      have HDE := hide T.die
      have HBE := hide T.bel
      clear T
      generalize faceF l 6 0 = x0 at *
      generalize faceF l 6 1 = x1 at *
      generalize faceF l 6 2 = x2 at *
      generalize faceF l 6 3 = x3 at *
      generalize faceF l 6 4 = x4 at *
      generalize faceF l 6 5 = x5 at *
      have HDO := hide (diOf_any ⟨x0, x1, x2, x3, x4, x5⟩ (w.heap.size + 2) (cap := 6) wr hlw r0 r1 r2 r3 r4 r5)
      clear r0 r1 r2 r3 r4 r5
      go_wp2_with (go_at_call 27; (with_reducible refine HDO.out.mono ?_); rintro e w4 ⟨rfl, hb4⟩; have g4 := isD_to hb4 HDE.out rfl; have q4 := below_after HBE.out hb4 HBE.out.size; obtain ⟨l2, ⟨d0, d1, d2, d3, d4, d5⟩, e0, e1, e2, e3, e4, e5⟩ := g4.all; clear hb4)
      refine bodyPost_ret (ret_die Try.results15 rfl (g4.set6 ⟨x0, x1, x2, x3, x4, x5⟩)) rfl ⟨by rw [HFD.out], ?_⟩
      exact below_set6 q4 (Nat.le_succ _) ⟨x0, x1, x2, x3, x4, x5⟩
end Go.Proofs.Ytkknjokacinlaaa
