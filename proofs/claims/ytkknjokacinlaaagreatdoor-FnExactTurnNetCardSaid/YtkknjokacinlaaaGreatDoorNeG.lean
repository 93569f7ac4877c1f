/- The model of sixes: spec.neBottoms, the faces that lie on the cells of a six. -/
import Derived.Test.YtkknjokacinlaaaGreatDoorNeF
namespace Go.Proofs.YtkknjokacinlaaaGreatDoor
set_option maxRecDepth 100000
set_option linter.all false
open Go.RowKit

theorem cell_set6N {w : World} {b c o j : Nat} {u0 u1 u2 u3 u4 u5 : Value} (h : b ≠ c) : ((((((w.setCell ⟨b, j * 6, none⟩ u0).setCell ⟨b, j * 6 + 1, none⟩ u1).setCell ⟨b, j * 6 + 2, none⟩ u2).setCell ⟨b, j * 6 + 3, none⟩ u3).setCell ⟨b, j * 6 + 4, none⟩ u4).setCell ⟨b, j * 6 + 5, none⟩ u5).cell? ⟨c, o, none⟩ = w.cell? ⟨c, o, none⟩ := by
  have hd : ∀ i, (⟨b, i, none⟩ : Addr) ≠ ⟨c, o, none⟩ := fun i e => h (by injection e)
  rw [World.cell?_setCell_other _ _ _ _ (hd _), World.cell?_setCell_other _ _ _ _ (hd _), World.cell?_setCell_other _ _ _ _ (hd _), World.cell?_setCell_other _ _ _ _ (hd _), World.cell?_setCell_other _ _ _ _ (hd _), World.cell?_setCell_other _ _ _ _ (hd _)]
theorem own_set6N {w : World} {B b j : Nat} {e : TypeId} {z : Nat} {v : Value} {n : Nat} {xs : List Value} {u0 u1 u2 u3 u4 u5 : Value} (h : w.ownsRow B e z v n xs) (hb : b < B) : ((((((w.setCell ⟨b, j * 6, none⟩ u0).setCell ⟨b, j * 6 + 1, none⟩ u1).setCell ⟨b, j * 6 + 2, none⟩ u2).setCell ⟨b, j * 6 + 3, none⟩ u3).setCell ⟨b, j * 6 + 4, none⟩ u4).setCell ⟨b, j * 6 + 5, none⟩ u5).ownsRow B e z v n xs :=
  ownsRow_setCell_below (ownsRow_setCell_below (ownsRow_setCell_below (ownsRow_setCell_below (ownsRow_setCell_below (ownsRow_setCell_below h (a := ⟨b, j * 6, none⟩) hb _) (a := ⟨b, j * 6 + 1, none⟩) hb _) (a := ⟨b, j * 6 + 2, none⟩) hb _) (a := ⟨b, j * 6 + 3, none⟩) hb _) (a := ⟨b, j * 6 + 4, none⟩) hb _) (a := ⟨b, j * 6 + 5, none⟩) hb _
theorem make_dice (n : Nat) (hn : n ≤ 36) (wx : World) : (Instr.makeSlice 49 (.int .i64 (n : Int)) (.int .i64 (n : Int))).run Tryz.prog wx = .ok (.slice (some ⟨wx.heap.size, 0, none⟩) n n) (wx.alloc (.cells (madeCells #[.int .i64 0, .int .i64 0, .int .i64 0, .int .i64 0, .int .i64 0, .int .i64 0] (n * 6)) 51)) := by
  obtain ⟨i0, hi, hz0, hz1, hz2⟩ := info_parts info_dieN
  have hr := run_make (P := Tryz.prog) wx 49 51 i0 _ Tryz.underlying49 hi hz0 .i64 .i64 (n : Int) (n : Int) (by omega) (by omega) (by rw [hz2]; omega) (by omega)
  rw [hz1] at hr
  simp only [Int.toNat_natCast] at hr
  exact hr
theorem dice_made (w : World) (n W : Nat) : DiceN (w.alloc (.cells (madeCells #[.int .i64 0, .int .i64 0, .int .i64 0, .int .i64 0, .int .i64 0, .int .i64 0] (n * 6)) 51)) w.heap.size n W [] := by
  have h := World.rowIs_alloc w (madeCells #[.int .i64 0, .int .i64 0, .int .i64 0, .int .i64 0, .int .i64 0, .int .i64 0] (n * 6)) 51 (fun i => (madeCells #[.int .i64 0, .int .i64 0, .int .i64 0, .int .i64 0, .int .i64 0, .int .i64 0] (n * 6)).getD i undef) (fun i hi => by rw [Array.getD_eq_getD_getElem?, Array.getElem?_eq_getElem hi]; rfl)
  rw [size_madeCells] at h
  exact ⟨_, h, fun q hq => by simp at hq⟩
/-- The search of bottoms is that of the list. -/
def botsN (l : List UInt8) : List Nat := (digs l).map fun i => (botI (width l) (lgs l) i).toNat
theorem botsN_nodup {l : List UInt8} (h : sixB l = true) : (bots l).Nodup ↔ (botsN l).Nodup := by
  have e1 : bots l = (botsN l).map (fun n : Nat => (n : Int)) := by
    unfold bots botsN
    rw [List.map_map]
    exact List.map_congr_left (fun i hi => by have := bot_bd h hi; show botI (width l) (lgs l) i = (((botI (width l) (lgs l) i).toNat : Nat) : Int); omega)
  rw [e1]
  constructor
  · intro hn
    unfold List.Nodup at hn ⊢
    rw [List.pairwise_map] at hn
    exact hn.imp (fun h e => h (by rw [e]))
  · intro hn
    exact nodup_map_on _ _ hn (fun a _ b _ he => by omega)
theorem bitsL_id_test (D : List Nat) (j : Nat) : (bitsL id D 0).testBit j = true ↔ j ∈ D := by
  rw [bitsL_test, Nat.zero_testBit, Bool.false_or, List.any_eq_true]
  constructor
  · rintro ⟨i, hi, e⟩
    have := of_decide_eq_true e
    have e2 : i = j := this
    rw [← e2]; exact hi
  · intro h
    exact ⟨j, h, decide_eq_true rfl⟩
theorem shr_bit {c x : Nat} (hc : c < 64) (hx : x < 6) : ((((c : Int) / 2 ^ x).tmod 2 == 1) = c.testBit x) := by
  have : ∀ a : Fin 64, ∀ b : Fin 6, (((((a.val : Nat) : Int) / 2 ^ b.val).tmod 2 == 1) = a.val.testBit b.val) := by decide +kernel
  exact this ⟨c, hc⟩ ⟨x, hx⟩
theorem or_shlB {c x : Nat} (hc : c < 64) (hx : x < 6) : Go.bits .or .i64 (c : Int) (wrap64 (2 ^ x)) = ((c ||| 1 <<< x : Nat) : Int) := by
  have : ∀ a : Fin 64, ∀ b : Fin 6, Go.bits .or .i64 ((a.val : Nat) : Int) (wrap64 (2 ^ b.val)) = ((a.val ||| 1 <<< b.val : Nat) : Int) := by decide +kernel
  exact this ⟨c, hc⟩ ⟨x, hx⟩
set_option maxHeartbeats 16000000 in
theorem neBottoms_any (l : List UInt8) (W H n g cap : Nat) (hs : sixB l = true) (hF : Filled l W H) (hn : n = W * H) (w : World) (hA : ByN w g (flatL l)) : Calls Tryz.prog 13 #[gN W H n g cap] w fun e w' => e = .returned (.tuple #[.slice (some ⟨w.heap.size + 1, 0, none⟩) n n, .bool (decide (bots l).Nodup)]) ∧ w'.rowIs (w.heap.size + 1) 3 n (fun i => .int .i64 (botI W (lgs l) i)) ∧ Below w.heap.size w w' := by
  obtain ⟨i0, hi, hz0, hz1, hz2⟩ := info_parts info_intI
  have HI := hide hi
  have HZ0 := hide hz0
  have HZ1 := hide hz1
  have HZ2 := hide hz2
  clear hi hz0 hz1 hz2
  have hG := hF.toGrid6
  have hgw := hA.1
  have hn36 : n ≤ 36 := by rw [hn]; exact Nat.mul_le_mul hG.w6 hG.h6
  have hfl : (flatL l).length = n := by rw [hn]; exact hG.flat_len
  have hokF : ∀ c ∈ flatL l, okN c = true := by
    intro c hc
    unfold flatL at hc
    obtain ⟨r, hr, hcr⟩ := List.mem_flatten.1 hc
    exact List.all_eq_true.1 (hG.ok r hr) c hcr
  have hmk : ∀ wx, (Instr.makeSlice 28 (.int .i64 (n : Int)) (.int .i64 (n : Int))).run Tryz.prog wx = .ok (.slice (some ⟨wx.heap.size, 0, none⟩) n n) (wx.alloc (.cells (madeCells #[.int .i64 0] n) 3)) := fun wx => run_make_row' (P := Tryz.prog) 28 3 (.int .i64 0) 8 Tryz.underlying28 info_intI rfl .i64 .i64 n (by omega) (by omega) wx
  have hmd := make_dice n hn36
  have hd6 : (digs l).length = 6 := by rw [digs_len, hG.cnt]
  have hde : digK (flatL l) n = digs l := by rw [← hfl]; rfl
  have HDG := hide (fun wx (hx : ByN wx g (flatL l)) => neDigits_any (flatL l) W H n g cap hfl (by omega) hokF wx hx)
  rw [hde, hd6] at HDG
  obtain ⟨d0, hd0⟩ : ∃ d0, d0 = (digs l).headD 0 := ⟨_, rfl⟩
  have hdm : d0 ∈ digs l := by rw [hd0]; exact hG.head.1
  have hdn : d0 < n := by rw [← hfl]; exact (mem_digs.1 hdm).1
  have hdg : (digs l)[0]? = some d0 := by
    rw [hd0]
    cases hdl : digs l with
    | nil => rw [hdl] at hd6; cases hd6
    | cons a t => rfl
  have hix : ixL W (startM l).1 = d0 := by
    unfold ixL startM
    rw [hG.ww, ← hd0]
    simp only [Int.toNat_natCast]
    rw [Nat.mul_comm, Nat.div_add_mod]
  have HLG := hide (lgm_eq hF)
  have HST := hide (hG.start)
  have HDD := hide hdg
  have HIX := hide hix
  have HGG := hide hG
  have HNN := hide hn
  have HA := hide hA
  have HGW := hide hgw
  have HD6 := hide hd6
  have HFL := hide hfl
  have HSB := hide hs
  have HWW := hide hF.ww
  clear hF hs hG hn hA hfl hokF hd6 hde hd0 hdm hdg hix
  go_enter Tryz.func13, Tryz.ntmps13
  go_wp2
  have HB0 := hide (show IsGN (((w.alloc (.cells #[.int .i64 (W : Int), .int .i64 (H : Int), .slice (some ⟨g, 0, none⟩) n cap] 27)).alloc (.cells (madeCells #[.int .i64 0] n) 3)).alloc (.cells (madeCells #[.int .i64 0, .int .i64 0, .int .i64 0, .int .i64 0, .int .i64 0, .int .i64 0] (n * 6)) 51)) w.heap.size (W : Int) (H : Int) (.slice (some ⟨g, 0, none⟩) n cap) from (IsGN.new.alloc _).alloc _)
  have HF0 := hide (show World.rowIs (((w.alloc (.cells #[.int .i64 (W : Int), .int .i64 (H : Int), .slice (some ⟨g, 0, none⟩) n cap] 27)).alloc (.cells (madeCells #[.int .i64 0] n) 3)).alloc (.cells (madeCells #[.int .i64 0, .int .i64 0, .int .i64 0, .int .i64 0, .int .i64 0, .int .i64 0] (n * 6)) 51)) (w.heap.size + 1) 3 n (fun _ => .int .i64 0) from by
    have := World.rowIs_made (w.alloc (.cells #[.int .i64 (W : Int), .int .i64 (H : Int), .slice (some ⟨g, 0, none⟩) n cap] 27)) (.int .i64 0) n 3
    rw [World.size_alloc] at this
    exact this.alloc _)
  have HE0 := hide (show DiceN (((w.alloc (.cells #[.int .i64 (W : Int), .int .i64 (H : Int), .slice (some ⟨g, 0, none⟩) n cap] 27)).alloc (.cells (madeCells #[.int .i64 0] n) 3)).alloc (.cells (madeCells #[.int .i64 0, .int .i64 0, .int .i64 0, .int .i64 0, .int .i64 0, .int .i64 0] (n * 6)) 51)) (w.heap.size + 2) n W [] from by
    have := dice_made ((w.alloc (.cells #[.int .i64 (W : Int), .int .i64 (H : Int), .slice (some ⟨g, 0, none⟩) n cap] 27)).alloc (.cells (madeCells #[.int .i64 0] n) 3)) n W
    rwa [World.size_alloc, World.size_alloc] at this)
  have HQ0 := hide (show Below w.heap.size w (((w.alloc (.cells #[.int .i64 (W : Int), .int .i64 (H : Int), .slice (some ⟨g, 0, none⟩) n cap] 27)).alloc (.cells (madeCells #[.int .i64 0] n) 3)).alloc (.cells (madeCells #[.int .i64 0, .int .i64 0, .int .i64 0, .int .i64 0, .int .i64 0, .int .i64 0] (n * 6)) 51)) from by go_grown)
  clear hmk hmd
  generalize (((w.alloc (.cells #[.int .i64 (W : Int), .int .i64 (H : Int), .slice (some ⟨g, 0, none⟩) n cap] 27)).alloc (.cells (madeCells #[.int .i64 0] n) 3)).alloc (.cells (madeCells #[.int .i64 0, .int .i64 0, .int .i64 0, .int .i64 0, .int .i64 0, .int .i64 0] (n * 6)) 51)) = W3 at HB0 HF0 HE0 HQ0 ⊢
  go_loopw [25, 6] (fun i _ wr => ∃ k : Nat, k ≤ n ∧ i = .int .i64 (k : Int) ∧ NB l W H n g cap w wr (fun j => if j < k then -1 else 0) [] [] (.slice none 0 0)) (fun i _ _ => n - (intOf i).toNat)
  case atStart => exact ⟨0, Nat.zero_le _, rfl, HB0.out, byN_to HQ0.out HA.out rfl, HF0.out.congr (fun i _ => by simp), HE0.out, World.ownsRow_nil _ _ _ _, HQ0.out⟩
  case round =>
    obtain ⟨k, hk, rfl, T⟩ := hrel
    clear HB0 HF0 HE0 HQ0
    by_cases hlt : k < n
    · have hki : (k : Int) < (n : Int) := by omega
      have c0 := T.out.cell hlt
      have f0 := T.out.frozen k
      have HT := hide ((T.put HGW.out k (-1)).said (f' := fun j => if j < k + 1 then -1 else 0) (fun i _ => by
        by_cases e : i = k
        · subst e; simp
        · rw [if_neg e]
          by_cases e2 : i < k
          · rw [if_pos e2, if_pos (by omega)]
          · rw [if_neg e2, if_neg (by omega)]))
      clear T
      go_wp2
      go_roundw
      case rel => exact ⟨k + 1, by omega, by go_num, HT.out⟩
      case measure => simp [intOf] <;> omega
    · obtain rfl : k = n := by omega
      have T0 := T.said (f' := fun _ => -1) (fun i hi => if_pos hi)
      obtain ⟨l0, ⟨a0, a1, a2⟩, -⟩ := T0.box.all
      have HT0 := hide T0
      clear T
      clear T0
      have hfl := HT0.out.dice.lt
      obtain ⟨BB, hBB⟩ : ∃ BB, BB = wr.heap.size := ⟨_, rfl⟩
      have hB3 : w.heap.size + 2 < BB := by omega
      go_upto_region 9 with (go_at_call 19; (with_reducible refine (HDG.out _ HT0.out.byn).mono ?_); rintro e w2 ⟨v, rfl, O2, hb2⟩; obtain ⟨db, dc, rfl, hdb0, hdb1⟩ := own_form O2 (by omega); have D0 := ints_cell O2 0 (d0 : Int) (natI_get HDD.out); have HT2 := hide (HT0.out.to hb2 rfl rfl rfl rfl); have HO2 := hide (hBB ▸ O2); clear O2 hb2)
      clear a0 a1 a2 l0
      have hdi : (d0 : Int) < (k : Int) := by omega
      go_region_held3 (fun w' => w'.cell? ⟨db, 0, none⟩ = some (.int .i64 (d0 : Int))) (first | with_reducible assumption | (rw [cell_set6N (by omega)]; with_reducible assumption) | (rw [World.cell?_drew]; with_reducible assumption) | (rw [World.cell?_drew, cell_set6N (by omega)]; with_reducible assumption) | (rw [cell_set6N (by omega), World.cell?_drew]; with_reducible assumption))
        (first | (go_at_call 21; (refine (diUnit_any _).mono ?_); rintro e w3 ⟨rfl, hb3⟩; have HT3 := hide (HT2.out.to hb3 rfl rfl rfl rfl); have D3 := (hb3.cell (p := ⟨db, 0, none⟩) hdb1).trans D0; have HO3 := hide (own_to hb3 HO2.out rfl); obtain ⟨xv0, xc0⟩ := HT3.out.dice.has (j := d0 * 6) (by omega); have xf0 := HT3.out.dice.frozen (d0 * 6); obtain ⟨xv1, xc1⟩ := HT3.out.dice.has (j := d0 * 6 + 1) (by omega); have xf1 := HT3.out.dice.frozen (d0 * 6 + 1); obtain ⟨xv2, xc2⟩ := HT3.out.dice.has (j := d0 * 6 + 2) (by omega); have xf2 := HT3.out.dice.frozen (d0 * 6 + 2); obtain ⟨xv3, xc3⟩ := HT3.out.dice.has (j := d0 * 6 + 3) (by omega); have xf3 := HT3.out.dice.frozen (d0 * 6 + 3); obtain ⟨xv4, xc4⟩ := HT3.out.dice.has (j := d0 * 6 + 4) (by omega); have xf4 := HT3.out.dice.frozen (d0 * 6 + 4); obtain ⟨xv5, xc5⟩ := HT3.out.dice.has (j := d0 * 6 + 5) (by omega); have xf5 := HT3.out.dice.frozen (d0 * 6 + 5); clear hb3))
      all_goals
        have HT4 := hide (show NB l W H k g cap w ((((((w3.setCell ⟨w.heap.size + 2, d0 * 6, none⟩ (.int .i64 0)).setCell ⟨w.heap.size + 2, d0 * 6 + 1, none⟩ (.int .i64 1)).setCell ⟨w.heap.size + 2, d0 * 6 + 2, none⟩ (.int .i64 2)).setCell ⟨w.heap.size + 2, d0 * 6 + 3, none⟩ (.int .i64 3)).setCell ⟨w.heap.size + 2, d0 * 6 + 4, none⟩ (.int .i64 4)).setCell ⟨w.heap.size + 2, d0 * 6 + 5, none⟩ (.int .i64 5)) (fun _ => -1) [startM l] [] (.slice none 0 0) from HT3.out.put6 HGW.out (p := startM l) HIX.out (by simp))
        have D4 : ((((((w3.setCell ⟨w.heap.size + 2, d0 * 6, none⟩ (.int .i64 0)).setCell ⟨w.heap.size + 2, d0 * 6 + 1, none⟩ (.int .i64 1)).setCell ⟨w.heap.size + 2, d0 * 6 + 2, none⟩ (.int .i64 2)).setCell ⟨w.heap.size + 2, d0 * 6 + 3, none⟩ (.int .i64 3)).setCell ⟨w.heap.size + 2, d0 * 6 + 4, none⟩ (.int .i64 4)).setCell ⟨w.heap.size + 2, d0 * 6 + 5, none⟩ (.int .i64 5)).cell? ⟨db, 0, none⟩ = some (.int .i64 (d0 : Int)) := (cell_set6N (by omega)).trans D3
        have HO4 := hide (show World.ownsRow ((((((w3.setCell ⟨w.heap.size + 2, d0 * 6, none⟩ (.int .i64 0)).setCell ⟨w.heap.size + 2, d0 * 6 + 1, none⟩ (.int .i64 1)).setCell ⟨w.heap.size + 2, d0 * 6 + 2, none⟩ (.int .i64 2)).setCell ⟨w.heap.size + 2, d0 * 6 + 3, none⟩ (.int .i64 3)).setCell ⟨w.heap.size + 2, d0 * 6 + 4, none⟩ (.int .i64 4)).setCell ⟨w.heap.size + 2, d0 * 6 + 5, none⟩ (.int .i64 5)) _ _ _ _ _ _ from own_set6N HO3.out hB3)
        clear HT3 D3 HO3 HT2 HT0 D0 HO2 xc0 xf0 xc1 xf1 xc2 xf2 xc3 xf3 xc4 xf4 xc5 xf5
        have hz4 : db < ((((((w3.setCell ⟨w.heap.size + 2, d0 * 6, none⟩ (.int .i64 0)).setCell ⟨w.heap.size + 2, d0 * 6 + 1, none⟩ (.int .i64 1)).setCell ⟨w.heap.size + 2, d0 * 6 + 2, none⟩ (.int .i64 2)).setCell ⟨w.heap.size + 2, d0 * 6 + 3, none⟩ (.int .i64 3)).setCell ⟨w.heap.size + 2, d0 * 6 + 4, none⟩ (.int .i64 4)).setCell ⟨w.heap.size + 2, d0 * 6 + 5, none⟩ (.int .i64 5)).heap.size := (HO4.out.lt db rfl).2
        generalize ((((((w3.setCell ⟨w.heap.size + 2, d0 * 6, none⟩ (.int .i64 0)).setCell ⟨w.heap.size + 2, d0 * 6 + 1, none⟩ (.int .i64 1)).setCell ⟨w.heap.size + 2, d0 * 6 + 2, none⟩ (.int .i64 2)).setCell ⟨w.heap.size + 2, d0 * 6 + 3, none⟩ (.int .i64 3)).setCell ⟨w.heap.size + 2, d0 * 6 + 4, none⟩ (.int .i64 4)).setCell ⟨w.heap.size + 2, d0 * 6 + 5, none⟩ (.int .i64 5)) = w4 at HT4 D4 HO4 hz4 ⊢
        have c0 := HT4.out.out.cell hdn
        have f0 := HT4.out.out.frozen d0
        have D5 : (w4.setCell ⟨w.heap.size + 1, d0, none⟩ (.int .i64 5)).cell? ⟨db, 0, none⟩ = some (.int .i64 (d0 : Int)) := (World.cell?_setCell_other _ _ _ _ (fun e => by injection e with e1; omega)).trans D4
        have HT5 := hide (((HT4.out.put HGW.out d0 5).first (q := startM l) (b := w4.heap.size) HIX.out (by simp)).said (f' := botI W [startM l]) (fun i _ => bot_one (startM l) d0 rfl HIX.out i))
        have HO5 := hide (own_to ((Below.refl _ _).alloc (Nat.le_refl _) (.cells #[.int .i64 (d0 : Int)] 3)) (ownsRow_setCell_below HO4.out (a := ⟨w.heap.size + 1, d0, none⟩) (show w.heap.size + 1 < BB from by omega) (.int .i64 5)) rfl)
        go_wp2
        clear c0 f0 D4 D5 HT4 HO4
        have hqb0 : (Value.slice (some ⟨w4.heap.size, 0, none⟩) 1 1).ownBlock ≠ some db := fun e => by
          have e' : w4.heap.size = db := Option.some.inj e
          have := hz4
          omega
        have HQB := hide hqb0
        clear hqb0
        go_loopw [9, 8, 10, 11] (fun i vv _ _ wr => ∃ (m : Nat) (Q : List Lg) (qv : Value), i = .int .i64 (m : Int) ∧ qv = vv ∧ m ≤ Q.length ∧ 0 < Q.length ∧ GoodQ l Q ∧ goL l (7 - m) m Q = lgm l ∧ NB l W H k g cap w wr (botI W Q) Q Q qv ∧ wr.ownsRow BB 3 1 (.slice (some ⟨db, 0, none⟩) 6 dc) 6 (ints (natI (digs l))) ∧ qv.ownBlock ≠ some db) (fun i _ _ _ _ => 7 - (intOf i).toNat)
        case atStart => exact ⟨0, [startM l], _, rfl, rfl, by simp, by simp, HST.out, rfl, HT5.out, HO5.out, HQB.out⟩
        case round =>
          obtain ⟨m, Q, qv, rfl, rfl, hm, hpos, hQ, hgo, T, O, hqd⟩ := hrel
          clear HT5 HO5 HQB
          have hl6 := hQ.le HGG.out
          obtain ⟨qb, qc, rfl, hqb0, hqb1⟩ := own_form T.que hpos
          by_cases hlt : m < Q.length
          · have hmi : (m : Int) < (Q.length : Int) := by omega
            have hq := List.getElem?_eq_getElem hlt
            generalize Q[m] = q at hq
            have hmem := List.mem_of_getElem? hq
            have HQS := hide (fun j hj => hQ.steps hmem j hj)
            have HGO := hide (show goL l (7 - (m + 1)) (m + 1) (stepsL l q 4 Q) = lgm l from by rw [← hgo, show 7 - m = (7 - (m + 1)) + 1 from by omega, goL_hitS hq])
            have HLE := hide (show ∀ j, Q.length ≤ (stepsL l q j Q).length from fun j => by obtain ⟨M, hM⟩ := stepsL_pre l q j Q; rw [hM, List.length_append]; omega)
            have HQ1 := hide (show ∀ j, (stepsL l q j Q)[m]? = some q from fun j => stepsL_get hq)
            have HT := hide T
            have HO := hide O
            have HQD := hide hqd
            obtain ⟨ql, hql⟩ : ∃ ql, ql = Q.length := ⟨_, rfl⟩
            rw [← hql] at hmi HT HQD
            rw [← hql]
            have HQL := hide hql
            have hm6 : m < 6 := by omega
            clear T O hqd hQ hgo hq hmem hl6 hqb0 hqb1 hlt hql hpos hm
            go_wp2
            go_loopw [10, 8, 11] (fun i vv _ wr => ∃ (j : Nat) (qv : Value), j ≤ 4 ∧ i = .int .i64 (j : Int) ∧ qv = vv ∧ NB l W H k g cap w wr (botI W (stepsL l q j Q)) (stepsL l q j Q) (stepsL l q j Q) qv ∧ wr.ownsRow BB 3 1 (.slice (some ⟨db, 0, none⟩) 6 dc) 6 (ints (natI (digs l))) ∧ qv.ownBlock ≠ some db) (fun i _ _ _ => 4 - (intOf i).toNat)
            case atStart => exact ⟨0, _, by omega, rfl, rfl, HT.out, HO.out, HQD.out⟩
            case round =>
              obtain ⟨j, qv, hj, rfl, rfl, T, O, hqd⟩ := hrel
              clear HT HO HQD
              by_cases hj4 : j < 4
              · have hji : (j : Int) < 4 := by omega
                have hQ1 := HQS.out j hj
                have hq1 := HQ1.out j
                have HSS := hide (show stepsL l q (j + 1) Q = stepL l q j (stepsL l q j Q) from rfl)
                generalize stepsL l q j Q = Q1 at hQ1 hq1 T HSS
                have hmem := List.mem_of_getElem? hq1
                have hml := (List.getElem?_eq_some_iff.1 hq1).1
                have hl6 := hQ1.le HGG.out
                obtain ⟨qb, qc, rfl, hqb0, hqb1⟩ := own_form T.que (by omega)
                have hix := hQ1.ix HGG.out
                have hin := hix.2 _ (List.mem_map.2 ⟨q, hmem, rfl⟩)
                have hxn : ixL W q.1 < k := by
                  have := (mem_digs.1 hin).1
                  rw [HGG.out.flat_len, ← HNN.out] at this
                  exact this
                have hqc := ints_cell T.que m ((ixL W q.1 : Nat) : Int) (natI_get (by rw [List.getElem?_map, hq1]; rfl))
                have hlk := step_lock HGG.out hQ1 hmem hj4
                have HNS := hide (fun wx (hx : ByN wx g (flatL l)) => neStep_any l W H k g cap HGG.out HNN.out (ixL W q.1) hxn j hj4 wx hx)
                have HBN := hide (fun i => botI_none (W := W) hQ1 (i := i))
                obtain ⟨ix, hixe⟩ : ∃ ix, ix = ixL W q.1 := ⟨_, rfl⟩
                rw [← hixe] at hxn hqc HNS
                rw [← hixe] at hlk
                have HIE := hide hixe.symm
                have HMEM := hide hmem
                clear hixe hin hq1 hmem hix
                obtain ⟨l0, ⟨a0, a1, a2⟩, -⟩ := T.box.all
                have HT := hide T
                have HO := hide O
                have HQD := hide hqd
                have hmi1 : (m : Int) < (Q1.length : Int) := by omega
                have hql1 : Q1.length ≤ 6 := hl6
                obtain ⟨ql1, hql1e⟩ : ∃ ql1, ql1 = Q1.length := ⟨_, rfl⟩
                rw [← hql1e] at hmi1 hql1 HT HQD
                rw [← hql1e]
                have HQL1 := hide hql1e
                have hdb := (O.lt db rfl)
                clear T O hqd hQ1 hqb0 hl6 hml hql1e
                rcases hlk with ⟨e1, e2⟩ | ⟨t, htn, e1, ⟨hm, e2⟩ | ⟨hm, e2, e3⟩⟩
                · rw [e1] at HNS
                  have HE := hide (HSS.out.trans e2)
                  clear e1 e2 HSS
                  go_upto_region 18 with (fail)
                  go_region_held3 (fun w' => w'.cell? ⟨w.heap.size, 0, none⟩ = some (.int .i64 (W : Int)) ∧ w'.cell? ⟨w.heap.size, 1, none⟩ = some (.int .i64 (H : Int)) ∧ w'.cell? ⟨w.heap.size, 2, none⟩ = some (.slice (some ⟨g, 0, none⟩) k cap) ∧ w'.cell? ⟨qb, m, none⟩ = some (.int .i64 (ix : Int))) (first | (refine ⟨?_, ?_, ?_, ?_⟩ <;> with_reducible assumption) | (refine ⟨?_, ?_, ?_, ?_⟩ <;> assumption))
                    (first | (go_at_call 22; (refine (HNS.out _ ?_).mono ?_); (exact byN_to (Below.refl _ _) HT.out.byn rfl); rintro e w2 ⟨rfl, hb2⟩; have HT2 := hide (HT.out.to hb2 rfl rfl rfl rfl); obtain ⟨m0, ⟨b0, b1, b2⟩, -⟩ := HT2.out.box.all; have b3 := (hb2.cell (p := ⟨qb, m, none⟩) hqb1).trans hqc; have hz2 := hb2.size; have HO2 := hide (own_to hb2 HO.out rfl); clear hb2))
                  all_goals
                    go_wp2
                    go_roundw
                    case rel => exact ⟨j + 1, _, by omega, by go_num, rfl, by rw [HE.out]; exact HT2.out, HO2.out, HQD.out⟩
                    case measure => simp [intOf] <;> omega
                · rw [e1] at HNS
                  have HE := hide (HSS.out.trans e2)
                  have htn' : t < k := by rw [HNN.out]; exact htn
                  have hti : (t : Int) < (k : Int) := by omega
                  obtain ⟨v, hve⟩ : ∃ v, v = botI W Q1 t := ⟨_, rfl⟩
                  have hv0 : 0 ≤ v := by
                    have h1 := HBN.out t
                    rw [← hve] at h1
                    rcases Int.lt_or_le v 0 with h2 | h2
                    · exact absurd hm (h1.1 h2)
                    · exact h2
                  have hvd : decide (v < 0) = false := decide_eq_false (by omega)
                  have HVE := hide hve
                  clear e1 e2 HSS hm hve htn
                  go_upto_region 18 with (fail)
                  go_region_held3 (fun w' => w'.cell? ⟨w.heap.size, 0, none⟩ = some (.int .i64 (W : Int)) ∧ w'.cell? ⟨w.heap.size, 1, none⟩ = some (.int .i64 (H : Int)) ∧ w'.cell? ⟨w.heap.size, 2, none⟩ = some (.slice (some ⟨g, 0, none⟩) k cap) ∧ w'.cell? ⟨qb, m, none⟩ = some (.int .i64 (ix : Int))) (first | (refine ⟨?_, ?_, ?_, ?_⟩ <;> with_reducible assumption) | (refine ⟨?_, ?_, ?_, ?_⟩ <;> assumption))
                    (first | (go_at_call 22; (refine (HNS.out _ ?_).mono ?_); (exact byN_to (Below.refl _ _) HT.out.byn rfl); rintro e w2 ⟨rfl, hb2⟩; have HT2 := hide (HT.out.to hb2 rfl rfl rfl rfl); obtain ⟨m0, ⟨b0, b1, b2⟩, -⟩ := HT2.out.box.all; have b3 := (hb2.cell (p := ⟨qb, m, none⟩) hqb1).trans hqc; have hz2 := hb2.size; have HO2 := hide (own_to hb2 HO.out rfl); have d9 : w2.cell? ⟨w.heap.size + 1, t, none⟩ = some (.int .i64 v) := (by rw [HVE.out]; exact HT2.out.out.cell htn'); clear hb2))
                  all_goals
                    go_wp2
                    go_roundw
                    case rel => exact ⟨j + 1, _, by omega, by go_num, rfl, by rw [HE.out]; exact HT2.out, HO2.out, HQD.out⟩
                    case measure => simp [intOf] <;> omega
                · rw [e1] at HNS
                  have HE := hide (HSS.out.trans e2)
                  have htn' : t < k := by rw [HNN.out]; exact htn
                  have hti : (t : Int) < (k : Int) := by omega
                  obtain ⟨v, hve⟩ : ∃ v, v = botI W Q1 t := ⟨_, rfl⟩
                  have hv0 : v < 0 := by rw [hve, HBN.out]; exact hm
                  have HVE := hide hve
                  have HMM := hide hm
                  have HE3 := hide e3
                  have hxi : (ix : Int) < (k : Int) := by omega
                  clear e1 e2 e3 HSS hm hve htn
                  go_upto_region 18 with (fail)
                  go_region_held3 (fun w' => w'.cell? ⟨w.heap.size, 0, none⟩ = some (.int .i64 (W : Int)) ∧ w'.cell? ⟨w.heap.size, 1, none⟩ = some (.int .i64 (H : Int)) ∧ w'.cell? ⟨w.heap.size, 2, none⟩ = some (.slice (some ⟨g, 0, none⟩) k cap) ∧ w'.cell? ⟨qb, m, none⟩ = some (.int .i64 (ix : Int))) (first | (refine ⟨?_, ?_, ?_, ?_⟩ <;> with_reducible assumption) | (refine ⟨?_, ?_, ?_, ?_⟩ <;> assumption))
                    (first | (go_at_call 22; (refine (HNS.out _ ?_).mono ?_); (exact byN_to (Below.refl _ _) HT.out.byn rfl); rintro e w2 ⟨rfl, hb2⟩; have HT2 := hide (HT.out.to hb2 rfl rfl rfl rfl); obtain ⟨m0, ⟨b0, b1, b2⟩, -⟩ := HT2.out.box.all; have b3 := (hb2.cell (p := ⟨qb, m, none⟩) hqb1).trans hqc; have hz2 := hb2.size; have HO2 := hide (own_to hb2 HO.out rfl); have d9 : w2.cell? ⟨w.heap.size + 1, t, none⟩ = some (.int .i64 v) := (by rw [HVE.out]; exact HT2.out.out.cell htn'); obtain ⟨p0, p1, p2, p3, p4, p5⟩ := HT2.out.dice.cells HMEM.out HIE.out hxn; clear hb2))
                  all_goals
                    go_wp2_with (first | (go_at_call 23; (refine (diRoll_any (j : Int) q.1.d _).mono ?_); rintro e w3 ⟨rfl, hb3⟩; have HT3 := hide (HT2.out.to hb3 rfl rfl rfl rfl); have hz3 := hb3.size; have HO3 := hide (own_to hb3 HO2.out rfl); obtain ⟨xv0, xc0⟩ := HT3.out.dice.has (j := t * 6) (by omega); have xf0 := HT3.out.dice.frozen (t * 6); obtain ⟨xv1, xc1⟩ := HT3.out.dice.has (j := t * 6 + 1) (by omega); have xf1 := HT3.out.dice.frozen (t * 6 + 1); obtain ⟨xv2, xc2⟩ := HT3.out.dice.has (j := t * 6 + 2) (by omega); have xf2 := HT3.out.dice.frozen (t * 6 + 2); obtain ⟨xv3, xc3⟩ := HT3.out.dice.has (j := t * 6 + 3) (by omega); have xf3 := HT3.out.dice.frozen (t * 6 + 3); obtain ⟨xv4, xc4⟩ := HT3.out.dice.has (j := t * 6 + 4) (by omega); have xf4 := HT3.out.dice.frozen (t * 6 + 4); obtain ⟨xv5, xc5⟩ := HT3.out.dice.has (j := t * 6 + 5) (by omega); have xf5 := HT3.out.dice.frozen (t * 6 + 5); have HT4 := hide (show NB l W H k g cap w ((((((w3.setCell ⟨w.heap.size + 2, t * 6, none⟩ (.int .i64 (rollK (j : Int) q.1.d).t)).setCell ⟨w.heap.size + 2, t * 6 + 1, none⟩ (.int .i64 (rollK (j : Int) q.1.d).n)).setCell ⟨w.heap.size + 2, t * 6 + 2, none⟩ (.int .i64 (rollK (j : Int) q.1.d).e)).setCell ⟨w.heap.size + 2, t * 6 + 3, none⟩ (.int .i64 (rollK (j : Int) q.1.d).s)).setCell ⟨w.heap.size + 2, t * 6 + 4, none⟩ (.int .i64 (rollK (j : Int) q.1.d).w)).setCell ⟨w.heap.size + 2, t * 6 + 5, none⟩ (.int .i64 (rollK (j : Int) q.1.d).b)) (botI W Q1) (Q1 ++ [(rollT q.1 (j : Int), q.2 + 1)]) Q1 (.slice (some ⟨qb, 0, none⟩) ql1 qc) from HT3.out.put6 HGW.out (p := (rollT q.1 (j : Int), q.2 + 1)) HE3.out.symm HMM.out); have e5 : ((((((w3.setCell ⟨w.heap.size + 2, t * 6, none⟩ (.int .i64 (rollK (j : Int) q.1.d).t)).setCell ⟨w.heap.size + 2, t * 6 + 1, none⟩ (.int .i64 (rollK (j : Int) q.1.d).n)).setCell ⟨w.heap.size + 2, t * 6 + 2, none⟩ (.int .i64 (rollK (j : Int) q.1.d).e)).setCell ⟨w.heap.size + 2, t * 6 + 3, none⟩ (.int .i64 (rollK (j : Int) q.1.d).s)).setCell ⟨w.heap.size + 2, t * 6 + 4, none⟩ (.int .i64 (rollK (j : Int) q.1.d).w)).setCell ⟨w.heap.size + 2, t * 6 + 5, none⟩ (.int .i64 (rollK (j : Int) q.1.d).b)).cell? ⟨w.heap.size + 2, t * 6 + 5, none⟩ = some (.int .i64 (rollK (j : Int) q.1.d).b) := (HT4.out.dice.cells (q := (rollT q.1 (j : Int), q.2 + 1)) (by simp) HE3.out.symm htn').2.2.2.2.2; have e6 : ((((((w3.setCell ⟨w.heap.size + 2, t * 6, none⟩ (.int .i64 (rollK (j : Int) q.1.d).t)).setCell ⟨w.heap.size + 2, t * 6 + 1, none⟩ (.int .i64 (rollK (j : Int) q.1.d).n)).setCell ⟨w.heap.size + 2, t * 6 + 2, none⟩ (.int .i64 (rollK (j : Int) q.1.d).e)).setCell ⟨w.heap.size + 2, t * 6 + 3, none⟩ (.int .i64 (rollK (j : Int) q.1.d).s)).setCell ⟨w.heap.size + 2, t * 6 + 4, none⟩ (.int .i64 (rollK (j : Int) q.1.d).w)).setCell ⟨w.heap.size + 2, t * 6 + 5, none⟩ (.int .i64 (rollK (j : Int) q.1.d).b)).cell? ⟨w.heap.size + 1, t, none⟩ = some (.int .i64 (botI W Q1 t)) := HT4.out.out.cell htn'; have f6 := HT4.out.out.frozen t; have HT5 := hide (show NB l W H k g cap w (((((((w3.setCell ⟨w.heap.size + 2, t * 6, none⟩ (.int .i64 (rollK (j : Int) q.1.d).t)).setCell ⟨w.heap.size + 2, t * 6 + 1, none⟩ (.int .i64 (rollK (j : Int) q.1.d).n)).setCell ⟨w.heap.size + 2, t * 6 + 2, none⟩ (.int .i64 (rollK (j : Int) q.1.d).e)).setCell ⟨w.heap.size + 2, t * 6 + 3, none⟩ (.int .i64 (rollK (j : Int) q.1.d).s)).setCell ⟨w.heap.size + 2, t * 6 + 4, none⟩ (.int .i64 (rollK (j : Int) q.1.d).w)).setCell ⟨w.heap.size + 2, t * 6 + 5, none⟩ (.int .i64 (rollK (j : Int) q.1.d).b)).setCell ⟨w.heap.size + 1, t, none⟩ (.int .i64 (rollK (j : Int) q.1.d).b)) (botI W (Q1 ++ [(rollT q.1 (j : Int), q.2 + 1)])) (Q1 ++ [(rollT q.1 (j : Int), q.2 + 1)]) Q1 (.slice (some ⟨qb, 0, none⟩) ql1 qc) from (HT4.out.put HGW.out t (rollK (j : Int) q.1.d).b).said (fun i _ => by rw [botI_snoc (by rw [← HE3.out]; exact HMM.out), ← HE3.out]; rfl)); have HO5 := hide (show World.ownsRow (((((((w3.setCell ⟨w.heap.size + 2, t * 6, none⟩ (.int .i64 (rollK (j : Int) q.1.d).t)).setCell ⟨w.heap.size + 2, t * 6 + 1, none⟩ (.int .i64 (rollK (j : Int) q.1.d).n)).setCell ⟨w.heap.size + 2, t * 6 + 2, none⟩ (.int .i64 (rollK (j : Int) q.1.d).e)).setCell ⟨w.heap.size + 2, t * 6 + 3, none⟩ (.int .i64 (rollK (j : Int) q.1.d).s)).setCell ⟨w.heap.size + 2, t * 6 + 4, none⟩ (.int .i64 (rollK (j : Int) q.1.d).w)).setCell ⟨w.heap.size + 2, t * 6 + 5, none⟩ (.int .i64 (rollK (j : Int) q.1.d).b)).setCell ⟨w.heap.size + 1, t, none⟩ (.int .i64 (rollK (j : Int) q.1.d).b)) _ _ _ _ _ _ from ownsRow_setCell_below (own_set6N HO3.out hB3) (by show w.heap.size + 1 < BB; omega) _); have HOQ := hide HT5.out.que; rw [← HQL1.out] at HOQ; clear HT4 hb3) | (at_builtin; refine wpList_append_own_at _ rfl _ _ 28 rfl (w.heap.size + 3) 3 i0 (.int .i64 0) 1 8 Tryz.underlying28 HI.out HZ0.out HZ1.out HZ2.out rfl (by decide) _ _ _ rfl (HOQ.out.alloc _) ⟨w3.heap.size, 0, none⟩ 1 1 [.int .i64 (t : Int)] rfl rfl ?c1 ?c2 ?c3 ?c4 ?c5 ?_))
                    case c1 => exact cell_one_at _ (.int .i64 (t : Int)) 3 _ (by simp)
                    case c2 =>
                      intro u hu
                      simp only [List.mem_singleton] at hu
                      subst hu
                      rfl
                    case c3 => unfold maxLen; omega
                    case c4 => omega
                    case c5 => have := HT3.out.dice.lt; simp; omega
                    · intro v' w5 hown5 hg5 _ h5
                      have HK := hide (HT5.out.push HGW.out (q := (rollT q.1 (j : Int), q.2 + 1)) (by rw [← HE3.out, ← HQL1.out]; exact hown5) hg5)
                      have HK2 := hide ((HO5.out.alloc _).kept hg5 (.inr (fun e => HQD.out e.symm)))
                      have HK3 := hide (show v'.ownBlock ≠ some db from by
                        rcases h5 with h5 | h5
                        · rw [h5]; exact HQD.out
                        · rw [h5]
                          intro e
                          have e' := Option.some.inj e
                          have := (HO3.out.lt db rfl).2
                          omega)
                      clear hown5 hg5 h5
                      go_wp2
                      go_roundw
                      case rel => exact ⟨j + 1, _, by omega, by go_num, rfl, by rw [HE.out]; exact HK.out, HK2.out, HK3.out⟩
                      case measure => simp [intOf] <;> omega
              · obtain rfl : j = 4 := by omega
                have HT := hide T
                have HO := hide O
                have HQD := hide hqd
                clear T O hqd
                go_wp2
                go_roundw
                case rel => exact ⟨m + 1, stepsL l q 4 Q, qv, by go_num, rfl, by have := HLE.out 4; have := HQL.out; omega, by have := HLE.out 4; have := HQL.out; omega, HQS.out 4 (by omega), HGO.out, HT.out, HO.out, HQD.out⟩
                case measure => simp [intOf] <;> omega
          · have hE : Q = lgs l := by rw [← HLG.out, ← hgo]; exact (goL_endS (by omega)).symm
            have hmi : (Q.length : Int) ≤ (m : Int) := by omega
            have HOUT := hide (show wr.rowIs (w.heap.size + 1) 3 k (fun i => .int .i64 (botI W (lgs l) i)) from by have := T.out; rw [hE] at this; exact this)
            have HO := hide O
            have HBEL := hide T.bel
            have HBD := hide (fun i hi => bot_bd HSB.out (i := i) hi)
            rw [HWW.out] at HBD
            have hbl : (botsN l).length = 6 := by unfold botsN; rw [List.length_map]; exact HD6.out
            have HBL := hide hbl
            generalize Q.length = ql at hmi ⊢
            clear T O hgo hlt hm hpos hl6 hE hqd hbl
            go_wp2
            go_loop [101, 12, 14] (fun i sv _ => ∃ t : Nat, t ≤ 6 ∧ i = .int .i64 (t : Int) ∧ sv = .int .i64 ((bitsL id ((botsN l).take t) 0 : Nat) : Int) ∧ Hid (((botsN l).take t).Nodup)) (fun i _ _ => 6 - (intOf i).toNat)
            case atStart => exact ⟨0, by omega, rfl, by simp [bitsL], hide (by simp)⟩
            case round =>
              obtain ⟨t, ht, rfl, rfl, hnd⟩ := hrel
              by_cases hlt : t < 6
              · have hti : (t : Int) < 6 := by omega
                have hdt : (digs l)[t]? = some ((digs l)[t]'(by rw [HD6.out]; exact hlt)) := List.getElem?_eq_getElem _
                generalize (digs l)[t]'(by rw [HD6.out]; exact hlt) = d at hdt
                have hdm := List.mem_of_getElem? hdt
                have hdk : d < k := by rw [← HFL.out]; exact (mem_digs.1 hdm).1
                have hdki : (d : Int) < (k : Int) := by omega
                have dcell := ints_cell HO.out t (d : Int) (natI_get hdt)
                have ocell : wr.cell? ⟨w.heap.size + 1, d, none⟩ = some (.int .i64 (botI W (lgs l) d)) := HOUT.out.cell hdk
                obtain ⟨hb0, hb6⟩ := HBD.out d hdm
                have hbt : (botsN l)[t]? = some (botI W (lgs l) d).toNat := by
                  unfold botsN
                  rw [List.getElem?_map, hdt, HWW.out]
                  rfl
                obtain ⟨b, hbe⟩ := Int.eq_ofNat_of_zero_le hb0
                rw [hbe] at ocell hb6 hbt
                rw [Int.toNat_natCast] at hbt
                have hb6' : b < 6 := by omega
                have HTK := hide (show (botsN l).take (t + 1) = (botsN l).take t ++ [b] from by rw [List.take_add_one, hbt]; rfl)
                have hlim : ∀ i ∈ (botsN l).take t, i < 6 := fun i hi => by
                  have hi' := List.mem_of_mem_take hi
                  unfold botsN at hi'
                  obtain ⟨x, hx, e⟩ := List.mem_map.1 hi'
                  have := HBD.out x hx
                  rw [HWW.out] at e
                  omega
                have hc64 := bitsL_lt (f := id) (n := 6) ((botsN l).take t) 0 (by omega) hlim
                have hbit := bitsL_id_test ((botsN l).take t) b
                have HS1 := hide (bitsL_snoc id ((botsN l).take t) 0 b)
                rw [← HTK.out] at HS1
                generalize bitsL id ((botsN l).take t) 0 = c at *
                clear hbe hdt hdm hlim hb0
                cases htb : c.testBit b
                · have hnm : b ∉ (botsN l).take t := fun h => by rw [hbit.2 h] at htb; cases htb
                  have HNM := hide hnm
                  clear hbit hnm
                  have hsb := shr_bit hc64 hb6'
                  rw [htb] at hsb
                  go_wp2
                  go_round
                  case rel =>
                    refine ⟨t + 1, by omega, by go_num, congrArg _ ((or_shlB hc64 hb6').trans (by rw [HS1.out]; rfl)), hide ?_⟩
                    rw [HTK.out, List.nodup_append]
                    refine ⟨hnd.out, by simp, fun x hx y hy e => ?_⟩
                    rw [List.mem_singleton] at hy
                    subst hy
                    subst e
                    exact HNM.out hx
                  case measure => simp [intOf]; omega
                · have hm := hbit.1 htb
                  have HY := hide (show decide (bots l).Nodup = false from by
                    rw [decide_eq_false_iff_not, botsN_nodup HSB.out]
                    intro h
                    have h1 : (botsN l).take (t + 1) = (botsN l).take t ++ [b] := HTK.out
                    have h2 : ((botsN l).take (t + 1)).Nodup := h.sublist (List.take_sublist _ _)
                    rw [h1, List.nodup_append] at h2
                    exact h2.2.2 b hm b (by simp) rfl)
                  have hsb := shr_bit hc64 hb6'
                  rw [htb] at hsb
                  clear hbit hm
                  go_wp2
                  go_returns
                  exact ⟨by rw [HY.out]; rfl, HOUT.out, HBEL.out⟩
              · obtain rfl : t = 6 := by omega
                have HY := hide (show decide (bots l).Nodup = true from by
                  rw [decide_eq_true_eq, botsN_nodup HSB.out]
                  have := hnd.out
                  rwa [List.take_of_length_le (by rw [HBL.out]; omega)] at this)
                clear hnd
                go_wp2
                go_returns
                exact ⟨by rw [HY.out]; rfl, HOUT.out, HBEL.out⟩
end Go.Proofs.YtkknjokacinlaaaGreatDoor
