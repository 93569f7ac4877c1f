/- The model's turning of a board: spec.boTurn. Condition: a board's grid. -/
import Derived.Test.YtgehcjmhgfhkdaaDoorCells
import Derived.Deep.Cut
namespace Go.Proofs.YtgehcjmhgfhkdaaDoor
set_option maxRecDepth 100000
set_option linter.all false
open Go.RowKit
attribute [local go_sem ↓] Go.wp_at_zero Go.wp_at_succ

/-- The first signs of a turned board's row. -/
def colT (F : List UInt8) (W H x : Nat) : Nat → List UInt8
  | 0 => []
  | i + 1 => colT F W H x i ++ [F.getD ((H - 1 - i) * W + x) 0]
/-- The first rows of a turned board. -/
def turnT (F : List UInt8) (W H : Nat) : Nat → List UInt8
  | 0 => []
  | x + 1 => turnT F W H x ++ colT F W H x H
/-- What the model has built. -/
def tcells (F : List UInt8) (W H x i : Nat) : List UInt8 := turnT F W H x ++ colT F W H x i
theorem colT_len (F : List UInt8) (W H x : Nat) : ∀ i, (colT F W H x i).length = i
  | 0 => rfl
  | i + 1 => by rw [colT, List.length_append, colT_len F W H x i]; rfl
theorem turnT_len (F : List UInt8) (W H : Nat) : ∀ x, (turnT F W H x).length = x * H
  | 0 => by simp [turnT]
  | x + 1 => by rw [turnT, List.length_append, turnT_len F W H x, colT_len, Nat.add_mul]; omega
theorem tcells_len (F : List UInt8) (W H x i : Nat) : (tcells F W H x i).length = x * H + i := by
  rw [tcells, List.length_append, turnT_len, colT_len]
theorem tcells_step {F : List UInt8} {W H x i : Nat} {c : UInt8} (h : F[(H - 1 - i) * W + x]? = some c) : tcells F W H x (i + 1) = tcells F W H x i ++ [c] := by
  rw [tcells, tcells, colT, ← List.append_assoc]
  congr 2
  rw [List.getD, h]
  rfl
theorem tcells_end (F : List UInt8) (W H x : Nat) : tcells F W H (x + 1) 0 = tcells F W H x H := by
  simp [tcells, turnT, colT]
theorem tcells_le {W H x i : Nat} (F : List UInt8) (hx : x ≤ 7) (hh : H ≤ 7) (hi : i ≤ H) : (tcells F W H x i).length ≤ 56 := by
  rw [tcells_len]
  have := Nat.mul_le_mul hx hh
  omega
theorem ret_grid1 {fn : Func} {p : Tmp} {tmps : Array Value} {w : World} {b : Nat} {x y : Int} {v : Value} (h : fn.results = #[.cell p 77]) (hp : tmps.getD p undef = .pointer (some ⟨b, 0, none⟩)) (hd : IsG w b x y v) :
    (results fn tmps).run Tryd.prog w = .ok (.agg #[.int .i64 x, .int .i64 y, v]) w := by
  rw [results_cell h, hp]
  exact hd.load

/-- What holds at each head of the turning's loops. -/
def TurnBI (w wr : World) (W H n g cap : Nat) (F : List UInt8) (v : Value) (L : List UInt8) : Prop :=
  IsG wr w.heap.size (W : Int) (H : Int) (.slice (some ⟨g, 0, none⟩) n cap) ∧ IsG wr (w.heap.size + 1) 0 0 (.slice none 0 0) ∧ IsG wr (w.heap.size + 2) (H : Int) (W : Int) v ∧ wr.ownsRow (w.heap.size + 3) 5 1 v L.length (bytesV L) ∧ Below w.heap.size w wr

/-- Block g holds the bytes F, as far as they go. -/
def AtB (w : World) (g : Nat) (F : List UInt8) : Prop := g < w.heap.size ∧ ∀ (j : Nat) (c : UInt8), F[j]? = some c → w.cell? ⟨g, j, none⟩ = some (.int .u8 (c.toNat : Int))
theorem atB_to {w w0 w1 : World} {g : Nat} {F : List UInt8} (hb : Below w0.heap.size w0 w1) (h : AtB w g F) (e : w0.heap = w.heap) : AtB w1 g F := by
  have hs := hb.size
  refine ⟨by rw [e] at hs; have := h.1; omega, fun j c hc => ?_⟩
  rw [hb.cell (p := ⟨g, j, none⟩) (by rw [e]; exact h.1)]
  have h5 : w0.heap[(⟨g, j, none⟩ : Addr).block]? = w.heap[(⟨g, j, none⟩ : Addr).block]? := by rw [e]
  rw [World.cell?_of_block h5]
  exact h.2 j c hc
set_option maxHeartbeats 4000000 in
theorem boTurnA_any (F : List UInt8) (W H n : Nat) (hW : 1 ≤ W ∧ W ≤ 7) (hH : 1 ≤ H ∧ H ≤ 7) (hn : n = W * H) (hF : F.length = n) (g cap : Nat) (w : World) (hA : AtB w g F) : Calls Tryd.prog 48 #[gridV W H n g cap] w fun e w' => ∃ g' cap', e = .returned (gridV H W (turnT F W H W).length g' cap') ∧ w'.ownsRow (w.heap.size + 3) 5 1 (.slice (some ⟨g', 0, none⟩) (turnT F W H W).length cap') (turnT F W H W).length (bytesV (turnT F W H W)) ∧ Below w.heap.size w w' := by
  obtain ⟨i0, hi, hz0, hz1, hz2⟩ := info_parts info_byte
  have HI := hide hi
  have HZ0 := hide hz0
  have HZ1 := hide hz1
  have HZ2 := hide hz2
  have HA := hide hA
  have HFN := hide (hF.trans hn)
  have hnn : n ≤ 49 := by rw [hn]; exact Nat.mul_le_mul hW.2 hH.2
  have HN := hide hn
  obtain ⟨w1, w7⟩ := hW
  obtain ⟨h1, h7⟩ := hH
  clear hi hz0 hz1 hz2 hA hF hn
  unfold gridV
  go_enter Tryd.func48, Tryd.ntmps48
  go_wp2
  go_loopw [4, 5] (fun xi _ wr => ∃ (x : Nat) (v : Value), x ≤ W ∧ xi = .int .i64 (x : Int) ∧ TurnBI w wr W H n g cap F v (tcells F W H x 0)) (fun xi _ _ => W - (intOf xi).toNat)
  case atStart =>
    refine ⟨0, .slice none 0 0, by omega, rfl, (IsG.new.alloc _).alloc _, ?_, ?_, World.ownsRow_nil _ _ _ _, by go_grown⟩
    · have := (IsG.new (w := w.alloc (.cells #[.int .i64 (W : Int), .int .i64 (H : Int), .slice (some ⟨g, 0, none⟩) n cap] 77)) (x := 0) (y := 0) (v := .slice none 0 0)).alloc (.cells #[.int .i64 (H : Int), .int .i64 (W : Int), .slice none 0 0] 77)
      simpa using this
    · have := IsG.new (w := (w.alloc (.cells #[.int .i64 (W : Int), .int .i64 (H : Int), .slice (some ⟨g, 0, none⟩) n cap] 77)).alloc (.cells #[.int .i64 0, .int .i64 0, .slice none 0 0] 77)) (x := (H : Int)) (y := (W : Int)) (v := .slice none 0 0)
      simpa using this
  case round =>
    obtain ⟨x, v, hx, rfl, G0, G1, G2, O, hb⟩ := hrel
    by_cases hlt : x < W
    · have hxi : (x : Int) < (W : Int) := by omega
      obtain ⟨l0, ⟨a0, a1, a2⟩, -⟩ := G0.all
      have HST := hide (show TurnBI w wr W H n g cap F v (tcells F W H x 0) from ⟨G0, G1, G2, O, hb⟩)
      clear G0 G1 G2 O hb
      go_upto_region 5 with (fail)
      clear a2
      go_wp2
      clear a0 a1 l0
      go_loopw [5] (fun yi wi => ∃ (i : Nat) (v : Value), i ≤ H ∧ yi = .int .i64 ((H : Int) - 1 - (i : Int)) ∧ TurnBI w wi W H n g cap F v (tcells F W H x i)) (fun yi _ => (intOf yi + 1).toNat)
      case atStart => exact ⟨0, v, by omega, by simp, HST.out⟩
      case round =>
        clear HST
        obtain ⟨i, v, hi, rfl, G0, G1, G2, O, hb⟩ := hrel
        by_cases hih : i < H
        · obtain ⟨y, hy⟩ : ∃ y : Nat, y = H - 1 - i := ⟨_, rfl⟩
          have hyi : ((H : Int) - 1 - (i : Int)) = (y : Int) := by omega
          have hy0 : (0 : Int) ≤ (y : Int) := by omega
          have hin : y * W + x < F.length := by
            rw [HFN.out]
            have h1 := Nat.mul_le_mul_right W (show y + 1 ≤ H by omega)
            rw [Nat.add_mul, Nat.mul_comm H W] at h1
            omega
          have hcell : F[y * W + x]? = some (F[y * W + x]'hin) := List.getElem?_eq_getElem hin
          generalize F[y * W + x]'hin = c at hcell
          have HS := hide (tcells_step (F := F) (W := W) (H := H) (x := x) (i := i) (c := c) (by rw [← hy]; exact hcell))
          have hle := hide (tcells_le F (x := x) (W := W) (H := H) (i := i) (by omega) h7 hi)
          have hFn : F.length = n := by rw [HFN.out, HN.out]
          have hpk : y * W ≤ 6 * 7 := Nat.mul_le_mul (by omega) w7
          generalize hp : y * W = p at hcell hpk hin
          generalize hq : p + x = q at hcell hin
          have hp2 : (y : Int) * (W : Int) = (p : Int) := by rw [← hp]; simp
          have hq2 : (p : Int) + (x : Int) = (q : Int) := by omega
          have hw1 : IntKind.i64.wrap (p : Int) = (p : Int) := IntWalk.i64_in _ (by omega)
          have hw2 : IntKind.i64.wrap ((p : Int) + (x : Int)) = (q : Int) := by rw [hq2]; exact IntWalk.i64_in _ (by omega)
          have hq0 : (0 : Int) ≤ (q : Int) := by omega
          have hql : (q : Int) < (n : Int) := by omega
          have hn42 : q ≤ 100 := by omega
          have cq := (atB_to hb HA.out rfl).2 q c hcell
          have HY := hide hyi
          rw [hyi]
          clear hp hq hin hcell hFn hyi hy hq2
          generalize tcells F W H x i = L at O HS hle
          have hLL := hle.out
          obtain ⟨l0, ⟨a0, a1, a2⟩, -⟩ := G0.all
          obtain ⟨l2, ⟨e0, e1, e2⟩, f0, f1, f2⟩ := G2.all
          have HCELL := hide (cell_one_newR wr (.int .u8 (c.toNat : Int)) 5)
          have H1C := hide (show ∀ u ∈ [Value.int .u8 (c.toNat : Int)], u.oneCell' = true from by
            intro u hu
            simp only [List.mem_singleton] at hu
            subst hu
            rfl)
          have hsz := hb.size
          have hgs := (atB_to hb HA.out rfl).1
          have HJ := hide (show ∀ (v' : Value) (w4 : World), w4.ownsRow (w.heap.size + 3) 5 1 v' (L.length + 1) (bytesV L ++ [.int .u8 (c.toNat : Int)]) → (wr.alloc (.cells #[.int .u8 (c.toNat : Int)] 5)).drew.grownBy w4 v.ownBlock →
              IsG w4 w.heap.size (W : Int) (H : Int) (.slice (some ⟨g, 0, none⟩) n cap) ∧ IsG w4 (w.heap.size + 1) 0 0 (.slice none 0 0) ∧ IsG w4 (w.heap.size + 2) (H : Int) (W : Int) v ∧ Below w.heap.size w w4 ∧ w.heap.size + 3 ≤ w4.heap.size from by
            intro v' w4 h1 h2
            have hne : ∀ j, j < w.heap.size + 3 → some j ≠ v.ownBlock := fun j hj e => by
              have := (O.lt j e.symm).1
              omega
            have hA : IsG (wr.alloc (.cells #[.int .u8 (c.toNat : Int)] 5)).drew w.heap.size (W : Int) (H : Int) (.slice (some ⟨g, 0, none⟩) n cap) := G0.alloc _
            have hB : IsG (wr.alloc (.cells #[.int .u8 (c.toNat : Int)] 5)).drew (w.heap.size + 1) 0 0 (.slice none 0 0) := G1.alloc _
            have hC : IsG (wr.alloc (.cells #[.int .u8 (c.toNat : Int)] 5)).drew (w.heap.size + 2) (H : Int) (W : Int) v := G2.alloc _
            refine ⟨hA.kept h2 (hne _ (by omega)), hB.kept h2 (hne _ (by omega)), hC.kept h2 (hne _ (by omega)), ?_, ?_⟩
            · refine (hb.alloc hsz _).drew.grown h2 (by show w.heap.size ≤ (World.alloc _ _).heap.size; simp; omega) (fun j hj => ?_)
              have := (O.lt j hj).1
              omega
            · have h5 := h2.size
              have h6 : (wr.alloc (.cells #[.int .u8 (c.toNat : Int)] 5)).drew.heap.size = wr.heap.size + 1 := by show (World.alloc _ _).heap.size = _; simp
              have := G2.lt
              omega)
          have HO := hide O
          clear O G0 G1 G2 hb hle
          go_upto_region 8 with (fail)
          go_region_law (refine step_append_ownR rfl (.tmp 25) (.tmp 36) 75 rfl (w.heap.size + 3) 5 i0 (.int .u8 0) 1 1 Tryd.underlying75 HI.out HZ0.out HZ1.out HZ2.out rfl (by decide) _ _ _ (by simp [Act.eval]) (own_drewR (HO.out.alloc _)) ⟨wr.heap.size, 0, none⟩ 1 1 [.int .u8 (c.toNat : Int)] (by simp [Act.eval]) rfl HCELL.out H1C.out (by unfold maxLen; omega) (by omega) (by show w.heap.size + 3 ≤ (World.alloc _ _).heap.size; simp; omega) ?_; intro v' w4 hown4 hg4; obtain ⟨G0, G1, G2, B4, Z4⟩ := HJ.out v' w4 hown4 hg4; obtain ⟨L2, ⟨E0, E1, E2⟩, F0, F1, F2⟩ := G2.all; clear hg4; obtain ⟨gq, cq2, rfl, hq1, hq2⟩ := own_form hown4 (by omega))
          all_goals
            have HO4 := hide hown4
            clear hown4
            go_wp2
            go_roundw
            case rel =>
              refine ⟨i + 1, _, by omega, ?_, G0.other (by simp <;> omega) _, G1.other (by simp <;> omega) _, G2.set2 _, ?_, ?_⟩
              · have := HY.out
                rw [show ((H : Int) - 1 - ((i + 1 : Nat) : Int)) = (y : Int) - 1 from by omega, IntWalk.wrap64_in ((y : Int) - 1) (by omega)]
              · have h9 := ownsRow_setCell_below HO4.out (a := ⟨w.heap.size + 2, 2, none⟩) (by simp) (.slice (some ⟨gq, 0, none⟩) (L.length + 1) cq2)
                rw [HS.out, bytesV_snoc, List.length_append]
                exact h9
              · exact B4.setCell (by simp <;> omega) _
            case measure =>
              have := HY.out
              have hw3 := IntWalk.wrap64_in ((y : Int) - 1) (by omega)
              simp [intOf, hw3]
              try omega
        · obtain rfl : i = H := by omega
          have hyi : ((i : Int) - 1 - (i : Int)) = -1 := by omega
          rw [hyi]
          have HST := hide (show TurnBI w wr W i n g cap F v (tcells F W i (x + 1) 0) from by rw [tcells_end]; exact ⟨G0, G1, G2, O, hb⟩)
          clear G0 G1 G2 O hb
          go_wp2
          go_roundw
          case rel => exact ⟨x + 1, v, by omega, by go_num, HST.out⟩
          case measure => simp [intOf] <;> omega
    · obtain rfl : x = W := by omega
      have hpos : 0 < (tcells F x H x 0).length := by
        rw [tcells_len]
        have := Nat.mul_pos (show 0 < x by omega) (show 0 < H by omega)
        omega
      obtain ⟨gq, cq, rfl, hq1, hq2⟩ := own_form O hpos
      have HE := hide (show tcells F x H x 0 = turnT F x H x from by simp [tcells, colT])
      rw [HE.out] at G2 O
      have HO := hide O
      obtain ⟨l0, ⟨a0, a1, a2⟩, -⟩ := G0.all
      obtain ⟨l1, ⟨s3, s4, s5⟩, s0, s1, s2⟩ := G1.all
      obtain ⟨l2, ⟨e0, e1, e2⟩, -⟩ := G2.all
      clear O hpos
      go_wp2
      refine bodyPost_ret (ret_grid1 Tryd.results48 rfl (G1.set3 (H : Int) (x : Int) (.slice (some ⟨gq, 0, none⟩) (turnT F x H x).length cq))) rfl ⟨gq, cq, rfl, ?_, ?_⟩
      · exact ownsRow_setCell_below (ownsRow_setCell_below (ownsRow_setCell_below HO.out (by simp) _) (by simp) _) (by simp) _
      · exact below_set3 hb (by omega) _ _ _
theorem boTurn_any (F : List UInt8) (W H n : Nat) (hW : 1 ≤ W ∧ W ≤ 7) (hH : 1 ≤ H ∧ H ≤ 7) (hn : n = W * H) (hF : F.length = n) (g cap : Nat) (w : World) (hA : BytesAt w g F) : Calls Tryd.prog 48 #[gridV W H n g cap] w fun e w' => ∃ g' cap', e = .returned (gridV H W (turnT F W H W).length g' cap') ∧ w'.ownsRow (w.heap.size + 3) 5 1 (.slice (some ⟨g', 0, none⟩) (turnT F W H W).length cap') (turnT F W H W).length (bytesV (turnT F W H W)) ∧ Below w.heap.size w w' :=
  boTurnA_any F W H n hW hH hn hF g cap w ⟨hA.lt, fun _ _ hc => hA.cell hc⟩
end Go.Proofs.YtgehcjmhgfhkdaaDoor
