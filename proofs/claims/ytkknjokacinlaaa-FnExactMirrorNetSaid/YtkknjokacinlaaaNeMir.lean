/- The model of nets: spec.neMirror, spec.neText. Condition: a grid of at most 6 rows of at most 6 cells. -/
import Derived.Test.YtkknjokacinlaaaBoTxt
import Derived.Test.YtkknjokacinlaaaNeB
import Derived.Deep.RegionLaw
import Derived.Deep.DrawnRows
namespace Go.Proofs.Ytkknjokacinlaaa
set_option maxRecDepth 100000
set_option linter.all false
open Go.RowKit
attribute [local go_sem ↓] Go.wp_at_zero Go.wp_at_succ

/-- The first signs of a mirrored row. -/
def rowM (F : List UInt8) (W y : Nat) : Nat → List UInt8
  | 0 => []
  | i + 1 => rowM F W y i ++ [F.getD (y * W + (W - 1 - i)) 0]
/-- The first mirrored rows. -/
def gridM (F : List UInt8) (W : Nat) : Nat → List UInt8
  | 0 => []
  | y + 1 => gridM F W y ++ rowM F W y W
def mcells (F : List UInt8) (W y i : Nat) : List UInt8 := gridM F W y ++ rowM F W y i
theorem rowM_len (F : List UInt8) (W y : Nat) : ∀ i, (rowM F W y i).length = i
  | 0 => rfl
  | i + 1 => by rw [rowM, List.length_append, rowM_len F W y i]; rfl
theorem gridM_len (F : List UInt8) (W : Nat) : ∀ y, (gridM F W y).length = y * W
  | 0 => by simp [gridM]
  | y + 1 => by rw [gridM, List.length_append, gridM_len F W y, rowM_len, Nat.add_mul]; omega
theorem mcells_len (F : List UInt8) (W y i : Nat) : (mcells F W y i).length = y * W + i := by
  rw [mcells, List.length_append, gridM_len, rowM_len]
theorem mcells_step {F : List UInt8} {W y i : Nat} {c : UInt8} (h : F[y * W + (W - 1 - i)]? = some c) : mcells F W y (i + 1) = mcells F W y i ++ [c] := by
  rw [mcells, mcells, rowM, ← List.append_assoc]
  congr 2
  rw [List.getD, h]
  rfl
theorem mcells_end (F : List UInt8) (W y : Nat) : mcells F W (y + 1) 0 = mcells F W y W := by
  simp [mcells, gridM, rowM]
theorem mcells_le {W y i : Nat} (F : List UInt8) (hy : y ≤ 6) (hw : W ≤ 6) (hi : i ≤ W) : (mcells F W y i).length ≤ 42 := by
  rw [mcells_len]
  have := Nat.mul_le_mul hy hw
  omega
theorem rowM_get (F : List UInt8) (W y : Nat) : ∀ i j, j < i → (rowM F W y i)[j]? = some (F.getD (y * W + (W - 1 - j)) 0)
  | i + 1, j, h => by
    rw [rowM]
    by_cases e : j < i
    · rw [List.getElem?_append_left (by rw [rowM_len]; exact e)]
      exact rowM_get F W y i j e
    · obtain rfl : j = i := by omega
      rw [List.getElem?_append_right (by rw [rowM_len]; omega), rowM_len, Nat.sub_self]
      rfl
theorem gridM_get (F : List UInt8) (W : Nat) : ∀ Y y j, y < Y → j < W → (gridM F W Y)[y * W + j]? = some (F.getD (y * W + (W - 1 - j)) 0)
  | Y + 1, y, j, h, hj => by
    rw [gridM]
    by_cases e : y < Y
    · have h1 : (y + 1) * W ≤ Y * W := Nat.mul_le_mul_right W (by omega)
      rw [Nat.succ_mul] at h1
      rw [List.getElem?_append_left (by rw [gridM_len]; omega)]
      exact gridM_get F W Y y j e hj
    · obtain rfl : y = Y := by omega
      rw [List.getElem?_append_right (by rw [gridM_len]; omega), gridM_len, show y * W + j - y * W = j from by omega]
      exact rowM_get F W y W j hj
theorem info_byteM : (Try.prog.info? 5).map (fun i => (i.zero, i.size, i.bytes)) = some (some (.int .u8 0), 1, 1) := by kernel_rfl
theorem ret_gridM {fn : Func} {p : Tmp} {tmps : Array Value} {w : World} {b : Nat} {x y : Int} {v : Value} (h : fn.results = #[.cell p 30]) (hp : tmps.getD p undef = .pointer (some ⟨b, 0, none⟩)) (hd : IsGN w b x y v) :
    (results fn tmps).run Try.prog w = .ok (.agg #[.int .i64 x, .int .i64 y, v]) w := by
  rw [results_cell h, hp]
  exact hd.load

/-- What holds at each head of the turning's loops. -/
def MirI (w wr : World) (W H n g cap : Nat) (F : List UInt8) (v : Value) (L : List UInt8) : Prop :=
  IsGN wr w.heap.size (W : Int) (H : Int) (.slice (some ⟨g, 0, none⟩) n cap) ∧ IsGN wr (w.heap.size + 1) 0 0 (.slice none 0 0) ∧ IsGN wr (w.heap.size + 2) (W : Int) (H : Int) v ∧ wr.ownsRow (w.heap.size + 3) 5 1 v L.length (bytesV L) ∧ Below w.heap.size w wr

set_option maxHeartbeats 4000000 in
theorem neMirror_any (F : List UInt8) (W H n : Nat) (hW : 1 ≤ W ∧ W ≤ 6) (hH : 1 ≤ H ∧ H ≤ 6) (hn : n = W * H) (hF : F.length = n) (g cap : Nat) (w : World) (hA : ByN w g F) : Calls Try.prog 11 #[gN W H n g cap] w fun e w' => ∃ g' cap', e = .returned (.agg #[.int .i64 (W : Int), .int .i64 (H : Int), .slice (some ⟨g', 0, none⟩) (mcells F W H 0).length cap']) ∧ w'.ownsRow (w.heap.size + 3) 5 1 (.slice (some ⟨g', 0, none⟩) (mcells F W H 0).length cap') (mcells F W H 0).length (bytesV (mcells F W H 0)) ∧ Below w.heap.size w w' := by
  obtain ⟨i0, hi, hz0, hz1, hz2⟩ := info_parts info_byteM
  have HI := hide hi
  have HZ0 := hide hz0
  have HZ1 := hide hz1
  have HZ2 := hide hz2
  have HA := hide hA
  have HFN := hide (hF.trans hn)
  have hnn : n ≤ 49 := by rw [hn]; exact Nat.le_trans (Nat.mul_le_mul hW.2 hH.2) (by decide)
  have HN := hide hn
  obtain ⟨w1, w7⟩ := hW
  obtain ⟨h1, h7⟩ := hH
  clear hi hz0 hz1 hz2 hA hF hn
  go_enter Try.func11, Try.ntmps11
  go_wp2
  go_loopw [4, 5] (fun yi _ wr => ∃ (y : Nat) (v : Value), y ≤ H ∧ yi = .int .i64 (y : Int) ∧ MirI w wr W H n g cap F v (mcells F W y 0)) (fun yi _ _ => H - (intOf yi).toNat)
  case atStart =>
    refine ⟨0, .slice none 0 0, by omega, rfl, (IsGN.new.alloc _).alloc _, ?_, ?_, World.ownsRow_nil _ _ _ _, by go_grown⟩
    · have := (IsGN.new (w := w.alloc (.cells #[.int .i64 (W : Int), .int .i64 (H : Int), .slice (some ⟨g, 0, none⟩) n cap] 30)) (x := 0) (y := 0) (v := .slice none 0 0)).alloc (.cells #[.int .i64 (W : Int), .int .i64 (H : Int), .slice none 0 0] 30)
      simpa using this
    · have := IsGN.new (w := (w.alloc (.cells #[.int .i64 (W : Int), .int .i64 (H : Int), .slice (some ⟨g, 0, none⟩) n cap] 30)).alloc (.cells #[.int .i64 0, .int .i64 0, .slice none 0 0] 30)) (x := (W : Int)) (y := (H : Int)) (v := .slice none 0 0)
      simpa using this
  case round =>
    obtain ⟨y, v, hx, rfl, G0, G1, G2, O, hb⟩ := hrel
    by_cases hlt : y < H
    · have hyi0 : (y : Int) < (H : Int) := by omega
      obtain ⟨l0, ⟨a0, a1, a2⟩, -⟩ := G0.all
      have HST := hide (show MirI w wr W H n g cap F v (mcells F W y 0) from ⟨G0, G1, G2, O, hb⟩)
      clear G0 G1 G2 O hb
      go_upto_region 5 with (fail)
      clear a2
      go_wp2
      clear a0 a1 l0
      go_loopw [5] (fun xi wi => ∃ (i : Nat) (v : Value), i ≤ W ∧ xi = .int .i64 ((W : Int) - 1 - (i : Int)) ∧ MirI w wi W H n g cap F v (mcells F W y i)) (fun xi _ => (intOf xi + 1).toNat)
      case atStart => exact ⟨0, v, by omega, by simp, HST.out⟩
      case round =>
        clear HST
        obtain ⟨i, v, hi, rfl, G0, G1, G2, O, hb⟩ := hrel
        by_cases hih : i < W
        · obtain ⟨x, hy⟩ : ∃ x : Nat, x = W - 1 - i := ⟨_, rfl⟩
          have hyi : ((W : Int) - 1 - (i : Int)) = (x : Int) := by omega
          have hy0 : (0 : Int) ≤ (x : Int) := by omega
          have hin : y * W + x < F.length := by
            rw [HFN.out]
            have h1 := Nat.mul_le_mul_right W (show y + 1 ≤ H by omega)
            rw [Nat.add_mul, Nat.mul_comm H W] at h1
            omega
          have hcell : F[y * W + x]? = some (F[y * W + x]'hin) := List.getElem?_eq_getElem hin
          generalize F[y * W + x]'hin = c at hcell
          have HS := hide (mcells_step (F := F) (W := W) (y := y) (i := i) (c := c) (by rw [← hy]; exact hcell))
          have hle := hide (mcells_le F (y := y) (W := W) (i := i) (by omega) w7 hi)
          have hFn : F.length = n := by rw [HFN.out, HN.out]
          have hpk : y * W ≤ 5 * 6 := Nat.mul_le_mul (by omega) w7
          generalize hp : y * W = p at hcell hpk hin
          generalize hq : p + x = q at hcell hin
          have hp2 : (y : Int) * (W : Int) = (p : Int) := by rw [← hp]; simp
          have hq2 : (p : Int) + (x : Int) = (q : Int) := by omega
          have hw1 : IntKind.i64.wrap (p : Int) = (p : Int) := IntWalk.i64_in _ (by omega)
          have hw2 : IntKind.i64.wrap ((p : Int) + (x : Int)) = (q : Int) := by rw [hq2]; exact IntWalk.i64_in _ (by omega)
          have hq0 : (0 : Int) ≤ (q : Int) := by omega
          have hql : (q : Int) < (n : Int) := by omega
          have hn42 : q ≤ 100 := by omega
          have cq := (byN_to hb HA.out rfl).2 q c hcell
          have HY := hide hyi
          rw [hyi]
          clear hp hq hin hcell hFn hyi hy hq2
          generalize mcells F W y i = L at O HS hle
          have hLL := hle.out
          obtain ⟨l0, ⟨a0, a1, a2⟩, -⟩ := G0.all
          obtain ⟨l2, ⟨e0, e1, e2⟩, f0, f1, f2⟩ := G2.all
          have HCELL := hide (cell_one_newR wr (.int .u8 (c.toNat : Int)) 5)
          have H1C := hide (show ∀ u ∈ [Value.int .u8 (c.toNat : Int)], u.oneCell' = true from by
            intro u hu
            simp only [List.mem_singleton] at hu
            subst hu
            rfl)
          have hsz := hb.size
          have hgs := (byN_to hb HA.out rfl).1
          have HJ := hide (show ∀ (v' : Value) (w4 : World), w4.ownsRow (w.heap.size + 3) 5 1 v' (L.length + 1) (bytesV L ++ [.int .u8 (c.toNat : Int)]) → (wr.alloc (.cells #[.int .u8 (c.toNat : Int)] 5)).drew.grownBy w4 v.ownBlock →
              IsGN w4 w.heap.size (W : Int) (H : Int) (.slice (some ⟨g, 0, none⟩) n cap) ∧ IsGN w4 (w.heap.size + 1) 0 0 (.slice none 0 0) ∧ IsGN w4 (w.heap.size + 2) (W : Int) (H : Int) v ∧ Below w.heap.size w w4 ∧ w.heap.size + 3 ≤ w4.heap.size from by
            intro v' w4 h1 h2
            have hne : ∀ j, j < w.heap.size + 3 → some j ≠ v.ownBlock := fun j hj e => by
              have := (O.lt j e.symm).1
              omega
            have hA : IsGN (wr.alloc (.cells #[.int .u8 (c.toNat : Int)] 5)).drew w.heap.size (W : Int) (H : Int) (.slice (some ⟨g, 0, none⟩) n cap) := G0.alloc _
            have hB : IsGN (wr.alloc (.cells #[.int .u8 (c.toNat : Int)] 5)).drew (w.heap.size + 1) 0 0 (.slice none 0 0) := G1.alloc _
            have hC : IsGN (wr.alloc (.cells #[.int .u8 (c.toNat : Int)] 5)).drew (w.heap.size + 2) (W : Int) (H : Int) v := G2.alloc _
            refine ⟨hA.kept h2 (hne _ (by omega)), hB.kept h2 (hne _ (by omega)), hC.kept h2 (hne _ (by omega)), ?_, ?_⟩
            · refine (hb.alloc hsz _).drew.grown h2 (by show w.heap.size ≤ (World.alloc _ _).heap.size; simp; omega) (fun j hj => ?_)
              have := (O.lt j hj).1
              omega
            · have h5 := h2.size
              have h6 : (wr.alloc (.cells #[.int .u8 (c.toNat : Int)] 5)).drew.heap.size = wr.heap.size + 1 := by show (World.alloc _ _).heap.size = _; simp
              have := G2.lt
              omega)
          have HO := hide O
          clear O G0 G1 G2 hb hle
          go_upto_region 8 with (fail)
          go_region_law (refine step_append_ownR rfl (.tmp 25) (.tmp 36) 28 rfl (w.heap.size + 3) 5 i0 (.int .u8 0) 1 1 Try.underlying28 HI.out HZ0.out HZ1.out HZ2.out rfl (by decide) _ _ _ (by simp [Act.eval]) (own_drewR (HO.out.alloc _)) ⟨wr.heap.size, 0, none⟩ 1 1 [.int .u8 (c.toNat : Int)] (by simp [Act.eval]) rfl HCELL.out H1C.out (by unfold maxLen; omega) (by omega) (by show w.heap.size + 3 ≤ (World.alloc _ _).heap.size; simp; omega) ?_; intro v' w4 hown4 hg4; obtain ⟨G0, G1, G2, B4, Z4⟩ := HJ.out v' w4 hown4 hg4; obtain ⟨L2, ⟨E0, E1, E2⟩, F0, F1, F2⟩ := G2.all; clear hg4; obtain ⟨gq, cq2, rfl, hq1, hq2⟩ := own_form hown4 (by omega))
          all_goals
            have HO4 := hide hown4
            clear hown4
            go_wp2
            go_roundw
            case rel =>
              refine ⟨i + 1, _, by omega, ?_, G0.other (by simp <;> omega) _, G1.other (by simp <;> omega) _, G2.set2 _, ?_, ?_⟩
              · have := HY.out
                rw [show ((W : Int) - 1 - ((i + 1 : Nat) : Int)) = (x : Int) - 1 from by omega, IntWalk.wrap64_in ((x : Int) - 1) (by omega)]
              · have h9 := ownsRow_setCell_below HO4.out (a := ⟨w.heap.size + 2, 2, none⟩) (by simp) (.slice (some ⟨gq, 0, none⟩) (L.length + 1) cq2)
                rw [HS.out, bytesV_snoc, List.length_append]
                exact h9
              · exact B4.setCell (by simp <;> omega) _
            case measure =>
              have := HY.out
              have hw3 := IntWalk.wrap64_in ((x : Int) - 1) (by omega)
              simp [intOf, hw3]
              try omega
        · obtain rfl : i = W := by omega
          have hyi : ((i : Int) - 1 - (i : Int)) = -1 := by omega
          rw [hyi]
          have HST := hide (show MirI w wr i H n g cap F v (mcells F i (y + 1) 0) from by rw [mcells_end]; exact ⟨G0, G1, G2, O, hb⟩)
          clear G0 G1 G2 O hb
          go_wp2
          go_roundw
          case rel => exact ⟨y + 1, v, by omega, by go_num, HST.out⟩
          case measure => simp [intOf] <;> omega
    · obtain rfl : y = H := by omega
      have hpos : 0 < (mcells F W y 0).length := by
        rw [mcells_len]
        have := Nat.mul_pos (show 0 < y by omega) (show 0 < W by omega)
        omega
      obtain ⟨gq, cq, rfl, hq1, hq2⟩ := own_form O hpos
      have HO := hide O
      obtain ⟨l0, ⟨a0, a1, a2⟩, -⟩ := G0.all
      obtain ⟨l1, ⟨s3, s4, s5⟩, s0, s1, s2⟩ := G1.all
      obtain ⟨l2, ⟨e0, e1, e2⟩, -⟩ := G2.all
      clear O hpos
      go_wp2
      refine bodyPost_ret (ret_gridM Try.results11 rfl (G1.set3 (W : Int) (y : Int) (.slice (some ⟨gq, 0, none⟩) (mcells F W y 0).length cq))) rfl ⟨gq, cq, rfl, ?_, ?_⟩
      · exact ownsRow_setCell_below (ownsRow_setCell_below (ownsRow_setCell_below HO.out (by simp) _) (by simp) _) (by simp) _
      · exact below_set3N hb (by omega) _ _ _
/-- spec.neText: as spec.boText. -/
theorem neText_any (R : Nat → List UInt8) (a b n g cap : Nat) (ha : 1 ≤ a ∧ a ≤ 7) (hb : 1 ≤ b ∧ b ≤ 7) (hn : n = b * a) (hcap : n ≤ cap) (hR : ∀ k, k < b → (R k).length = a) (w : World) (hg : g < w.heap.size) (hc : ∀ k, k < b → ∀ j c, (R k)[j]? = some c → w.cell? ⟨g, k * a + j, none⟩ = some (.int .u8 (c.toNat : Int))) : Calls Try.prog 10 #[.agg #[.int .i64 (a : Int), .int .i64 (b : Int), .slice (some ⟨g, 0, none⟩) n cap]] w fun e w' => e = .returned (.string ⟨(textM R b).toArray⟩) ∧ Below w.heap.size w w' := by
  have HC := hide hc
  have q0 : Below w.heap.size w (w.alloc (.cells #[.int .i64 (a : Int), .int .i64 (b : Int), .slice (some ⟨g, 0, none⟩) n cap] 30)) := by go_grown
  have HBT := hide (fun (wx : World) (hx : Below w.heap.size w wx) => boTextM_any R a b n g cap ha hb hn hcap hR wx (by have := hx.size; omega) (fun k hk j c h => (hx.cell (p := ⟨g, k * a + j, none⟩) hg).trans (HC.out k hk j c h)))
  clear hc hn hR
  go_enter Try.func10, Try.ntmps10
  go_wp2_with (go_at_call 21; (refine (HBT.out _ q0).mono ?_); rintro e w2 ⟨rfl, hb2⟩; have HB2 := hide (below_after q0 hb2 q0.size))
  go_returns
  exact ⟨rfl, HB2.out⟩
end Go.Proofs.Ytkknjokacinlaaa
