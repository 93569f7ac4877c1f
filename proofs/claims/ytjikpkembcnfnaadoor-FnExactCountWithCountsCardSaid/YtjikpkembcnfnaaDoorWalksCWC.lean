/- colorsWanted of the program, and CountWithCounts over it. CountWithCounts of both sides, and the walk of its law. CountWithCounts of the model, and the walk of its law. -/
import Derived.Test.YtjikpkembcnfnaaDoorCWI
import Derived.Test.YtjikpkembcnfnaaDoorWalksCN
namespace Go.Proofs.YtjikpkembcnfnaaDoor
set_option maxRecDepth 100000
set_option linter.all false
open Go.RowKit

theorem ret_num2 {fn : Func} {p u : Tmp} {tmps : Array Value} {w : World} {b : Nat} {M : List Int} {x : Bool} (h : fn.results = #[.cell p 80, .tmp u]) (hM : M.length = 10) (hp : tmps.getD p undef = .pointer (some ⟨b, 0, none⟩)) (hu : tmps.getD u undef = .bool x) (hA : IsA w b M 80) : (results fn tmps).run Tryd.prog w = .ok (.tuple #[.agg (ints M).toArray, .bool x]) w := by
  rw [results_cell_tmp h, hp, hu]
  show ((loadVar 80 ⟨b, 0, none⟩).run Tryd.prog w).andThen _ = _
  rw [run_loadVar_row w b _ _ _ (0, 0) _ hA und_num rfl (by rw [ints_size, hM]; exact size_num)]
  rfl
theorem zlen10 : (List.replicate 10 (0 : Int)).length = 10 := rfl
theorem zeros_any (w : World) : ∃ W, w.alloc (.cells #[.int .i64 0, .int .i64 0, .int .i64 0, .int .i64 0, .int .i64 0, .int .i64 0, .int .i64 0, .int .i64 0, .int .i64 0, .int .i64 0] 80) = W ∧ IsA W w.heap.size (List.replicate 10 0) 80 ∧ Below w.heap.size w W := ⟨_, rfl, IsA.new (M := List.replicate 10 0), (Below.refl _ _).alloc (Nat.le_refl _) _⟩
set_option maxHeartbeats 1600000 in
theorem colorsWanted_long (p : Option Addr) (n cap : Nat) (w : World) (hn : 9 < n) (hm : n ≤ maxLen) : Calls Tryd.prog 56 #[.slice p n cap] w fun e w' => e = .returned (.tuple #[.agg (ints (List.replicate 10 0)).toArray, .bool false]) ∧ Below w.heap.size w w' := by
  obtain ⟨W0, hW, A0, q0⟩ := zeros_any w
  have HW := hide hW
  have HA := hide A0
  have hni : (9 : Int) < (n : Int) := by omega
  unfold maxLen at hm
  clear hW A0 hn
  go_enter Tryd.func56, Tryd.ntmps56
  go_upto_region 1 with (fail)
  rw [HW.out]
  go_wp2_with (refine wpList_store_row rfl 80 (.tmp 2) (.tmp 11) rfl w.heap.size (ints (List.replicate 10 0)).toArray rfl rfl _ _ HA.out (by rw [ints_size]; exact size_num) rfl (ints_one _) ?_)
  refine bodyPost_ret (ret_num2 Tryd.results56 zlen10 rfl rfl (HA.out.row (N := List.replicate 10 0))) rfl ⟨rfl, ?_⟩
  exact below_setRow q0 (Nat.le_refl _) _
/-- What colorsWanted hands back. -/
def CwPost (C : List Int) (w : World) (e : Ending) (w' : World) : Prop := ∃ M x, e = .returned (.tuple #[.agg (ints M).toArray, .bool x]) ∧ M.length = 10 ∧ x = (C.all in06 && decide (C.sum = 6)) ∧ (C.all in06 = true → M = C ++ List.replicate (10 - C.length) 0) ∧ Below w.heap.size w w'
theorem cwPost_bad {C : List Int} {w w' : World} {M : List Int} (hM : M.length = 10) (hF : C.all in06 = false) (hb : Below w.heap.size w w') : CwPost C w (.returned (.tuple #[.agg (ints M).toArray, .bool false])) w' :=
  ⟨M, false, rfl, hM, by rw [hF]; rfl, fun h => absurd h (by rw [hF]; decide), hb⟩
theorem cwPost_ok {C : List Int} {w w' : World} {M : List Int} {x : Bool} (hM : M.length = 10) (hT : C.all in06 = true) (hx : x = decide (C.sum = 6)) (hP : M = C ++ List.replicate (10 - C.length) 0) (hb : Below w.heap.size w w') : CwPost C w (.returned (.tuple #[.agg (ints M).toArray, .bool x])) w' :=
  ⟨M, x, rfl, hM, by rw [hT, hx]; rfl, fun _ => hP, hb⟩
set_option maxHeartbeats 3200000 in
theorem colorsWanted_any (g n cap : Nat) (C : List Int) (w : World) (hn : n = C.length) (h9 : n ≤ 9) (hI : IAt w g 0 C) : Calls Tryd.prog 56 #[.slice (some ⟨g, 0, none⟩) n cap] w (CwPost C w) := by
  obtain ⟨W0, hW, A0, q0⟩ := zeros_any w
  obtain ⟨W1, hW1, A1, q1⟩ := zeros_any W0
  have HW := hide hW
  have HW1 := hide hW1
  have HB0 := hide (IsA.to (w0 := W0) q1 A0 rfl)
  have hlt0 := A0.lt
  have HA0 := hide (show IsA W1 W0.heap.size (padU C 0) 80 from A1)
  have q2 := below_to q1 q0 q0.size rfl rfl rfl rfl
  have HI0 := hide (iAt_to (w0 := w) q2 hI rfl)
  have HN := hide hn
  have hni : (n : Int) ≤ 9 := by omega
  have hgw : g < w.heap.size := hI.1
  have hww : w.heap.size ≤ W0.heap.size := q0.size
  clear hW hW1 A0 A1 q0 q1 hI hn
  go_enter Tryd.func56, Tryd.ntmps56
  go_upto_region 1 with (fail)
  rw [HW.out]
  go_upto_region 4 with (fail)
  rw [HW1.out]
  obtain ⟨b4, hb4⟩ : ∃ b4, b4 = W0.heap.size := ⟨_, rfl⟩
  rw [← hb4] at hlt0 HA0 hww ⊢
  clear hb4
  go_wp2
  go_loopw [14, 5, 6, 7] (fun i s _ _ wr => ∃ j : Nat, j ≤ n ∧ i = .int .i64 (j : Int) ∧ s = .int .i64 (C.take j).sum ∧ (∀ x ∈ C.take j, in06 x = true) ∧ IsA wr b4 (padU C j) 80 ∧ IsA wr w.heap.size (List.replicate 10 0) 80 ∧ IAt wr g 0 C ∧ Below w.heap.size w wr) (fun i _ _ _ _ => n - (intOf i).toNat)
  case atStart => exact ⟨0, Nat.zero_le _, rfl, rfl, by simp, HA0.out, HB0.out, HI0.out, q2⟩
  case round =>
    obtain ⟨j, hj, rfl, rfl, hall, A, B, I, q⟩ := hrel
    clear HA0 HB0 HI0 q2
    by_cases hlt : j < n
    · have hji : (j : Int) < (n : Int) := by omega
      have hx : C[j]? = some (C[j]'(by have := HN.out; omega)) := List.getElem?_eq_getElem (by have := HN.out; omega)
      generalize C[j]'(by have := HN.out; omega) = x at hx
      have cx := I.2 j x hx
      simp only [Nat.zero_add] at cx
      have hsb := sum_bd (C.take j) hall
      have hl : ((C.take j).length : Int) ≤ 9 := by rw [List.length_take]; omega
      have hsn := sum_snoc hx
      have HX := hide hx
      have HAL := hide hall
      have HA := hide A
      have HB := hide B
      have HI := hide I
      clear hx hall A B I
      by_cases h0 : x < 0
      · have HF := hide (show C.all in06 = false from by
          rw [List.all_eq_false]
          exact ⟨x, List.mem_of_getElem? HX.out, by simp [in06]; omega⟩)
        clear hsn hsb hl
        go_wp2_with (refine wpList_store_row rfl 80 (.tmp 2) (.tmp 25) rfl w.heap.size (ints (List.replicate 10 0)).toArray rfl rfl _ _ HB.out (by rw [ints_size]; exact size_num) rfl (ints_one _) ?_)
        refine bodyPost_ret (ret_num2 Tryd.results56 zlen10 rfl rfl (HB.out.row (N := List.replicate 10 0))) rfl (cwPost_bad zlen10 HF.out ?_)
        exact below_setRow q (Nat.le_refl _) _
      · have h0' : 0 ≤ x := by omega
        by_cases h6 : 6 < x
        · have HF := hide (show C.all in06 = false from by
            rw [List.all_eq_false]
            exact ⟨x, List.mem_of_getElem? HX.out, by simp [in06]; omega⟩)
          clear hsn hsb hl
          go_wp2_with (refine wpList_store_row rfl 80 (.tmp 2) (.tmp 25) rfl w.heap.size (ints (List.replicate 10 0)).toArray rfl rfl _ _ HB.out (by rw [ints_size]; exact size_num) rfl (ints_one _) ?_)
          refine bodyPost_ret (ret_num2 Tryd.results56 zlen10 rfl rfl (HB.out.row (N := List.replicate 10 0))) rfl (cwPost_bad zlen10 HF.out ?_)
          exact below_setRow q (Nat.le_refl _) _
        · have h6' : x ≤ 6 := by omega
          have hj10 : (j : Int) < 10 := by omega
          obtain ⟨ca, fa⟩ := HA.out.cell (padU_get (C := C) (j := j) (by have := HN.out; omega) (by have := HN.out; omega))
          have HA3 := hide (HA.out.set j (by rw [padU_len (by have := HN.out; omega) (by have := HN.out; omega)]; omega) x)
          rw [padU_set HX.out (by have := HN.out; omega)] at HA3
          have HB3 := hide (HB.out.other (p := ⟨b4, j, none⟩) (by simp; omega) (.int .i64 x))
          have HI3 := hide (show IAt (wr.setCell ⟨b4, j, none⟩ (.int .i64 x)) g 0 C from ⟨by have := HI.out.1; simpa [World.setCell] using this, fun i z hi => by rw [World.cell?_of_block (Below.heap_setCell wr ⟨b4, j, none⟩ _ g (by simp; omega))]; exact HI.out.2 i z hi⟩)
          have HQ3 := hide (q.setCell (p := ⟨b4, j, none⟩) hww (.int .i64 x))
          have HAL3 := hide (show ∀ y ∈ C.take (j + 1), in06 y = true from fun y hy => by
            rw [List.take_add_one, HX.out] at hy
            rcases List.mem_append.1 hy with h | h
            · exact HAL.out y h
            · have : y = x := by simpa using h
              rw [this]
              exact decide_eq_true ⟨h0', h6'⟩)
          generalize (C.take j).sum = s at hsb hsn ⊢
          have HSN := hide hsn
          clear hsn HA HB HI HAL
          go_wp2
          go_roundw
          case rel => exact ⟨j + 1, by omega, by go_num, by rw [HSN.out], HAL3.out, HA3.out, HB3.out, HI3.out, HQ3.out⟩
          case measure => simp [intOf] <;> omega
    · obtain rfl : j = n := by omega
      have hT : C.take j = C := List.take_of_length_le (by have := HN.out; omega)
      rw [hT] at hall ⊢
      have HAL := hide (show C.all in06 = true from List.all_eq_true.2 hall)
      have hsb := sum_bd C hall
      have hl : (C.length : Int) ≤ 9 := by have := HN.out; omega
      have HML := hide (padU_len (C := C) (j := j) (by have := HN.out; omega) (by have := HN.out; omega))
      have HPD := hide (show padU C j = C ++ List.replicate (10 - C.length) 0 from by rw [HN.out]; exact padU_done C)
      obtain ⟨S, hS⟩ : ∃ S, S = C.sum := ⟨_, rfl⟩
      rw [← hS] at hsb ⊢
      have HS := hide hS
      have HA := hide A
      have HB := hide B
      generalize padU C j = M at HML HPD HA
      clear hT hall hS A B I hl
      have hsd : (S == 6) = decide (S = 6) := by
        by_cases h : S = 6 <;> simp [h]
      have HSD := hide hsd
      clear hsd
      go_wp2_with (first
        | (refine wpList_load_row rfl 80 (.tmp 4) rfl b4 rfl _ _ _ _ HA.out und_num rfl (by rw [ints_size, HML.out]; exact size_num) ?_)
        | (refine wpList_store_row rfl 80 (.tmp 2) (.tmp 33) rfl w.heap.size (ints M).toArray rfl rfl _ _ HB.out (by rw [ints_size, HML.out]; exact size_num) (by rw [ints_size, ints_size, HML.out]; rfl) (ints_one M) ?_))
      refine bodyPost_ret (ret_num2 Tryd.results56 HML.out rfl rfl (HB.out.row (N := M))) rfl (cwPost_ok HML.out HAL.out (by rw [← HS.out]; exact HSD.out) HPD.out ?_)
      exact below_setRow q (Nat.le_refl _) _
set_option maxHeartbeats 800000 in
theorem cwClos_any (L : List Int) (hL : ∀ x ∈ L, 1 ≤ x ∧ x ≤ 6) (h6 : L.length ≤ 6) (M : List Int) (hM : M.length = 10) (hMb : ∀ x ∈ M, 0 ≤ x ∧ x ≤ 6) (g n cap b : Nat) (w : World) (hn : n = L.length) (hc : n ≤ cap) (hcm : cap ≤ maxLen) (hI : IAt w g 0 L) (hB : IsA w b M 80) :
    Calls Tryd.prog 57 #[.slice (some ⟨g, 0, none⟩) n cap, .pointer (some ⟨b, 0, none⟩)] w fun e w' => e = .returned (.int .i64 (cf L M)) ∧ Below w.heap.size w w' := by
  have HC := hide (countFillings_any L hL h6 M hM hMb g 0 n cap w hn hc hcm hI)
  have HML := hide hM
  have HB := hide hB
  clear hL h6 hMb hn hc hcm hI hB hM
  generalize cf L M = r at HC ⊢
  go_enter Tryd.func57, Tryd.ntmps57
  go_wp2_with (refine wpList_load_row rfl 80 (.tmp 1) rfl b rfl _ _ _ _ HB.out und_num rfl (by rw [ints_size, HML.out]; exact size_num) ?_)
  refine HC.out.mono ?_
  rintro e w1 ⟨rfl, q1⟩
  go_wp2
  go_returns
  exact ⟨rfl, q1⟩
/-- In how many ways some turns leave colours as wanted, together. -/
def sumC (M : List Int) (P : List D) : Int := (P.map fun p => cf (cycL p) M).sum
theorem sumC_snoc {M : List Int} {j : Nat} {P : List D} {p : D} (h : P[j]? = some p) : sumC M (P.take (j + 1)) = sumC M (P.take j) + cf (cycL p) M := by
  rw [List.take_add_one, h]
  unfold sumC
  rw [List.map_append, List.sum_append]
  simp
theorem sumC_bd {M : List Int} (hM : M.length ≤ 10) : ∀ (P : List D), (∀ p ∈ P, p ∈ wayz) → 0 ≤ sumC M P ∧ sumC M P ≤ 1000000 * (P.length : Int)
  | [], _ => ⟨Int.le_refl _, Int.le_refl _⟩
  | p :: P, h => by
    have ih := sumC_bd hM P (fun q hq => h q (List.mem_cons_of_mem _ hq))
    have hb := cf_bd6 (L := cycL p) hM (cyc6 (h p List.mem_cons_self))
    have e : sumC M (p :: P) = cf (cycL p) M + sumC M P := by simp [sumC]
    rw [e, List.length_cons]
    omega
theorem sumC_pad {C : List Int} (P : List D) (hP : ∀ p ∈ P, p ∈ wayz) (m : Nat) : sumC (C ++ List.replicate m 0) P = sumC C P := by
  have h : ∀ p ∈ P, cf (cycL p) (C ++ List.replicate m 0) = cf (cycL p) C := fun p hp => cf_pad (cycL p) m C (fun x hx => ((cyc_pos p (hP p hp)).1 x hx).1)
  unfold sumC
  rw [List.map_congr_left h]
set_option maxHeartbeats 1600000 in
theorem countUpToW_any (M : List Int) (hM : M.length = 10) (hMb : ∀ x ∈ M, 0 ≤ x ∧ x ≤ 6) (P : List D) (hP : ∀ p ∈ P, p ∈ wayz) (g cap n b : Nat) (hn : n = P.length) (h0 : 0 < n) (h48 : n ≤ 48) (w : World) (hD : DAt w g 0 (P.map (mapD up))) (hb : IsA w b M 80) :
    Calls Tryd.prog 42 #[.slice (some ⟨g, 0, none⟩) n cap, .func (.func 57) #[] #[.pointer (some ⟨b, 0, none⟩)]] w fun e w' => e = .returned (.int .i64 (sumC M P / (n : Int))) ∧ Below w.heap.size w w' := by
  have HD := hide hD
  have HB := hide hb
  have HN := hide hn
  have HP := hide hP
  have hbd := sumC_bd (M := M) (by rw [hM]; exact Nat.le_refl _) P hP
  have hbd2 : 0 ≤ sumC M P ∧ sumC M P ≤ 1000000 * 48 := by rw [← hn] at hbd; omega
  have hn0 : (0 : Int) < (n : Int) := by omega
  have HM := hide hM
  have HMB := hide hMb
  clear hD hb hn hP hbd hM hMb
  obtain ⟨S, hS⟩ : ∃ S, S = sumC M P := ⟨_, rfl⟩
  rw [← hS] at hbd2 ⊢
  have HSS := hide hS
  clear hS
  go_enter Tryd.func42, Tryd.ntmps42
  go_wp2
  go_loopw [10, 5] (fun i s wr => ∃ j : Nat, j ≤ n ∧ i = .int .i64 (j : Int) ∧ s = .int .i64 (sumC M (P.take j)) ∧ Below w.heap.size w wr) (fun i _ _ => n - (intOf i).toNat)
  case atStart => exact ⟨0, Nat.zero_le _, rfl, rfl, Below.refl _ _⟩
  case round =>
    obtain ⟨j, hj, rfl, rfl, q⟩ := hrel
    by_cases hlt : j < n
    · have hji : (j : Int) < (n : Int) := by omega
      have hx : P[j]? = some (P[j]'(by have := HN.out; omega)) := List.getElem?_eq_getElem (by have := HN.out; omega)
      generalize P[j]'(by have := HN.out; omega) = p at hx
      have hp := HP.out p (List.mem_of_getElem? hx)
      have HC := hide (cyclesOf_any p hp)
      have h6 := cyc6 hp
      have hpb := cf_bd6 (L := cycL p) (C := M) (by rw [HM.out]; exact Nat.le_refl _) h6
      have hcp := cyc_pos p hp
      have hs := sumC_snoc (M := M) hx
      have hs1 := sumC_bd (M := M) (by rw [HM.out]; exact Nat.le_refl _) (P.take j) (fun q hq => HP.out q (List.mem_of_mem_take hq))
      have hl : ((P.take j).length : Int) ≤ 48 := by rw [List.length_take]; omega
      have hDx := (dAt_to q HD.out rfl).cells0 (up_get hx)
      have HK := hide (fun (g c ln : Nat) (wx : World) (h1 : ln = (cycL p).length) (h2 : ln ≤ c) (h3 : c ≤ maxLen) (h4 : IAt wx g 0 (cycL p)) (h5 : IsA wx b M 80) => cwClos_any (cycL p) hcp.1 h6 M HM.out HMB.out g ln c b wx h1 h2 h3 h4 h5)
      generalize hu : mapD up p = u at hDx HC
      have HU := hide hu
      have hlp := hcp.2
      clear hcp
      generalize hpw : cf (cycL p) M = pv at hs hpb HK
      generalize cycL p = L at HC HK h6 hlp
      obtain ⟨ln, hln⟩ : ∃ ln, ln = L.length := ⟨_, rfl⟩
      rw [← hln] at HC hlp
      have HLN := hide hln
      generalize hsj : sumC M (P.take j) = sj at hs hs1 ⊢
      have hsb : 0 ≤ sj ∧ sj ≤ 1000000 * 48 := by omega
      have HS := hide hs
      clear hx hp hu hln hpw hsj hs hs1 hl
      obtain ⟨c0, c1, c2, c3, c4, c5⟩ := hDx
      go_wp2_with fail
      refine (HC.out _).mono ?_
      rintro e w1 ⟨v, rfl, O1, hb1⟩
      have q1 := below_to hb1 (q.alloc q.size (.cells #[.int .i64 u.t, .int .i64 u.n, .int .i64 u.e, .int .i64 u.s, .int .i64 u.w, .int .i64 u.b] 30)) (by have := q.size; simp; omega) rfl rfl rfl rfl
      have K1 := hide (IsA.to (w0 := wr) (by exact Below.trans ((Below.refl _ _).alloc (Nat.le_refl _) _) (hb1.mono (by simp))) (IsA.to q HB.out rfl) rfl)
      obtain ⟨pa, pc, rfl, -, -, hc1, hc2⟩ := own_formN O1 hlp
      have HI1 := hide (iAt_own O1)
      clear hb1 O1 q c0 c1 c2 c3 c4 c5
      go_wp2_with fail
      refine (HK.out pa pc ln _ HLN.out hc1 hc2 HI1.out K1.out).mono ?_
      rintro e w2 ⟨rfl, hb2⟩
      have q2 := below_to hb2 q1 q1.size rfl rfl rfl rfl
      clear hb2 q1
      go_wp2
      go_roundw
      case rel => exact ⟨j + 1, by omega, by go_num, by rw [HS.out], q2⟩
      case measure => simp [intOf] <;> omega
    · obtain rfl : j = n := by omega
      have he : sumC M (P.take j) = S := by rw [HSS.out, List.take_of_length_le (by have := HN.out; omega)]
      rw [he]
      clear he
      go_wp2
      go_returns
      exact ⟨rfl, q⟩
/-- Are colours wanted? -/
def cwB (C : List Int) : Bool := decide (C.length ≤ 9) && (C.all in06 && decide (C.sum = 6))
/-- What CountWithCounts answers. -/
def cwV (C : List Int) : Int := if cwB C = true then sumC C turnsL / 24 else 0
set_option maxHeartbeats 800000 in
theorem implCW_long (p : Option Addr) (n cap : Nat) (w : World) (hn : 9 < n) (hm : n ≤ maxLen) : Calls Tryd.prog 25 #[.slice p n cap] w fun e w' => e = .returned (.tuple #[.int .i64 0, .bool false]) ∧ Below w.heap.size w w' := by
  have HC := hide (colorsWanted_long p n cap w hn hm)
  have hz := zeros_num
  rw [hz] at HC
  clear hn hz
  go_enter Tryd.func25, Tryd.ntmps25
  go_wp2_with fail
  refine HC.out.mono ?_
  rintro e w1 ⟨rfl, q1⟩
  clear HC
  have q2 := q1.alloc q1.size (.cells #[.int .i64 0, .int .i64 0, .int .i64 0, .int .i64 0, .int .i64 0, .int .i64 0, .int .i64 0, .int .i64 0, .int .i64 0, .int .i64 0] 80)
  go_wp2
  go_returns
  exact ⟨rfl, q2⟩
end Go.Proofs.YtjikpkembcnfnaaDoor
namespace Go.Proofs.YtjikpkembcnfnaaDoor
set_option maxRecDepth 100000
set_option linter.all false
open Go.RowKit

theorem in06_mem {C : List Int} (h : C.all in06 = true) : ∀ x ∈ C, 0 ≤ x ∧ x ≤ 6 := fun x hx => of_decide_eq_true (List.all_eq_true.1 h x hx)
theorem pad_mem {C : List Int} (h : C.all in06 = true) (m : Nat) : ∀ x ∈ C ++ List.replicate m 0, 0 ≤ x ∧ x ≤ 6 := fun x hx => by
  rcases List.mem_append.1 hx with h1 | h1
  · exact in06_mem h x h1
  · have := List.eq_of_mem_replicate h1
    omega
set_option maxHeartbeats 3200000 in
theorem implCW_any (g n cap : Nat) (C : List Int) (w : World) (hn : n = C.length) (h9 : n ≤ 9) (hI : IAt w g 0 C) : Calls Tryd.prog 25 #[.slice (some ⟨g, 0, none⟩) n cap] w fun e w' => e = .returned (.tuple #[.int .i64 (cwV C), .bool (cwB C)]) ∧ Below w.heap.size w w' := by
  have HC := hide (colorsWanted_any g n cap C w hn h9 hI)
  have h9b : decide (C.length ≤ 9) = true := decide_eq_true (by omega)
  obtain ⟨y, hy⟩ : ∃ y, y = (C.all in06 && decide (C.sum = 6)) := ⟨_, rfl⟩
  have hB : cwB C = y := by unfold cwB; rw [h9b, Bool.true_and, hy]
  rw [hB]
  have HYY := hide hy
  cases y with
  | false =>
    have HV := hide (show cwV C = 0 from by unfold cwV; rw [hB]; rfl)
    rw [HV.out]
    clear hB hy h9b hn hI
    go_enter Tryd.func25, Tryd.ntmps25
    go_wp2_with fail
    refine HC.out.mono ?_
    rintro e w1 ⟨M, x, rfl, hM, hx, -, q1⟩
    rw [← HYY.out] at hx
    subst hx
    have HML := hide hM
    have A2 : IsA (w1.alloc (.cells #[.int .i64 0, .int .i64 0, .int .i64 0, .int .i64 0, .int .i64 0, .int .i64 0, .int .i64 0, .int .i64 0, .int .i64 0, .int .i64 0] 80)) w1.heap.size (List.replicate 10 0) 80 := IsA.new (M := List.replicate 10 0)
    have r2 : Below w1.heap.size w1 (w1.alloc (.cells #[.int .i64 0, .int .i64 0, .int .i64 0, .int .i64 0, .int .i64 0, .int .i64 0, .int .i64 0, .int .i64 0, .int .i64 0, .int .i64 0] 80)) := (Below.refl _ _).alloc (Nat.le_refl _) _
    have HA2 := hide A2
    have q2 := below_to r2 q1 q1.size rfl rfl rfl rfl
    have hle : w.heap.size ≤ w1.heap.size := q1.size
    have q3 := below_setRow q2 hle (ints M).toArray
    clear HC q1 hM A2 r2 q2
    go_wp2_with (refine wpList_store_row rfl 80 (.tmp 4) (.tmp 9) rfl w1.heap.size (ints M).toArray rfl rfl _ _ HA2.out (by rw [ints_size, HML.out]; exact size_num) (by rw [ints_size, ints_size, HML.out]; rfl) (ints_one M) ?_)
    go_returns
    exact ⟨rfl, q3⟩
  | true =>
    have hal : C.all in06 = true := (Bool.and_eq_true_iff.1 hy.symm).1
    have HAL := hide hal
    have HV := hide (show cwV C = sumC C turnsL / 24 from by unfold cwV; rw [hB]; rfl)
    have HP := hide (sumC_pad (C := C) turnsL turns_facts.2.2.1 (10 - C.length))
    have HU := hide (fun (M : List Int) (hM : M.length = 10) (hMb : ∀ x ∈ M, 0 ≤ x ∧ x ≤ 6) (g cap b : Nat) (wx : World) (h1 : DAt wx g 0 (turnsL.map (mapD up))) (h2 : IsA wx b M 80) => countUpToW_any M hM hMb turnsL turns_facts.2.2.1 g cap 24 b turns_facts.2.1.symm (by omega) (by omega) wx h1 h2)
    have HLN := hide (show (turnsL.map (mapD up)).length = 24 from by rw [List.length_map, turns_facts.2.1])
    have HT := hide (fun wx => allTurns_any wx)
    have HS24 := hide (show ∀ s : Int, s / ((24 : Nat) : Int) = s / 24 from fun _ => rfl)
    have hmf : ∀ (fn : Fn) (first cap : Array Value) (w : World), (Instr.makeFunc fn first cap).run Tryd.prog w = .ok (.func fn first cap) w := fun _ _ _ _ => rfl
    generalize turnsL.map (mapD up) = T at HU HT HLN
    rw [HV.out]
    have HYB := hide hB
    clear hB hy h9b hn hI hal
    go_enter Tryd.func25, Tryd.ntmps25
    go_wp2_with fail
    refine HC.out.mono ?_
    rintro e w1 ⟨M, x, rfl, hM, hx, hMM, q1⟩
    rw [← HYY.out] at hx
    subst hx
    have hMe := hMM HAL.out
    have HML := hide hM
    have HMM := hide hMe
    have HMB := hide (show ∀ x ∈ M, 0 ≤ x ∧ x ≤ 6 from by rw [hMe]; exact pad_mem HAL.out _)
    have A2 : IsA (w1.alloc (.cells #[.int .i64 0, .int .i64 0, .int .i64 0, .int .i64 0, .int .i64 0, .int .i64 0, .int .i64 0, .int .i64 0, .int .i64 0, .int .i64 0] 80)) w1.heap.size (List.replicate 10 0) 80 := IsA.new (M := List.replicate 10 0)
    have r2 : Below w1.heap.size w1 (w1.alloc (.cells #[.int .i64 0, .int .i64 0, .int .i64 0, .int .i64 0, .int .i64 0, .int .i64 0, .int .i64 0, .int .i64 0, .int .i64 0, .int .i64 0] 80)) := (Below.refl _ _).alloc (Nat.le_refl _) _
    have HA2 := hide A2
    have q2 := below_to r2 q1 q1.size rfl rfl rfl rfl
    have hle : w.heap.size ≤ w1.heap.size := q1.size
    have q3 := below_setRow q2 hle (ints M).toArray
    have HA3 := hide (A2.row (N := M))
    clear HC q1 hM A2 r2 q2 hMM hMe
    go_wp2_with (refine wpList_store_row rfl 80 (.tmp 4) (.tmp 9) rfl w1.heap.size (ints M).toArray rfl rfl _ _ HA2.out (by rw [ints_size, HML.out]; exact size_num) (by rw [ints_size, ints_size, HML.out]; rfl) (ints_one M) ?_)
    generalize (w1.alloc (.cells #[.int .i64 0, .int .i64 0, .int .i64 0, .int .i64 0, .int .i64 0, .int .i64 0, .int .i64 0, .int .i64 0, .int .i64 0, .int .i64 0] 80)).setRow w1.heap.size (ints M).toArray = w3 at HA3 q3 ⊢
    generalize w1.heap.size = b4 at HA3 hle ⊢
    refine (HT.out _).mono ?_
    rintro e w4 ⟨g4, cap4, rfl, O4, hb4⟩
    have q4 := below_to hb4 q3 q3.size rfl rfl rfl rfl
    have HA4 := hide (IsA.to hb4 HA3.out rfl)
    have HD4 := hide (dAt_own O4 HLN.out.symm)
    clear hb4 q3 HA3 O4
    go_wp2_with fail
    refine (HU.out M HML.out HMB.out g4 cap4 b4 _ HD4.out HA4.out).mono ?_
    rintro e w5 ⟨rfl, hb5⟩
    have q5 := below_to hb5 q4 q4.size rfl rfl rfl rfl
    have HR := hide (show sumC M turnsL / ((24 : Nat) : Int) = sumC C turnsL / 24 from by rw [HS24.out, HMM.out, HP.out])
    rw [HR.out]
    clear hb5 q4
    go_wp2
    go_returns
    exact ⟨rfl, q5⟩
set_option maxHeartbeats 1600000 in
theorem l1All_any (g n cap : Nat) (C : List Int) (w : World) (hn : n = C.length) (h9 : n ≤ 1048576) (hI : IAt w g 0 C) : Calls Tryd.prog 54 #[.slice (some ⟨g, 0, none⟩) n cap, .int .i64 0, .int .i64 6] w fun e w' => e = .returned (.bool (C.all in06)) ∧ w = w' := by
  have HI := hide hI
  have HN := hide hn
  obtain ⟨z, hz⟩ : ∃ z, z = C.all in06 := ⟨_, rfl⟩
  have HZ := hide hz
  rw [← hz]
  clear hz hI hn
  go_enter Tryd.func54, Tryd.ntmps54
  go_wp2
  go_loop [11, 8] (fun i _ => ∃ j : Nat, j ≤ n ∧ i = .int .i64 (j : Int) ∧ (∀ x ∈ C.take j, in06 x = true)) (fun i _ => n - (intOf i).toNat)
  case atStart => exact ⟨0, Nat.zero_le _, rfl, by simp⟩
  case round =>
    obtain ⟨j, hj, rfl, hall⟩ := hrel
    by_cases hlt : j < n
    · have hji : (j : Int) < (n : Int) := by omega
      have hx : C[j]? = some (C[j]'(by have := HN.out; omega)) := List.getElem?_eq_getElem (by have := HN.out; omega)
      generalize C[j]'(by have := HN.out; omega) = x at hx
      have cx := HI.out.2 j x hx
      simp only [Nat.zero_add] at cx
      have HX := hide hx
      have HAL := hide hall
      obtain ⟨b, hb⟩ : ∃ b, b = decide (0 ≤ x ∧ x ≤ 6) := ⟨_, rfl⟩
      have HB := hide hb
      clear hx hall hb
      go_wp2_with fail
      refine (l1In_any _ _ _ _).mono ?_
      rintro e w1 ⟨rfl, rfl⟩
      rw [← HB.out]
      cases b with
      | false =>
        have HF := hide (show z = false from by
          rw [HZ.out, List.all_eq_false]
          exact ⟨x, List.mem_of_getElem? HX.out, by unfold in06; rw [← HB.out]; decide⟩)
        go_wp2
        go_returns
        exact ⟨by rw [HF.out]; rfl, rfl⟩
      | true =>
        have HAL3 := hide (show ∀ y ∈ C.take (j + 1), in06 y = true from fun y hy => by
          rw [List.take_add_one, HX.out] at hy
          rcases List.mem_append.1 hy with h | h
          · exact HAL.out y h
          · have : y = x := by simpa using h
            rw [this]
            unfold in06
            rw [← HB.out])
        go_wp2
        go_round
        case rel => exact ⟨j + 1, by omega, by go_num, HAL3.out⟩
        case measure => simp [intOf] <;> omega
    · obtain rfl : j = n := by omega
      have HT := hide (show z = true from by
        rw [HZ.out, List.all_eq_true]
        rw [List.take_of_length_le (by have := HN.out; omega)] at hall
        exact hall)
      clear hall
      go_wp2
      go_returns
      exact ⟨by rw [HT.out]; rfl, rfl⟩
theorem iAt_add {w : World} {g : Nat} {L : List Int} (h : IAt w g 0 L) : ∀ j u, (ints L)[j]? = some u → w.cell? ((⟨g, 0, none⟩ : Addr).add j) = some u := by
  intro j u hj
  unfold ints at hj
  rw [List.getElem?_map] at hj
  cases hx : L[j]? with
  | none => rw [hx] at hj; cases hj
  | some x =>
    rw [hx] at hj
    have hu : u = .int .i64 x := (Option.some.inj hj).symm
    rw [hu, Go.WideShapes.add_plain]
    exact h.2 j x hx
theorem clCounts_nil (C : List Int) (g o cap : Nat) (v : Value) (w : World) : Calls Tryd.prog 55 #[.slice (some ⟨g, o, none⟩) 0 cap, v] w fun e w' => e = .returned (.int .i64 1) ∧ Below w.heap.size w w' := by
  go_enter Tryd.func55, Tryd.ntmps55
  go_wp2
  go_returns
  exact ⟨rfl, Below.refl _ _⟩
set_option maxHeartbeats 6400000 in
theorem clCounts_any : ∀ (L : List Int), (∀ x ∈ L, 1 ≤ x ∧ x ≤ 6) → L.length ≤ 6 → ∀ (C : List Int) (m : Nat), m = C.length → 1 ≤ m → m ≤ 9 → (∀ x ∈ C, 0 ≤ x ∧ x ≤ 6) → ∀ (g o n cap g2 c2 : Nat) (w : World), n = L.length → n ≤ cap → cap ≤ maxLen → IAt w g o L → IAt w g2 0 C → Calls Tryd.prog 55 #[.slice (some ⟨g, o, none⟩) n cap, .slice (some ⟨g2, 0, none⟩) m c2] w fun e w' => e = .returned (.int .i64 (cf L C)) ∧ Below w.heap.size w w'
  | [], _, _, C, m, _, _, _, _, g, o, n, cap, g2, c2, w, hn, _, _, _, _ => by
    subst hn
    exact clCounts_nil C g o cap _ w
  | x :: L, hL, h6, C, m, hm, hm1, hm9, hCb, g, o, n, cap, g2, c2, w, hn, hc, hcm, hA, hC => by
    have HREC := hide (clCounts_any L (fun y hy => hL y (List.mem_cons_of_mem _ hy)) (by simp at h6; omega))
    have hx := hL x List.mem_cons_self
    have hL6 : L.length ≤ 5 := by simp at h6; omega
    have hn1 : 1 ≤ n := by rw [hn]; simp
    have hn1i : (1 : Int) ≤ (n : Int) := by omega
    have hn0i : (0 : Int) < (n : Int) := by omega
    have hn0 : 0 < n := by omega
    have hne0 : ((n : Int) == 0) = false := by simp; omega
    have hn7 : (n : Int) ≤ 6 := by rw [hn]; simp at h6 ⊢; omega
    have hmi9 : (m : Int) ≤ 9 := by omega
    have HCB := hide hCb
    have HML := hide hm
    have HI0 := hide hA
    have HC0 := hide hC
    have HTL := hide (fun (wx : World) (h : IAt wx g o (x :: L)) => iAt_tl (c := cap) (n := n) h hn hc)
    have hsl := run_tl g o n cap hn1 hc
    have hn2 : n - 1 = L.length := by rw [hn]; simp
    have hc2' : n - 1 ≤ cap - 1 := by omega
    have hcm2 : cap - 1 ≤ maxLen := by unfold maxLen at hcm ⊢; omega
    obtain ⟨S, hS⟩ : ∃ S, S = cf (x :: L) C := ⟨_, rfl⟩
    have HS := hide hS
    rw [← hS]
    obtain ⟨n1, hn1e⟩ : ∃ n1, n1 = n - 1 := ⟨_, rfl⟩
    obtain ⟨c1, hc1e⟩ : ∃ c1, c1 = cap - 1 := ⟨_, rfl⟩
    rw [← hn1e] at hsl hn2 hc2'
    rw [← hc1e] at hsl hc2' hcm2
    obtain ⟨o1, ho1⟩ : ∃ o1, o1 = (if cap = 1 then o else o + 1) := ⟨_, rfl⟩
    rw [← ho1] at hsl HTL
    have HN2 := hide hn2
    clear hL h6 hCb hm hA hC hn hS hn2 hn1e hc1e ho1
    go_enter Tryd.func55, Tryd.ntmps55
    go_wp2
    go_loopw [14, 5, 6, 7, 8] (fun i s _ _ _ wr => ∃ j : Nat, j ≤ m ∧ i = .int .i64 (j : Int) ∧ s = .int .i64 (cfp x L C j) ∧ IAt wr g o (x :: L) ∧ IAt wr g2 0 C ∧ Below w.heap.size w wr) (fun i _ _ _ _ _ => m - (intOf i).toNat)
    case atStart => exact ⟨0, Nat.zero_le _, rfl, rfl, HI0.out, HC0.out, Below.refl _ _⟩
    case round =>
      obtain ⟨j, hj, rfl, rfl, I, J, q⟩ := hrel
      clear HI0 HC0
      by_cases hlt : j < m
      · have hji : (j : Int) < (m : Int) := by omega
        have hCj : C[j]? = some (C.getD j 0) := by
          have : j < C.length := by have := HML.out; omega
          rw [List.getD_eq_getElem?_getD, List.getElem?_eq_getElem this]
          rfl
        have hyb := HCB.out _ (List.mem_of_getElem? hCj)
        have hsu := cfp_succ x L C j
        have hb1 := cfp_bd (x := x) (L := L) (C := C) (by have := HML.out; omega) (by omega) j (by omega)
        have hb2 := cf_bd6 (L := L) (C := C.set j (C.getD j 0 - x)) (by rw [List.length_set]; have := HML.out; omega) (by omega)
        have cm := J.2 j _ hCj
        have cx := I.2 0 x rfl
        simp only [Nat.add_zero] at cx
        simp only [Nat.zero_add] at cm
        have HR := hide (fun (hyx : x ≤ C.getD j 0) => HREC.out (C.set j (C.getD j 0 - x)) m (by rw [List.length_set]; exact HML.out) hm1 hm9 (fun z hz => by
          rcases List.mem_or_eq_of_mem_set hz with h | h
          · exact HCB.out z h
          · rw [h]; omega))
        generalize C.getD j 0 = y at hCj hyb hsu hb2 cm HR
        have HCJ := hide hCj
        generalize cfp x L C j = s at hsu hb1 ⊢
        obtain ⟨r, hr⟩ : ∃ r, r = cf L (C.set j (y - x)) := ⟨_, rfl⟩
        rw [← hr] at hsu hb2 HR
        have HII := hide I
        have HJJ := hide J
        have HOWN := hide (l1Own_any g2 m c2 C wr HML.out.symm (by omega) (iAt_add J))
        clear I J hCj hr
        by_cases hyx : x ≤ y
        · rw [if_pos hyx] at hsu
          have HSU := hide hsu
          have HRR := hide (HR.out hyx)
          clear hsu HR
          go_wp2_with fail
          refine HOWN.out.mono ?_
          rintro e w2 ⟨v, rfl, O2, hb2'⟩
          obtain ⟨gl, cl, rfl, hgl, -, -, hcl⟩ := own_formN O2 (by omega)
          have q2 := below_to hb2' q q.size rfl rfl rfl rfl
          have I2 := iAt_to hb2' HII.out rfl
          have J2 := iAt_to hb2' HJJ.out rfl
          have hbg : g < wr.heap.size := HII.out.1
          have hbg2 : g2 < wr.heap.size := HJJ.out.1
          have fl := own_free O2 j
          obtain ⟨vl, pl⟩ := own_has O2 j (by omega)
          have O3 := own_put O2 j (by omega) (.int .i64 (y - x))
          rw [ints_set] at O3
          have HI3 := hide (show IAt (w2.setCell ⟨gl, j, none⟩ (.int .i64 (y - x))) g o (x :: L) from ⟨by have := I2.1; simpa [World.setCell] using this, fun i z hi => by rw [World.cell?_of_block (Below.heap_setCell w2 ⟨gl, j, none⟩ _ g (by simp; omega))]; exact I2.2 i z hi⟩)
          have HJ3 := hide (show IAt (w2.setCell ⟨gl, j, none⟩ (.int .i64 (y - x))) g2 0 C from ⟨by have := J2.1; simpa [World.setCell] using this, fun i z hi => by rw [World.cell?_of_block (Below.heap_setCell w2 ⟨gl, j, none⟩ _ g2 (by simp; omega))]; exact J2.2 i z hi⟩)
          have HL3 := hide (iAt_own O3)
          have q3 := q2.setCell (p := ⟨gl, j, none⟩) (by have := q.size; simp; omega) (.int .i64 (y - x))
          have cx2 := I2.2 0 x rfl
          simp only [Nat.add_zero] at cx2
          clear cx cm O2 O3 I2 J2 hb2' q q2 HII HJJ HOWN
          go_wp2_with fail
          refine Calls.mono (HRR.out g o1 n1 c1 gl cl _ HN2.out hc2' hcm2 (HTL.out _ HI3.out) HL3.out) ?_
          rintro e w5 ⟨rfl, hb5⟩
          have I5 := hide (iAt_to hb5 HI3.out rfl)
          have J5 := hide (iAt_to hb5 HJ3.out rfl)
          have q5 := below_to hb5 q3 q3.size rfl rfl rfl rfl
          clear hb5 HI3 HJ3 HL3 q3 fl pl
          go_wp2
          go_roundw
          case rel => exact ⟨j + 1, by omega, by go_num, by rw [HSU.out], I5.out, J5.out, q5⟩
          case measure => simp [intOf] <;> omega
        · rw [if_neg hyx] at hsu
          have HSU := hide hsu
          clear hsu HR
          go_wp2
          go_roundw
          case rel => exact ⟨j + 1, by omega, by go_num, by rw [HSU.out, Int.add_zero], HII.out, HJJ.out, q⟩
          case measure => simp [intOf] <;> omega
      · obtain rfl : j = m := by omega
        have he : cfp x L C j = S := by rw [HS.out, ← cfp_done, HML.out]
        rw [he]
        clear he I J
        go_wp2
        go_returns
        exact ⟨rfl, q⟩
end Go.Proofs.YtjikpkembcnfnaaDoor
namespace Go.Proofs.YtjikpkembcnfnaaDoor
set_option maxRecDepth 100000
set_option linter.all false
open Go.RowKit

set_option maxHeartbeats 800000 in
theorem specCW_long (p : Option Addr) (n cap : Nat) (w : World) (hn : 9 < n) (hm : n ≤ maxLen) : Calls Tryd.prog 23 #[.slice p n cap] w fun e w' => e = .returned (.tuple #[.int .i64 0, .bool false]) ∧ Below w.heap.size w w' := by
  have hni : (9 : Int) < (n : Int) := by omega
  unfold maxLen at hm
  clear hn
  go_enter Tryd.func23, Tryd.ntmps23
  go_wp2
  go_returns
  exact ⟨rfl, Below.refl _ _⟩
set_option maxHeartbeats 800000 in
theorem specCW_nil (p : Option Addr) (cap : Nat) (w : World) : Calls Tryd.prog 23 #[.slice p 0 cap] w fun e w' => e = .returned (.tuple #[.int .i64 0, .bool false]) ∧ Below w.heap.size w w' := by
  have HAL := hide (show Calls Tryd.prog 54 #[.slice p 0 cap, .int .i64 0, .int .i64 6] w fun e w' => e = .returned (.bool true) ∧ w = w' from by
    go_enter Tryd.func54, Tryd.ntmps54
    go_wp2
    go_loop [11, 8] (fun i _ => i = .int .i64 0) (fun _ _ => 0)
    case atStart => rfl
    case round =>
      subst hrel
      go_wp2
      go_returns
      exact ⟨rfl, rfl⟩)
  go_enter Tryd.func23, Tryd.ntmps23
  go_wp2_with (go_at_call 54; refine HAL.out.mono ?_; rintro e w1 ⟨rfl, rfl⟩)
  go_loop [20, 4, 6] (fun i s _ => i = .int .i64 0 ∧ s = .int .i64 0) (fun _ _ _ => 0)
  case atStart => exact ⟨rfl, rfl⟩
  case round =>
    obtain ⟨rfl, rfl⟩ := hrel
    go_wp2
    go_returns
    exact ⟨rfl, Below.refl _ _⟩
set_option maxHeartbeats 3200000 in
theorem specCW_any (g n cap : Nat) (C : List Int) (w : World) (hn : n = C.length) (h1 : 1 ≤ n) (h9 : n ≤ 9) (hI : IAt w g 0 C) : Calls Tryd.prog 23 #[.slice (some ⟨g, 0, none⟩) n cap] w fun e w' => e = .returned (.tuple #[.int .i64 (cwV C), .bool (cwB C)]) ∧ Below w.heap.size w w' := by
  have HAL := hide (l1All_any g n cap C w hn (by omega) hI)
  have h9b : decide (C.length ≤ 9) = true := decide_eq_true (by omega)
  have hni : (n : Int) ≤ 9 := by omega
  have HB := hide (show cwB C = (C.all in06 && decide (C.sum = 6)) from by unfold cwB; rw [h9b, Bool.true_and])
  have HI := hide hI
  have HN := hide hn
  cases hal : C.all in06 with
  | false =>
    rw [hal] at HAL HB
    have HV := hide (show cwV C = 0 from by unfold cwV; rw [HB.out]; rfl)
    rw [HV.out, HB.out]
    clear hal h9b hn hI
    go_enter Tryd.func23, Tryd.ntmps23
    go_wp2_with (go_at_call 54; refine HAL.out.mono ?_; rintro e w1 ⟨rfl, rfl⟩)
    go_returns
    exact ⟨rfl, Below.refl _ _⟩
  | true =>
    rw [hal, Bool.true_and] at HB
    rw [hal] at HAL
    have hall := List.all_eq_true.1 hal
    have HALL := hide hall
    obtain ⟨S, hS⟩ : ∃ S, S = C.sum := ⟨_, rfl⟩
    have HS := hide hS
    have hsb0 := sum_bd C hall
    rw [← hS] at HB hsb0
    have HP := hide turns_facts.2.2.1
    have hNP := turns_facts.2.1
    have HWS := hide (fun wx => diWays_any unitD wx)
    rw [turns_good.2] at HWS
    have HT : waysL unitD = turnsL := rfl
    rw [HT] at HWS
    have HCV := hide (show cwV C = if decide (S = 6) = true then sumC C turnsL / 24 else 0 from by unfold cwV; rw [HB.out])
    rw [HCV.out, HB.out]
    have HN24 := hide hNP
    generalize turnsL = P at HP HWS HN24 ⊢
    obtain ⟨R, hR⟩ : ∃ R, R = sumC C P := ⟨_, rfl⟩
    rw [← hR]
    have HR := hide hR
    have hRb := sumC_bd (M := C) (by omega) P HP.out
    rw [← hR, HN24.out] at hRb
    clear hal h9b hn hI hall hS HT hNP hR HB HCV
    by_cases h6 : S = 6
    · rw [decide_eq_true h6, if_pos rfl]
      have HS6 := hide h6
      have h6' : (S != 6) = false := by rw [h6]; rfl
      have HS6' := hide h6'
      clear h6 h6'
      go_enter Tryd.func23, Tryd.ntmps23
      go_wp2_with (go_at_call 54; refine HAL.out.mono ?_; rintro e w1 ⟨rfl, rfl⟩)
      go_loop [20, 4, 6] (fun i s _ => ∃ j : Nat, j ≤ n ∧ i = .int .i64 (j : Int) ∧ s = .int .i64 (C.take j).sum) (fun i _ _ => n - (intOf i).toNat)
      case atStart => exact ⟨0, Nat.zero_le _, rfl, rfl⟩
      case round =>
        obtain ⟨j, hj, rfl, rfl⟩ := hrel
        by_cases hlt : j < n
        · have hji : (j : Int) < (n : Int) := by omega
          have hx : C[j]? = some (C[j]'(by have := HN.out; omega)) := List.getElem?_eq_getElem (by have := HN.out; omega)
          generalize C[j]'(by have := HN.out; omega) = x at hx
          have cx := HI.out.2 j x hx
          simp only [Nat.zero_add] at cx
          have hxb : 0 ≤ x ∧ x ≤ 6 := of_decide_eq_true (HALL.out x (List.mem_of_getElem? hx))
          have hsb := sum_bd (C.take j) (fun y hy => HALL.out y (List.mem_of_mem_take hy))
          have hl : ((C.take j).length : Int) ≤ 9 := by rw [List.length_take]; omega
          have HSN := hide (sum_snoc hx)
          generalize (C.take j).sum = s at hsb HSN ⊢
          clear hx
          go_wp2
          go_round
          case rel => exact ⟨j + 1, by omega, by go_num, by rw [HSN.out]⟩
          case measure => simp [intOf] <;> omega
        · obtain rfl : j = n := by omega
          have hT : (C.take j).sum = S := by rw [List.take_of_length_le (by have := HN.out; omega), HS.out]
          rw [hT]
          clear hT
          have h6' := HS6'.out
          go_wp2_with (go_at_call 38; refine (diUnit_any _).mono ?_; rintro e w1 ⟨rfl, q1⟩)
          clear h6'
          refine (HWS.out _).mono ?_
          rintro e w2 ⟨v, rfl, O2, hb2⟩
          have q2 := below_to hb2 q1 q1.size rfl rfl rfl rfl
          obtain ⟨gw, cap2, rfl, -, -⟩ := own_form O2 (by omega)
          have HD := hide (dAt_own O2 HN24.out.symm)
          have HI2 := hide (iAt_to hb2 (iAt_to q1 HI.out rfl) rfl)
          clear hb2 q1 O2
          go_wp2
          go_loopw [33, 7] (fun i s wr => ∃ j : Nat, j ≤ 24 ∧ i = .int .i64 (j : Int) ∧ s = .int .i64 (sumC C (P.take j)) ∧ Below w2.heap.size w2 wr) (fun i _ _ => 24 - (intOf i).toNat)
          case atStart => exact ⟨0, Nat.zero_le _, rfl, rfl, Below.refl _ _⟩
          case round =>
            obtain ⟨k, hk, rfl, rfl, q⟩ := hrel
            by_cases hlt2 : k < 24
            · have hki : (k : Int) < 24 := by omega
              have hx : P[k]? = some (P[k]'(by have := HN24.out; omega)) := List.getElem?_eq_getElem (by have := HN24.out; omega)
              generalize P[k]'(by have := HN24.out; omega) = u at hx
              have hp := HP.out u (List.mem_of_getElem? hx)
              have HC := hide (clCycles_any u hp)
              have hcp := cyc_pos u hp
              have h6c := cyc6 hp
              have hpb := cf_bd6 (L := cycL u) (C := C) (by have := HN.out; omega) h6c
              have hs := sumC_snoc (M := C) hx
              have hs1 := sumC_bd (M := C) (by have := HN.out; omega) (P.take k) (fun q hq => HP.out q (List.mem_of_mem_take hq))
              have hl : ((P.take k).length : Int) ≤ 24 := by rw [List.length_take]; omega
              obtain ⟨c0, c1, c2, c3, c4, c5⟩ := (dAt_to q HD.out rfl).cells0 hx
              have HK := hide (fun (g0 c ln : Nat) (wx : World) (e1 : ln = (cycL u).length) (e2 : ln ≤ c) (e3 : c ≤ maxLen) (e4 : IAt wx g0 0 (cycL u)) (e5 : IAt wx g 0 C) => clCounts_any (cycL u) hcp.1 h6c C j HN.out h1 h9 (in06_mem (List.all_eq_true.2 HALL.out)) g0 0 ln c g cap wx e1 e2 e3 e4 e5)
              have hlp := hcp.2
              clear hcp
              generalize cf (cycL u) C = pv at hs hpb HK
              generalize cycL u = L at HC HK h6c hlp
              obtain ⟨ln, hln⟩ : ∃ ln, ln = L.length := ⟨_, rfl⟩
              rw [← hln] at HC hlp
              have HLN := hide hln
              generalize sumC C (P.take k) = sj at hs hs1 ⊢
              have hsb : 0 ≤ sj ∧ sj ≤ 1000000 * 24 := by omega
              have HSU := hide hs
              have HIw := hide (iAt_to q HI2.out rfl)
              clear hx hp hln hs hs1 hl
              go_wp2_with fail
              refine (HC.out _).mono ?_
              rintro e w3 ⟨v, rfl, O1, hb1⟩
              have q3 := below_to hb1 (q.alloc q.size (.cells #[.int .i64 u.t, .int .i64 u.n, .int .i64 u.e, .int .i64 u.s, .int .i64 u.w, .int .i64 u.b] 30)) (by have := q.size; simp; omega) rfl rfl rfl rfl
              have HI3 := hide (iAt_to hb1 (iAt_alloc HIw.out (.cells #[.int .i64 u.t, .int .i64 u.n, .int .i64 u.e, .int .i64 u.s, .int .i64 u.w, .int .i64 u.b] 30)) rfl)
              obtain ⟨pa, pc, rfl, -, -, hc1, hc2⟩ := own_formN O1 hlp
              have HI1 := hide (iAt_own O1)
              clear hb1 O1 q c0 c1 c2 c3 c4 c5
              go_wp2_with fail
              refine (HK.out pa pc ln _ HLN.out hc1 hc2 HI1.out HI3.out).mono ?_
              rintro e w4 ⟨rfl, hb4⟩
              have q4 := below_to hb4 q3 q3.size rfl rfl rfl rfl
              clear hb4 q3
              go_wp2
              go_roundw
              case rel => exact ⟨k + 1, by omega, by go_num, by rw [HSU.out], q4⟩
              case measure => simp [intOf] <;> omega
            · obtain rfl : k = 24 := by omega
              have he : sumC C (P.take 24) = R := by rw [HR.out, List.take_of_length_le (by have := HN24.out; omega)]
              rw [he]
              clear he
              go_wp2
              go_returns
              exact ⟨rfl, q2.trans (q.mono q2.size)⟩
    · rw [decide_eq_false h6, if_neg (by decide)]
      have h6' : (S != 6) = true := by simp [h6]
      have HS6' := hide h6'
      clear h6 h6'
      go_enter Tryd.func23, Tryd.ntmps23
      go_wp2_with (go_at_call 54; refine HAL.out.mono ?_; rintro e w1 ⟨rfl, rfl⟩)
      go_loop [20, 4, 6] (fun i s _ => ∃ j : Nat, j ≤ n ∧ i = .int .i64 (j : Int) ∧ s = .int .i64 (C.take j).sum) (fun i _ _ => n - (intOf i).toNat)
      case atStart => exact ⟨0, Nat.zero_le _, rfl, rfl⟩
      case round =>
        obtain ⟨j, hj, rfl, rfl⟩ := hrel
        by_cases hlt : j < n
        · have hji : (j : Int) < (n : Int) := by omega
          have hx : C[j]? = some (C[j]'(by have := HN.out; omega)) := List.getElem?_eq_getElem (by have := HN.out; omega)
          generalize C[j]'(by have := HN.out; omega) = x at hx
          have cx := HI.out.2 j x hx
          simp only [Nat.zero_add] at cx
          have hxb : 0 ≤ x ∧ x ≤ 6 := of_decide_eq_true (HALL.out x (List.mem_of_getElem? hx))
          have hsb := sum_bd (C.take j) (fun y hy => HALL.out y (List.mem_of_mem_take hy))
          have hl : ((C.take j).length : Int) ≤ 9 := by rw [List.length_take]; omega
          have HSN := hide (sum_snoc hx)
          generalize (C.take j).sum = s at hsb HSN ⊢
          clear hx
          go_wp2
          go_round
          case rel => exact ⟨j + 1, by omega, by go_num, by rw [HSN.out]⟩
          case measure => simp [intOf] <;> omega
        · obtain rfl : j = n := by omega
          have hT : (C.take j).sum = S := by rw [List.take_of_length_le (by have := HN.out; omega), HS.out]
          rw [hT]
          clear hT
          have h6' := HS6'.out
          go_wp2
          go_returns
          exact ⟨rfl, Below.refl _ _⟩
/-- Both sides, at a row of one's own. -/
theorem cwB_long {C : List Int} (h : ¬ C.length ≤ 9) : cwB C = false ∧ cwV C = 0 := by
  have : cwB C = false := by unfold cwB; rw [decide_eq_false h]; rfl
  exact ⟨this, by unfold cwV; rw [this]; rfl⟩
theorem cwB_nil : cwB [] = false ∧ cwV [] = 0 := ⟨rfl, rfl⟩
theorem implCW_nil (g cap : Nat) (w : World) (hg : g < w.heap.size) : Calls Tryd.prog 25 #[.slice (some ⟨g, 0, none⟩) 0 cap] w fun e w' => e = .returned (.tuple #[.int .i64 0, .bool false]) ∧ Below w.heap.size w w' :=
  implCW_any g 0 cap [] w rfl (by omega) ⟨hg, fun j x hj => by simp at hj⟩
theorem specCW_all (g : Nat) (C : List Int) (n : Nat) (w : World) (hn : n = C.length) (hm : n ≤ 1048576) (hI : IAt w g 0 C) : Calls Tryd.prog 23 #[.slice (some ⟨g, 0, none⟩) n n] w fun e w' => e = .returned (.tuple #[.int .i64 (cwV C), .bool (cwB C)]) ∧ Below w.heap.size w w' := by
  by_cases h9 : n ≤ 9
  · by_cases h1 : 1 ≤ n
    · exact specCW_any g n n C w hn h1 h9 hI
    · have h0 : n = 0 := by omega
      have hc : C = [] := List.length_eq_zero_iff.1 (by omega)
      subst h0
      rw [hc, cwB_nil.1, cwB_nil.2]
      exact specCW_nil _ 0 w
  · rw [(cwB_long (C := C) (by omega)).1, (cwB_long (C := C) (by omega)).2]
    exact specCW_long _ n n w (by omega) (by unfold maxLen; omega)
theorem implCW_all (g : Nat) (C : List Int) (n : Nat) (w : World) (hn : n = C.length) (hm : n ≤ 1048576) (hI : IAt w g 0 C) : Calls Tryd.prog 25 #[.slice (some ⟨g, 0, none⟩) n n] w fun e w' => e = .returned (.tuple #[.int .i64 (cwV C), .bool (cwB C)]) ∧ Below w.heap.size w w' := by
  by_cases h9 : n ≤ 9
  · exact implCW_any g n n C w hn h9 hI
  · rw [(cwB_long (C := C) (by omega)).1, (cwB_long (C := C) (by omega)).2]
    exact implCW_long _ n n w (by omega) (by unfold maxLen; omega)
theorem isIn_form {w : World} {v : Value} {L : List Int} (h : IsIn w v L) : ∃ p cap, v = .slice p L.length cap ∧ L.length ≤ maxLen := by
  rcases h with ⟨p, cap, rfl, rfl⟩ | ⟨g, o, cap, rfl, -, hm, -⟩
  · exact ⟨p, cap, rfl, by simp⟩
  · exact ⟨_, cap, rfl, hm⟩
set_option maxHeartbeats 1600000 in
theorem walk_CountWithCounts (v0 : Value) (L0 : List Int) (w : World) (h0 : IsIn w v0 L0) (_ : Glob w) : Calls Tryd.prog 7 #[v0] w fun e w' => e = .returned (.bool true) ∧ Below w.heap.size w w' := by
  obtain ⟨p, cap, rfl, hm⟩ := isIn_form h0
  have H0 := hide h0
  clear h0
  unfold maxLen at hm
  obtain ⟨n, hn⟩ : ∃ n, n = L0.length := ⟨_, rfl⟩
  have HN := hide hn
  rw [← hn] at hm H0 ⊢
  by_cases hs : n ≤ 1048576
  · have hsi : ¬ (1048576 : Int) < (n : Int) := by omega
    obtain ⟨z0, hz0⟩ : ∃ z, z = cwV L0 := ⟨_, rfl⟩
    have HZ0 := hide hz0
    have e0 : (z0 != z0) = false := by simp
    obtain ⟨z1, hz1⟩ : ∃ z, z = cwB L0 := ⟨_, rfl⟩
    have HZ1 := hide hz1
    have e1 : (z1 != z1) = false := by simp
    have HTO := hide (fun (wx : World) (h : IsIn wx (.slice p n cap) L0) => toIntS_any _ L0 wx h (by omega))
    unfold ToIs at HTO
    rw [← hn] at HTO
    have HSP := hide (fun (g : Nat) (wx : World) (h : IAt wx g 0 L0) => specCW_all g L0 n wx hn hs h)
    have HIM := hide (fun (g : Nat) (wx : World) (h : IAt wx g 0 L0) => implCW_all g L0 n wx hn hs h)
    rw [← HZ0.out, ← HZ1.out] at HSP HIM
    clear hz0 hz1 hn
    go_enter Tryd.func7, Tryd.ntmps7
    go_wp2_with fail
    refine (HTO.out _ H0.out).mono ?_
    rintro e w1 ⟨g1, -, rfl, O1, q1⟩
    have HI1 := hide (iAt_own O1)
    have H1 := hide (isIn_to q1 H0.out rfl)
    clear O1
    go_wp2_with fail
    refine (HSP.out g1 _ HI1.out).mono ?_
    rintro e w2 ⟨rfl, hb2⟩
    have q2 := below_to hb2 q1 q1.size rfl rfl rfl rfl
    have H2 := hide (isIn_to hb2 H1.out rfl)
    clear hb2 q1 HI1
    go_wp2_with fail
    refine (HTO.out _ H2.out).mono ?_
    rintro e w3 ⟨g3, -, rfl, O3, hb3⟩
    have q3 := below_to hb3 q2 q2.size rfl rfl rfl rfl
    have H3 := hide (isIn_to hb3 H2.out rfl)
    have HI3 := hide (iAt_own O3)
    have HO3 := hide O3
    clear hb3 q2 O3
    go_wp2_with fail
    refine (HIM.out g3 _ HI3.out).mono ?_
    rintro e w4 ⟨rfl, hb4⟩
    have q4 := below_to hb4 q3 q3.size rfl rfl rfl rfl
    have H4 := hide (isIn_to hb4 H3.out rfl)
    have HO4 := hide (own_to hb4 HO3.out rfl)
    clear hb4 q3 HI3 HO3
    go_wp2_with fail
    refine (HTO.out _ H4.out).mono ?_
    rintro e w5 ⟨g5, -, rfl, O5, hb5⟩
    have q5 := below_to hb5 q4 q4.size rfl rfl rfl rfl
    have HO5 := hide (own_to hb5 HO4.out rfl)
    have HP5 := hide O5
    clear hb5 q4 O5
    go_wp2_with fail
    refine (eqIntS_any _ _ n _ _ L0 _ (by omega) HO5.out HP5.out).mono ?_
    rintro e w6 ⟨rfl, hb6⟩
    have q6 := below_to hb6 q5 q5.size rfl rfl rfl rfl
    clear hb6 q5
    go_wp2
    go_returns
    exact ⟨rfl, q6⟩
  · have hsi : (1048576 : Int) < (n : Int) := by omega
    clear hn
    go_enter Tryd.func7, Tryd.ntmps7
    go_wp2
    go_returns
    exact ⟨rfl, Below.refl _ _⟩
end Go.Proofs.YtjikpkembcnfnaaDoor
