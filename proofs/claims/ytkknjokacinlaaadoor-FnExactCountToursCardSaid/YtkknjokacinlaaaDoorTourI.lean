/- The model's tours: prCount, prTour, prFrom. The model's tours from a state: prFrom. The model's TourOf and CountTours. The laws of TourOf and CountTours. Conditions: the chapters' variables as they were laid. -/
import Derived.Test.YtkknjokacinlaaaDoorTourK
import Derived.Test.YtkknjokacinlaaaDoorTourW
namespace Go.Proofs.YtkknjokacinlaaaDoor
set_option maxRecDepth 100000
set_option linter.all false
open Go.RowKit

theorem cnt_takeF (L : List UInt8) (k : Nat) (c : UInt8) (h : L[k]? = some c) : cntD (L.take (k + 1)) = cntD (L.take k) + (if isDig c then 1 else 0) := by
  obtain ⟨hk, he⟩ := List.getElem?_eq_some_iff.1 h
  unfold cntD
  rw [List.take_succ_eq_append_getElem hk, List.countP_append, he]
  simp [List.countP_cons]
theorem cnt_flatT (l : List UInt8) : cntD (splitP l).flatten = cntD l := by
  rw [flat_filter]
  unfold cntD
  rw [List.countP_filter]
  apply List.countP_congr
  intro c _
  by_cases h : c = 47
  · subst h; decide
  · simp [h]
set_option maxHeartbeats 1600000 in
theorem prCount_any (F : List UInt8) (g n cap : Nat) (hn : F.length = n) (h49 : n ≤ 100) (w : World) (hA : BytesAt w g F) : Calls Tryd.prog 21 #[.slice (some ⟨g, 0, none⟩) n cap] w fun e w' => e = .returned (.int .i64 ((cntD F : Nat) : Int)) ∧ w = w' := by
  have HN := hide hn
  have HA := hide hA
  clear hn hA
  go_enter Tryd.func21, Tryd.ntmps21
  go_wp2
  go_loop [8, 5, 3] (fun i _ q => ∃ k : Nat, k ≤ n ∧ i = .int .i64 (k : Int) ∧ q = .int .i64 ((cntD (F.take k) : Nat) : Int)) (fun i _ _ => n - (intOf i).toNat)
  case atStart => exact ⟨0, Nat.zero_le _, rfl, rfl⟩
  case round =>
    obtain ⟨k, hk, rfl, rfl⟩ := hrel
    have hle : cntD (F.take k) ≤ k := by unfold cntD; exact Nat.le_trans List.countP_le_length (by simp; omega)
    by_cases hlt : k < n
    · have hki : (k : Int) < (n : Int) := by omega
      have hc := List.getElem?_eq_getElem (l := F) (i := k) (by have := HN.out; omega)
      generalize F[k]'(by have := HN.out; omega) = c at hc
      have q0 := HA.out.cell hc
      have HC := hide (cnt_takeF F k c hc)
      clear hc
      generalize hq : cntD (F.take k) = q at hle HC
      have HQ := hide hq
      clear hq
      cases hd : isDig c
      · have HD := hide hd
        clear hd
        go_wp2_with (go_at_call 22; refine (prDigit_any c _).mono ?_; rintro e w2 ⟨rfl, rfl⟩; rw [HD.out])
        go_round
        case rel => exact ⟨k + 1, by omega, by go_num, by rw [HC.out, HD.out]; simp⟩
        case measure => simp [intOf]; omega
      · have HD := hide hd
        clear hd
        have w1q : IntKind.i64.wrap ((q : Int) + 1) = (q : Int) + 1 := IntWalk.i64_in _ (by omega)
        go_wp2_with (go_at_call 22; refine (prDigit_any c _).mono ?_; rintro e w2 ⟨rfl, rfl⟩; rw [HD.out])
        go_round
        case rel => exact ⟨k + 1, by omega, by go_num, by rw [HC.out, HD.out]; simp⟩
        case measure => simp [intOf]; omega
    · obtain rfl : k = n := by omega
      have e1 : F.take k = F := List.take_of_length_le (by rw [HN.out]; exact Nat.le_refl _)
      rw [e1]
      clear e1
      generalize hq : cntD F = q at hle ⊢
      have HQ := hide hq
      clear hq
      go_wp2
      go_returns
      exact ⟨by rw [HQ.out]; rfl, rfl⟩

set_option maxHeartbeats 1600000 in
theorem prTour_bad (s : ByteArray) (t : St) (w : World) (h : isLab s.data.toList = false) : Calls Tryd.prog 13 #[.string s, St.v t] w fun e w' => ∃ lv, e = .returned (.tuple #[.agg #[.int .i64 0, .int .i64 0, .slice none 0 0], lv, .bool false]) ∧ Below w.heap.size w w' := by
  have H := hide h
  clear h
  go_enter Tryd.func13, Tryd.ntmps13
  go_wp2_with fail
  refine (prAsked_bad s t _ H.out).mono ?_
  rintro e w1 ⟨lv, rfl, hb1⟩
  have R0 := isG_to hb1 (IsG.new (w := w.alloc (.cells #[.int .i64 t.x, .int .i64 t.y, .int .i64 t.d.t, .int .i64 t.d.n, .int .i64 t.d.e, .int .i64 t.d.s, .int .i64 t.d.w, .int .i64 t.d.b] 30)) (x := 0) (y := 0) (v := .slice none 0 0)) rfl
  have q0 : Below w.heap.size w w1 := below_after (by go_grown) hb1 (by simp; omega)
  simp only [World.size_alloc] at R0
  have R1 := R0.alloc (.cells #[.int .i64 0, .int .i64 0, .slice none 0 0] 39)
  have G1 := IsG.new (w := w1) (x := 0) (y := 0) (v := .slice none 0 0)
  have q1 := q0.alloc q0.size (.cells #[.int .i64 0, .int .i64 0, .slice none 0 0] 39)
  have hz := R0.lt
  clear hb1 q0 R0
  go_wp2_with fail
  generalize hB : w1.heap.size = B at G1 hz ⊢
  generalize w1.alloc (.cells #[.int .i64 0, .int .i64 0, .slice none 0 0] 39) = W1 at R1 G1 q1 ⊢
  clear hB
  obtain ⟨l1, ⟨c0, c1, c2⟩, f0, f1, f2⟩ := R1.all
  obtain ⟨l2, ⟨d0, d1, d2⟩, -⟩ := G1.all
  first | go_region_with (fail) | fail "region"
  all_goals
    go_wp2
    refine bodyPost_ret (ret_grid3 Tryd.results13 rfl rfl rfl (R1.set3 0 0 (.slice none 0 0))) rfl ⟨_, rfl, ?_⟩
    exact (below_set3 (b := w.heap.size + 1) q1 (Nat.le_succ _) _ _ _).drew
set_option maxHeartbeats 1600000 in
theorem prTour_off (s : ByteArray) (t : St) (w : World) (h : isLab s.data.toList = true) (h2 : stL (unlab s.data.toList) t = false) : Calls Tryd.prog 13 #[.string s, St.v t] w fun e w' => ∃ W H n g cap lv, e = .returned (.tuple #[gridV W H n g cap, lv, .bool false]) ∧ Below w.heap.size w w' := by
  have H := hide h
  have H2 := hide h2
  clear h h2
  go_enter Tryd.func13, Tryd.ntmps13
  go_wp2_with fail
  refine (prAsked_in s t _ H.out).mono ?_
  rintro e w1 ⟨W, Hh, n, g, cap, gl, capl, hG, rfl, hA, hcp, hAL, hb1⟩
  rw [H2.out]
  have R0 := isG_to hb1 (IsG.new (w := w.alloc (.cells #[.int .i64 t.x, .int .i64 t.y, .int .i64 t.d.t, .int .i64 t.d.n, .int .i64 t.d.e, .int .i64 t.d.s, .int .i64 t.d.w, .int .i64 t.d.b] 30)) (x := 0) (y := 0) (v := .slice none 0 0)) rfl
  have q0 : Below w.heap.size w w1 := below_after (by go_grown) hb1 (by simp; omega)
  simp only [World.size_alloc] at R0
  have R1 := R0.alloc (.cells #[.int .i64 (W : Int), .int .i64 (Hh : Int), .slice (some ⟨g, 0, none⟩) n cap] 39)
  have G1 := IsG.new (w := w1) (x := (W : Int)) (y := (Hh : Int)) (v := .slice (some ⟨g, 0, none⟩) n cap)
  have q1 := q0.alloc q0.size (.cells #[.int .i64 (W : Int), .int .i64 (Hh : Int), .slice (some ⟨g, 0, none⟩) n cap] 39)
  have hz := R0.lt
  clear hb1 q0 R0 hA hAL hG hcp
  go_wp2_with fail
  generalize hB : w1.heap.size = B at G1 hz ⊢
  generalize w1.alloc (.cells #[.int .i64 (W : Int), .int .i64 (Hh : Int), .slice (some ⟨g, 0, none⟩) n cap] 39) = W1 at R1 G1 q1 ⊢
  clear hB
  obtain ⟨l1, ⟨c0, c1, c2⟩, f0, f1, f2⟩ := R1.all
  obtain ⟨l2, ⟨d0, d1, d2⟩, -⟩ := G1.all
  first | go_region_with (fail) | fail "region"
  all_goals
    go_wp2
    refine bodyPost_ret (ret_grid3 Tryd.results13 rfl rfl rfl (R1.set3 (W : Int) (Hh : Int) (.slice (some ⟨g, 0, none⟩) n cap))) rfl ⟨W, Hh, n, g, cap, _, rfl, ?_⟩
    exact (below_set3 (b := w.heap.size + 1) q1 (Nat.le_succ _) _ _ _).drew
set_option maxHeartbeats 1600000 in
theorem prTour_in (s : ByteArray) (t : St) (w : World) (h : isLab s.data.toList = true) (h2 : stL (unlab s.data.toList) t = true) : Calls Tryd.prog 13 #[.string s, St.v t] w fun e w' => ∃ W H n g cap g2 cap2, GridOk (unlab s.data.toList) W H n ∧ e = .returned (.tuple #[gridV W H n g cap, .slice (some ⟨g2, 0, none⟩) n cap2, .bool (decide (cntD s.data.toList ≤ 12))]) ∧ BytesAt w' g (splitP (unlab s.data.toList)).flatten ∧ BytesAt w' g2 (splitP s.data.toList).flatten ∧ Below w.heap.size w w' := by
  have H := hide h
  have HST := hide h2
  clear h h2
  generalize hct : cntD s.data.toList = ct
  have HCT := hide hct
  clear hct
  go_enter Tryd.func13, Tryd.ntmps13
  go_wp2_with fail
  refine (prAsked_in s t _ H.out).mono ?_
  rintro e w1 ⟨W, Hh, n, g, cap, gl, capl, hG, rfl, hA, hcp, hAL, hb1⟩
  rw [HST.out]
  clear hcp
  have R0 := isG_to hb1 (IsG.new (w := w.alloc (.cells #[.int .i64 t.x, .int .i64 t.y, .int .i64 t.d.t, .int .i64 t.d.n, .int .i64 t.d.e, .int .i64 t.d.s, .int .i64 t.d.w, .int .i64 t.d.b] 30)) (x := 0) (y := 0) (v := .slice none 0 0)) rfl
  have q0 : Below w.heap.size w w1 := below_after (by go_grown) hb1 (by simp; omega)
  simp only [World.size_alloc] at R0
  have R1 := R0.alloc (.cells #[.int .i64 (W : Int), .int .i64 (Hh : Int), .slice (some ⟨g, 0, none⟩) n cap] 39)
  have G1 := IsG.new (w := w1) (x := (W : Int)) (y := (Hh : Int)) (v := .slice (some ⟨g, 0, none⟩) n cap)
  have A1 : BytesAt (w1.alloc (.cells #[.int .i64 (W : Int), .int .i64 (Hh : Int), .slice (some ⟨g, 0, none⟩) n cap] 39)) g (splitP (unlab s.data.toList)).flatten := bytesAt_to ((Below.refl _ _).alloc (Nat.le_refl _) _) hA rfl
  have A1L : BytesAt (w1.alloc (.cells #[.int .i64 (W : Int), .int .i64 (Hh : Int), .slice (some ⟨g, 0, none⟩) n cap] 39)) gl (splitP s.data.toList).flatten := bytesAt_to ((Below.refl _ _).alloc (Nat.le_refl _) _) hAL rfl
  have q1 := q0.alloc q0.size (.cells #[.int .i64 (W : Int), .int .i64 (Hh : Int), .slice (some ⟨g, 0, none⟩) n cap] 39)
  have HG := hide hG
  have hz := R0.lt
  obtain ⟨gw0, gw7, gh0, gh7, gn⟩ := grid_facts hG
  have hn49 : n ≤ 49 := by rw [gn]; exact Nat.le_trans (Nat.mul_le_mul gw7 gh7) (by omega)
  have HCNT := hide (fun (wx : World) (hx : BytesAt wx gl (splitP s.data.toList).flatten) => prCount_any (splitP s.data.toList).flatten gl n capl (lab_facts hG).2.2 (by omega) wx hx)
  rw [cnt_flatT, HCT.out] at HCNT
  have hct12 : ct ≤ 60 := by
    rw [← HCT.out, ← cnt_flatT]
    have h1 : cntD (splitP s.data.toList).flatten ≤ (splitP s.data.toList).flatten.length := by unfold cntD; exact List.countP_le_length
    have := (lab_facts hG).2.2
    omega
  have hcmp : decide ((ct : Int) ≤ 12) = decide (ct ≤ 12) := by rw [decide_eq_decide]; omega
  clear hb1 q0 R0 hA hAL hG gn
  go_wp2_with fail
  generalize hB : w1.heap.size = B at G1 hz ⊢
  generalize w1.alloc (.cells #[.int .i64 (W : Int), .int .i64 (Hh : Int), .slice (some ⟨g, 0, none⟩) n cap] 39) = W1 at R1 G1 A1 A1L q1 ⊢
  clear hB
  have HA := hide A1
  have HAL := hide A1L
  have HALd := hide (show BytesAt W1.drew gl (splitP s.data.toList).flatten from A1L)
  clear A1 A1L
  obtain ⟨l1, ⟨c0, c1, c2⟩, f0, f1, f2⟩ := R1.all
  obtain ⟨l2, ⟨d0, d1, d2⟩, -⟩ := G1.all
  have hg1 := grid_ne_bytes R1 HA.out
  have hg2 := grid_ne_bytes R1 HAL.out
  have hne : (⟨B, 0, none⟩ : Addr).block ≠ w.heap.size + 1 := by show B ≠ _; omega
  have G2 := ((G1.other (p := ⟨w.heap.size + 1, 0, none⟩) hne (.int .i64 (W : Int))).other (p := ⟨w.heap.size + 1, 1, none⟩) hne (.int .i64 (Hh : Int))).other (p := ⟨w.heap.size + 1, 2, none⟩) hne (.slice (some ⟨g, 0, none⟩) n cap)
  have HG2 := hide G2
  have HG1 := hide G1
  clear G2
  go_region_held3 (fun w' => w'.cell? ⟨B, 0, none⟩ = some (.int .i64 (W : Int)) ∧ w'.cell? ⟨B, 1, none⟩ = some (.int .i64 (Hh : Int)) ∧ w'.cell? ⟨B, 2, none⟩ = some (.slice (some ⟨g, 0, none⟩) n cap)) (first | (refine ⟨?_, ?_, ?_⟩ <;> with_reducible assumption) | (exact HG1.out.all.2.1) | (exact HG2.out.all.2.1))
    (first
      | (go_at_call 21; (refine (HCNT.out _ (by first | (with_reducible exact HALd.out) | (with_reducible exact HAL.out))).mono ?_); rintro e w2 ⟨rfl, rfl⟩))
  all_goals
    go_wp2
    refine bodyPost_ret (ret_grid3 Tryd.results13 rfl rfl rfl (R1.set3 (W : Int) (Hh : Int) (.slice (some ⟨g, 0, none⟩) n cap))) rfl ⟨W, Hh, n, g, cap, gl, capl, HG.out, ?_, HA.out.other3 hg1 _ _ _, HAL.out.other3 hg2 _ _ _, ?_⟩
    · first | rfl | (rw [hcmp]; rfl)
    · exact (below_set3 (b := w.heap.size + 1) q1 (Nat.le_succ _) _ _ _).drew
end Go.Proofs.YtkknjokacinlaaaDoor
namespace Go.Proofs.YtkknjokacinlaaaDoor
set_option maxRecDepth 100000
set_option linter.all false
open Go.RowKit

/-- All tours from a state. -/
def toT (W : Nat) (l : List UInt8) (s : St) : List (List UInt8) := if labAtB l s = true then tourT W (cntD l - 1) (putC W l s 46) s [] else []
/-- What is read of a search in the end. -/
def AtT (w : World) (tb : Nat) (f : List UInt8) (c : Nat) : Prop := w.cell? ⟨tb, 6, none⟩ = some (.string ⟨f.toArray⟩) ∧ w.cell? ⟨tb, 7, none⟩ = some (.int .i64 (c : Int))
theorem info_boolT : (Tryd.prog.info? 4).map (fun i => (i.zero, i.size, i.bytes)) = some (some (.bool false), 1, 1) := by kernel_rfl
theorem bools_zero (n : Nat) : (madeCells (Value.bool false).cells (n * 1)).toList = List.replicate n (.bool false) := by
  rw [Nat.mul_one]
  unfold madeCells
  apply List.ext_getElem
  · simp
  · intro i h1 h2
    simp [Value.cells, Nat.mod_one]
set_option maxHeartbeats 8000000 in
theorem prFrom_any (l : List UInt8) (W Hh n g cap gl capl : Nat) (hG : GridOk (unlab l) W Hh n) (s : St) (hst : stL (unlab l) s = true) (h12 : cntD l ≤ 12) (M : Nat) (hM : 1 ≤ M ∧ M ≤ 1073741824) (w : World) (hA : BytesAt w g (splitP (unlab l)).flatten) (hAL : BytesAt w gl (splitP l).flatten) :
    Calls Tryd.prog 14 #[gridV W Hh n g cap, .slice (some ⟨gl, 0, none⟩) n capl, St.v s, .int .i64 (M : Int)] w fun e w' => ∃ tb, e = .returned (.pointer (some ⟨tb, 0, none⟩)) ∧ AtT w' tb (fstT [] 0 (toT W l s)) (min M (toT W l s).length) ∧ Below w.heap.size w w' := by
  obtain ⟨i0, hi, hz0, hz1, hz2⟩ := info_parts info_boolT
  obtain ⟨gw0, gw7, gh0, gh7, gn⟩ := grid_facts hG
  obtain ⟨he, hHl, hfl⟩ := lab_facts hG
  have hn49 : n ≤ 49 := by rw [gn]; exact Nat.le_trans (Nat.mul_le_mul gw7 gh7) (by omega)
  obtain ⟨hflo, hgd⟩ := st_floor hst
  have h09 := good_top hgd
  obtain ⟨x, y, hx, hy, hxW, hyH⟩ := floor_in hG hflo
  have hgl := hA.lt
  have hgll := hAL.lt
  -- the cell
  have c0e := cellI_flat he (k := y) (j := x) (by omega) hxW
  obtain ⟨rr, hrr⟩ : ∃ rr, rr = y * W := ⟨_, rfl⟩
  obtain ⟨p, hpp⟩ : ∃ p, p = rr + x := ⟨_, rfl⟩
  rw [← hrr, ← hpp] at c0e
  have hp : p < n := by have := (List.getElem?_eq_some_iff.1 c0e).1; omega
  have hr36 : rr ≤ 49 := by rw [hrr]; exact Nat.le_trans (Nat.mul_le_mul (show y ≤ 7 by omega) gw7) (by omega)
  have hyx : s.y * (W : Int) = (rr : Int) := by rw [hy, hrr]; simp
  have hw1 : IntKind.i64.wrap (rr : Int) = (rr : Int) := IntWalk.i64_in _ (by omega)
  have hw2 : IntKind.i64.wrap ((rr : Int) + s.x) = (p : Int) := by rw [hx, IntWalk.i64_in _ (by omega)]; omega
  obtain ⟨ct, hct⟩ : ∃ ct, ct = cntD l := ⟨_, rfl⟩
  obtain ⟨lf, hlf⟩ : ∃ lf : Int, lf = (ct : Int) - 1 := ⟨_, rfl⟩
  have w0q : IntKind.i64.wrap ((ct : Int) - 1) = lf := by rw [IntWalk.i64_in _ (by omega), hlf]
  have HCNT := hide (fun (wx : World) (hx : BytesAt wx gl (splitP l).flatten) => prCount_any (splitP l).flatten gl n capl hfl (by omega) wx hx)
  rw [cnt_flatT, ← hct] at HCNT
  have HPM := hide (fun (wx : World) (hx : BytesAt wx gl (splitP l).flatten) => prMatch_any l W Hh n g cap gl capl hG s hflo wx hx)
  have HEV := hide (show labAtB l s = labB (cellI (splitP l) s.x s.y) s.d.t from rfl)
  rw [hx, hy] at HPM HEV
  obtain ⟨c0, hc0⟩ : ∃ c0, c0 = cellI (splitP l) (x : Int) (y : Int) := ⟨_, rfl⟩
  rw [← hc0] at HPM HEV c0e
  have q1 : Below w.heap.size w ((w.alloc (.cells #[.int .i64 (W : Int), .int .i64 (Hh : Int), .slice (some ⟨g, 0, none⟩) n cap] 39)).alloc (.cells #[.int .i64 s.x, .int .i64 s.y, .int .i64 s.d.t, .int .i64 s.d.n, .int .i64 s.d.e, .int .i64 s.d.s, .int .i64 s.d.w, .int .i64 s.d.b] 30)) := by go_grown
  have HRET := hide (fun (wx : World) (h : BytesAt w gl (splitP l).flatten) => h)
  have G1 := (IsG.new (w := w) (x := (W : Int)) (y := (Hh : Int)) (v := .slice (some ⟨g, 0, none⟩) n cap)).alloc (.cells #[.int .i64 s.x, .int .i64 s.y, .int .i64 s.d.t, .int .i64 s.d.n, .int .i64 s.d.e, .int .i64 s.d.s, .int .i64 s.d.w, .int .i64 s.d.b] 30)
  have S1 := IsS.new (w := w.alloc (.cells #[.int .i64 (W : Int), .int .i64 (Hh : Int), .slice (some ⟨g, 0, none⟩) n cap] 39)) (s := s) (ty := 30)
  simp only [World.size_alloc] at S1
  have A1 := bytesAt_to q1 hA rfl
  have AL1 := bytesAt_to q1 hAL rfl
  have HG := hide hG
  have HE := hide he
  have HHL := hide hHl
  have HFL := hide hfl
  have HGD := hide hgd
  have H09 := hide h09
  have HX := hide hx
  have HY := hide hy
  have HCT := hide hct
  have HLF := hide hlf
  have HPP := hide hpp
  have HRR := hide hrr
  have HI := hide hi
  have HZ0 := hide hz0
  have HZ1 := hide hz1
  have HZ2 := hide hz2
  have H12 := hide h12
  have HFLO := hide hflo
  clear hi hz0 hz1 hz2 hG he hHl hfl hst hflo hgd h09 hx hy hct hlf hpp hrr hA hAL gn hc0 h12 HRET
  go_enter Tryd.func14, Tryd.ntmps14
  go_wp2
  generalize (w.alloc (.cells #[.int .i64 (W : Int), .int .i64 (Hh : Int), .slice (some ⟨g, 0, none⟩) n cap] 39)).alloc (.cells #[.int .i64 s.x, .int .i64 s.y, .int .i64 s.d.t, .int .i64 s.d.n, .int .i64 s.d.e, .int .i64 s.d.s, .int .i64 s.d.w, .int .i64 s.d.b] 30) = w1 at q1 G1 S1 A1 AL1 ⊢
  obtain ⟨wm, hrun, O, hgr⟩ := run_make_full (P := Tryd.prog) w1.drew 0 44 4 i0 (.bool false) 1 Tryd.underlying44 HI.out HZ0.out HZ1.out .i64 .i64 n (by rw [HZ2.out]; omega) (by unfold maxLen; omega) (Nat.zero_le _)
  rw [bools_zero] at O
  have hbm : Below w1.drew.heap.size w1.drew wm := (Below.refl _ _).grown hgr (Nat.le_refl _) (fun k hk => by cases hk)
  obtain ⟨gs, hgs⟩ : ∃ gs, gs = w1.heap.size := ⟨_, rfl⟩
  have hrun2 : (Instr.makeSlice 44 (.int .i64 (n : Int)) (.int .i64 (n : Int))).run Tryd.prog w1.drew = .ok (.slice (some ⟨gs, 0, none⟩) n n) wm := by rw [hgs]; exact hrun
  have O2 : wm.ownsRow 0 4 1 (.slice (some ⟨gs, 0, none⟩) n n) n (List.replicate n (.bool false)) := by rw [hgs]; exact O
  have hgsl := own_lt2 O2
  have hws : w.heap.size ≤ gs := by rw [hgs]; exact q1.size
  have HBG := hide (show w.heap.size + 1 < gs from by rw [hgs]; exact S1.lt)
  have HGm := hide (isG_to hbm G1 rfl)
  have Sm := isS_to hbm S1 rfl
  have Am := bytesAt_to hbm A1 rfl
  have HALm := hide (bytesAt_to hbm AL1 rfl)
  have HALd := hide (show BytesAt w1.drew gl (splitP l).flatten from AL1)
  have qm : Below w.heap.size w wm := below_to hbm q1 q1.size rfl rfl rfl rfl
  have HG1 := hide (show IsG w1.drew w.heap.size (W : Int) (Hh : Int) (.slice (some ⟨g, 0, none⟩) n cap) from G1)
  have HO := hide O2
  have HQ := hide qm
  have HSm := hide Sm
  have HAm := hide Am
  clear hrun O hgr hbm hgs O2 Sm Am qm A1 AL1 S1 q1
  obtain ⟨lg, ⟨k0, k1, k2⟩, -⟩ := G1.all
  go_cut [9] from 11 to 21 (fun pp wx => pp = .pointer (some ⟨wm.heap.size, 0, none⟩) ∧ wx = wm.alloc (.cells #[.int .i64 (W : Int), .int .i64 (Hh : Int), .slice (some ⟨g, 0, none⟩) n cap, .slice (some ⟨gl, 0, none⟩) n capl, .slice (some ⟨gs, 0, none⟩) n n, .int .i64 lf, .string ⟨#[]⟩, .int .i64 0, .int .i64 (M : Int)] 46))
  case first =>
    go_region_held3 (fun w' => w'.cell? ⟨w.heap.size, 0, none⟩ = some (.int .i64 (W : Int)) ∧ w'.cell? ⟨w.heap.size, 1, none⟩ = some (.int .i64 (Hh : Int)) ∧ w'.cell? ⟨w.heap.size, 2, none⟩ = some (.slice (some ⟨g, 0, none⟩) n cap)) (first | (refine ⟨?_, ?_, ?_⟩ <;> with_reducible assumption) | (with_reducible exact HG1.out.all.2.1) | (with_reducible exact HGm.out.all.2.1) | (exact (HGm.out.alloc _).all.2.1))
      (first
        | (go_at_call 21; (refine (HCNT.out _ (by first | (with_reducible exact HALd.out) | (with_reducible exact HALm.out))).mono ?_); rintro e w2 ⟨rfl, rfl⟩))
    all_goals
      go_wp2_with fail
      go_meet
      exact ⟨rfl, rfl⟩
  obtain ⟨rfl, hwc⟩ := hcut
  clear k0 k1 k2 lg G1 hrun2 HG1 HALd HCNT
  obtain ⟨tb, htb⟩ : ∃ tb, tb = wm.heap.size := ⟨_, rfl⟩
  have htl : gs < tb := by rw [htb]; exact hgsl
  have hwt : w.heap.size + 1 < tb := by rw [htb]; exact HSm.out.lt
  have HAT := hide (show AtT wc tb [] 0 from by rw [hwc, htb]; exact ⟨by rw [World.cell?_alloc_mark]; rfl, by rw [World.cell?_alloc_mark]; rfl⟩)
  have G3 := hide (show IsG wc w.heap.size (W : Int) (Hh : Int) (.slice (some ⟨g, 0, none⟩) n cap) from by rw [hwc]; exact HGm.out.alloc _)
  have S3 := hide (show IsS wc (w.heap.size + 1) s 30 from by rw [hwc]; exact HSm.out.alloc _)
  have AL3 := hide (show BytesAt wc gl (splitP l).flatten from by rw [hwc]; exact bytesAt_to ((Below.refl _ _).alloc (Nat.le_refl _) _) HALm.out rfl)
  have Q3 := hide (show Below w.heap.size w wc from by rw [hwc]; exact HQ.out.alloc HQ.out.size _)
  have HSL := hide (show ∀ m : Nat, lf = (m : Int) → SL ⟨W, Hh, n, g, cap, gl, capl, gs, n⟩ tb l wc l m [] 0 M from fun m hm => by
    subst hm
    rw [hwc, htb]
    refine ⟨IsT.new (G := ⟨W, Hh, n, g, cap, gl, capl, gs, n⟩), ?_, bytesAt_to ((Below.refl _ _).alloc (Nat.le_refl _) _) HAm.out rfl, bytesAt_to ((Below.refl _ _).alloc (Nat.le_refl _) _) HALm.out rfl⟩
    rw [seen_self, HFL.out]
    exact HO.out.alloc _)
  rw [← htb]
  clear hwc htb hgsl HGm HALm HO HQ HSm HAm
  obtain ⟨l4, ⟨k0, k1, k2⟩, -⟩ := G3.out.all
  obtain ⟨l6, ⟨a0, a1, a2, a3, a4, a5, a6, a7⟩, -⟩ := S3.out.all
  have v0 := AL3.out.cell c0e
  have hpi : (p : Int) < (n : Int) := by omega
  cases hdg : isDig c0
  · have HD := hide hdg
    have hno : labAtB l s = false := by
      rw [HEV.out]
      unfold labB
      rw [decide_eq_false_iff_not]
      unfold isDig at hdg
      rw [decide_eq_false_iff_not] at hdg
      have := H09.out
      omega
    have HT0 := hide (show toT W l s = [] from by unfold toT; rw [if_neg (by rw [hno]; decide)])
    clear hdg hno
    go_wp2_with (go_at_call 22; refine (prDigit_any c0 _).mono ?_; rintro e w2 ⟨rfl, rfl⟩; rw [HD.out])
    go_returns
    exact ⟨_, rfl, by rw [HT0.out, fstT_nil, List.length_nil, Nat.min_zero]; exact HAT.out, Q3.out⟩
  · have HD := hide hdg
    have hlh : labAtB l s = hitB c0 s.d.t := by
      rw [HEV.out]
      unfold hitB
      unfold isDig at hdg
      rw [decide_eq_true_eq] at hdg
      rw [decide_eq_false (by omega : ¬ (c0.toNat : Int) = 46), Bool.false_or]
    have HLH := hide hlh
    clear hdg hlh
    cases hhb : hitB c0 s.d.t
    · have HT0 := hide (show toT W l s = [] from by unfold toT; rw [if_neg (by rw [HLH.out, hhb]; decide)])
      have HHB := hide hhb
      clear hhb
      go_wp2_with (first
        | (go_at_call 22; refine (prDigit_any c0 _).mono ?_; rintro e w2 ⟨rfl, rfl⟩; rw [HD.out])
        | (go_at_call 23; refine (HPM.out _ AL3.out).mono ?_; rintro e w2 ⟨rfl, hb2⟩; rw [HHB.out]))
      go_returns
      refine ⟨_, rfl, ?_, below_after Q3.out hb2 Q3.out.size⟩
      rw [HT0.out, fstT_nil, List.length_nil, Nat.min_zero]
      have hlt : tb < wc.heap.size := by
        rcases Nat.lt_or_ge tb wc.heap.size with h' | h'
        · exact h'
        · have := HAT.out.1
          simp [World.cell?, Array.getElem?_eq_none h'] at this
      exact ⟨(hb2.cell (p := ⟨tb, 6, none⟩) hlt).trans HAT.out.1, (hb2.cell (p := ⟨tb, 7, none⟩) hlt).trans HAT.out.2⟩
    · have hla : labAtB l s = true := by rw [HLH.out, hhb]
      have HHB := hide hhb
      have hR := RelL.refl HE.out HHL.out
      have hh := (lab_hit hR H09.out.1 H09.out.2 hla).1
      have hcnt := (lab_take HE.out HHL.out H09.out.1 H09.out.2 hla).2.2.1
      obtain ⟨m, hm⟩ : ∃ m, ct = m + 1 := ⟨ct - 1, by rw [HCT.out]; omega⟩
      have hlm : lf = (m : Int) := by rw [HLF.out, hm]; omega
      obtain ⟨x', y', c', c1', e1, e2, -, -, -, -, -, -, -, e3⟩ := hit_cell hR HG.out H09.out.1 H09.out.2 hh
      obtain ⟨hR', hs1, -⟩ := e3 hla
      have hpq : y' * W + x' = p := by
        have h1 := HX.out
        have h2 := HY.out
        have h3 : x' = x := by omega
        have h4 : y' = y := by omega
        rw [h3, h4, HPP.out, HRR.out]
      rw [hpq] at hs1
      have T3 := HSL.out m hlm
      have hsep : Sep ⟨W, Hh, n, g, cap, gl, capl, gs, n⟩ tb := ⟨by show tb ≠ gs; omega, by show g ≠ tb; omega, by show g ≠ gs; omega, by show gl ≠ tb; omega, by show gl ≠ gs; omega⟩
      have HTT := hide (show toT W l s = tourT W m (putC W l s 46) s [] from by unfold toT; rw [if_pos hla, ← HCT.out, hm]; rfl)
      have HLOOK := hide (fun wx => look_any l ⟨W, Hh, n, g, cap, gl, capl, gs, n⟩ HG.out tb M hM.2 hsep m (putC W l s 46) s [] [] 0 wx hR' (by have := HCT.out; omega) HGD.out (by rw [HX.out]; omega) (by rw [HY.out]; omega) (by have := HCT.out; have := H12.out; simp; omega) hM.1)
      have HT3 := hide T3
      have HSEP := hide hsep
      have HS1 := hide hs1
      have HMARK := hide (fun (wx : World) (T : SL ⟨W, Hh, n, g, cap, gl, capl, gs, n⟩ tb l wx l m [] 0 M) => T.mark hsep p hp true hs1)
      have HV := hide (show (seenV l l)[p]? = some (.bool false) from by rw [seen_self, HFL.out]; simp [hp])
      clear hhb hla hR hh hcnt hm hlm e1 e2 e3 hR' hs1 hpq T3 hsep
      go_upto_region 4 with (first
        | (go_at_call 22; refine (prDigit_any c0 _).mono ?_; rintro e w2 ⟨rfl, rfl⟩; rw [HD.out])
        | (go_at_call 23; refine (HPM.out _ AL3.out).mono ?_; rintro e w2 ⟨rfl, hb2⟩; rw [HHB.out]))
      have T4 := HT3.out.to hb2 rfl
      have S4 := isS_to hb2 S3.out rfl
      have q4 := below_after Q3.out hb2 Q3.out.size
      have T5 := HMARK.out _ T4
      try dsimp only at T5
      have HT5 := hide T5
      clear T5
      have HS5 := hide (S4.other (p := ⟨gs, p, none⟩) (by show w.heap.size + 1 ≠ gs; have := HBG.out; omega) (.bool true))
      have HQ5 := hide (q4.setCell (p := ⟨gs, p, none⟩) hws (.bool true))
      obtain ⟨l7, ⟨-, -, -, -, t4, -⟩, -⟩ := T4.t.all
      have v7 := (T4.sn.cellAt p (by show p < n * 1; omega)).trans HV.out
      have fv7 := own_free T4.sn p
      try dsimp only at t4
      try dsimp only at v7
      try dsimp only at fv7
      clear T4 S4 q4 hb2 k0 k1 k2 l4 a0 a1 a2 a3 a4 a5 a6 a7 l6 v0
      go_upto_region 5 with (fail)
      generalize World.setCell _ _ _ = w5 at HT5 HS5 HQ5 ⊢
      clear v7 fv7 t4 l7
      obtain ⟨l6, ⟨a0, a1, a2, a3, a4, a5, a6, a7⟩, -⟩ := HS5.out.all
      go_wp2_with (go_at_call 24; refine (HLOOK.out _ HT5.out).mono ?_; rintro e w6 ⟨rfl, T6, K6⟩)
      go_returns
      refine ⟨_, rfl, ?_, HQ5.out.trans (K6.below (by omega) hws HQ5.out.size)⟩
      rw [HTT.out]
      obtain ⟨-, ⟨-, -, -, -, -, -, z6, z7, -⟩, -⟩ := T6.t.all
      rw [Nat.zero_add] at z7
      exact ⟨z6, z7⟩
end Go.Proofs.YtkknjokacinlaaaDoor
namespace Go.Proofs.YtkknjokacinlaaaDoor
set_option maxRecDepth 100000
set_option linter.all false
open Go.RowKit

/-- Is there a labelled board, a state on it, and not too many labels? -/
def tourB (l : List UInt8) (t : St) : Bool := onL l t && decide (cntD l ≤ 12)
/-- The tours. -/
def tourL (l : List UInt8) (t : St) : List (List UInt8) := if tourB l t = true then toT (width (unlab l)) l t else []
def toS (l : List UInt8) (t : St) : ByteArray := ⟨((tourL l t).headD []).toArray⟩
def toF (l : List UInt8) (t : St) : Bool := decide (0 < (tourL l t).length)
theorem tourL_no {l : List UInt8} {t : St} (h : tourB l t = false) : tourL l t = [] := by unfold tourL; rw [if_neg (by rw [h]; decide)]
theorem toS_no {l : List UInt8} {t : St} (h : tourB l t = false) : toS l t = ⟨#[]⟩ := by unfold toS; rw [tourL_no h]; rfl
theorem toF_no {l : List UInt8} {t : St} (h : tourB l t = false) : toF l t = false := by unfold toF; rw [tourL_no h]; rfl
theorem tourL_len (l : List UInt8) (t : St) : (tourL l t).length ≤ 16777216 := by
  unfold tourL
  split
  · rename_i h
    unfold tourB at h
    rw [Bool.and_eq_true, decide_eq_true_eq] at h
    unfold toT
    split
    · have h1 := tourT_len (width (unlab l)) (cntD l - 1) (putC (width (unlab l)) l t 46) t []
      have h2 : 4 ^ (cntD l - 1) ≤ 4 ^ 12 := Nat.pow_le_pow_right (by omega) (by omega)
      have h3 : (4 : Nat) ^ 12 = 16777216 := rfl
      omega
    · simp
  · simp
set_option maxHeartbeats 1600000 in
theorem specTourOf_bad (s : ByteArray) (t : St) (w : World) (h : isLab s.data.toList = false) : Calls Tryd.prog 6 #[.string s, St.v t] w fun e w' => e = .returned (.tuple #[.string (toS s.data.toList t), .bool (toF s.data.toList t)]) ∧ Below w.heap.size w w' := by
  have H := hide h
  have HB := hide (show tourB s.data.toList t = false from by unfold tourB onL; rw [h]; rfl)
  clear h
  go_enter Tryd.func6, Tryd.ntmps6
  go_wp2_with fail
  refine (prTour_bad s t _ H.out).mono ?_
  rintro e w1 ⟨v, rfl, hb1⟩
  have q0 : Below w.heap.size w w1 := below_after (by go_grown) hb1 (by simp)
  clear hb1
  go_wp2
  go_returns
  exact ⟨by rw [toS_no HB.out, toF_no HB.out]; rfl, q0.alloc q0.size _⟩
set_option maxHeartbeats 1600000 in
theorem specTourOf_off (s : ByteArray) (t : St) (w : World) (h : isLab s.data.toList = true) (h2 : stL (unlab s.data.toList) t = false) : Calls Tryd.prog 6 #[.string s, St.v t] w fun e w' => e = .returned (.tuple #[.string (toS s.data.toList t), .bool (toF s.data.toList t)]) ∧ Below w.heap.size w w' := by
  have H := hide h
  have H2 := hide h2
  have HB := hide (show tourB s.data.toList t = false from by unfold tourB onL; rw [h, h2]; rfl)
  clear h h2
  go_enter Tryd.func6, Tryd.ntmps6
  go_wp2_with fail
  refine (prTour_off s t _ H.out H2.out).mono ?_
  rintro e w1 ⟨W, Hh, n, g, cap, v, rfl, hb1⟩
  have q0 : Below w.heap.size w w1 := below_after (by go_grown) hb1 (by simp)
  clear hb1
  go_wp2
  go_returns
  exact ⟨by rw [toS_no HB.out, toF_no HB.out]; rfl, q0.alloc q0.size _⟩
set_option maxHeartbeats 1600000 in
theorem specTourOf_many (s : ByteArray) (t : St) (w : World) (h : isLab s.data.toList = true) (h2 : stL (unlab s.data.toList) t = true) (h12 : ¬ cntD s.data.toList ≤ 12) : Calls Tryd.prog 6 #[.string s, St.v t] w fun e w' => e = .returned (.tuple #[.string (toS s.data.toList t), .bool (toF s.data.toList t)]) ∧ Below w.heap.size w w' := by
  have H := hide h
  have H2 := hide h2
  have H12 := hide (show decide (cntD s.data.toList ≤ 12) = false from decide_eq_false h12)
  have HB := hide (show tourB s.data.toList t = false from by unfold tourB; rw [decide_eq_false h12, Bool.and_false])
  clear h h2 h12
  go_enter Tryd.func6, Tryd.ntmps6
  go_wp2_with fail
  refine (prTour_in s t _ H.out H2.out).mono ?_
  rintro e w1 ⟨W, Hh, n, g, cap, gl, capl, hG, rfl, hA, hAL, hb1⟩
  rw [H12.out]
  have q0 : Below w.heap.size w w1 := below_after (by go_grown) hb1 (by simp)
  clear hb1 hA hAL hG
  go_wp2
  go_returns
  exact ⟨by rw [toS_no HB.out, toF_no HB.out]; rfl, q0.alloc q0.size _⟩
set_option maxHeartbeats 3200000 in
theorem specTourOf_on (s : ByteArray) (t : St) (w : World) (h : isLab s.data.toList = true) (h2 : stL (unlab s.data.toList) t = true) (h12 : cntD s.data.toList ≤ 12) : Calls Tryd.prog 6 #[.string s, St.v t] w fun e w' => e = .returned (.tuple #[.string (toS s.data.toList t), .bool (toF s.data.toList t)]) ∧ Below w.heap.size w w' := by
  have H := hide h
  have H2 := hide h2
  have H12 := hide h12
  have HD := hide (show decide (cntD s.data.toList ≤ 12) = true from decide_eq_true h12)
  have hB : tourB s.data.toList t = true := by unfold tourB onL; rw [h, h2, decide_eq_true h12]; rfl
  have HB := hide hB
  have HT := hide (show tourL s.data.toList t = toT (width (unlab s.data.toList)) s.data.toList t from by unfold tourL; rw [if_pos hB])
  have hlen := tourL_len s.data.toList t
  clear h h2 h12 hB
  obtain ⟨TT, hTT⟩ : ∃ TT, TT = tourL s.data.toList t := ⟨_, rfl⟩
  have HTT := hide hTT
  rw [← hTT] at hlen HT
  clear hTT
  go_enter Tryd.func6, Tryd.ntmps6
  go_wp2_with fail
  refine (prTour_in s t _ H.out H2.out).mono ?_
  rintro e w1 ⟨W, Hh, n, g, cap, gl, capl, hG, rfl, hA, hAL, hb1⟩
  rw [HD.out]
  have hW : width (unlab s.data.toList) = W := hG.2.1
  rw [hW] at HT
  have q0 : Below w.heap.size w w1 := below_after (by go_grown) hb1 (by simp)
  have q1 := q0.alloc q0.size (.cells #[.int .i64 (W : Int), .int .i64 (Hh : Int), .slice (some ⟨g, 0, none⟩) n cap] 39)
  have S1 := (isS_to hb1 (IsS.new (w := w) (s := t) (ty := 30)) rfl).alloc (.cells #[.int .i64 (W : Int), .int .i64 (Hh : Int), .slice (some ⟨g, 0, none⟩) n cap] 39)
  have G1 := IsG.new (w := w1) (x := (W : Int)) (y := (Hh : Int)) (v := .slice (some ⟨g, 0, none⟩) n cap)
  have A1 : BytesAt (w1.alloc (.cells #[.int .i64 (W : Int), .int .i64 (Hh : Int), .slice (some ⟨g, 0, none⟩) n cap] 39)) g (splitP (unlab s.data.toList)).flatten := bytesAt_to ((Below.refl _ _).alloc (Nat.le_refl _) _) hA rfl
  have AL1 : BytesAt (w1.alloc (.cells #[.int .i64 (W : Int), .int .i64 (Hh : Int), .slice (some ⟨g, 0, none⟩) n cap] 39)) gl (splitP s.data.toList).flatten := bytesAt_to ((Below.refl _ _).alloc (Nat.le_refl _) _) hAL rfl
  have HF := hide (fun (wx : World) => prFrom_any s.data.toList W Hh n g cap gl capl hG t H2.out H12.out 1 (by omega) wx)
  rw [← HT.out] at HF
  clear hb1 hA hAL hG q0 hW
  go_upto_region 4 with (fail)
  generalize w1.alloc (.cells #[.int .i64 (W : Int), .int .i64 (Hh : Int), .slice (some ⟨g, 0, none⟩) n cap] 39) = w2 at q1 S1 G1 A1 AL1 ⊢
  generalize w1.heap.size = B at G1 ⊢
  have HA1 := hide A1
  have HAL1 := hide AL1
  obtain ⟨l0, ⟨a0, a1, a2, a3, a4, a5, a6, a7⟩, -⟩ := S1.all
  obtain ⟨l1, ⟨c0, c1, c2⟩, -⟩ := G1.all
  clear A1 AL1 S1 G1
  by_cases hz : TT.length = 0
  · have hn : TT = [] := List.eq_nil_of_length_eq_zero hz
    have HN := hide hn
    have hc : min 1 TT.length = 0 := by omega
    have HC := hide hc
    clear hz hn hc
    go_upto_region 5 with (go_at_call 14; refine (HF.out _ HA1.out HAL1.out).mono ?_; rintro e w3 ⟨tb, rfl, ⟨t6, t7⟩, hb3⟩)
    rw [HC.out] at t7
    rw [HN.out, fstT_nil] at t6
    have t7' : w3.cell? ⟨tb, 7, none⟩ = some (.int .i64 0) := t7
    have HQ := hide (below_after q1 hb3 q1.size)
    clear t7 hb3 q1 a0 a1 a2 a3 a4 a5 a6 a7 c0 c1 c2 l0 l1
    go_quiet (fail)
    go_wp2
    go_returns
    exact ⟨by unfold toS toF; rw [← HTT.out, HN.out]; rfl, below_n HQ.out⟩
  · have hc : min 1 TT.length = 1 := by omega
    have HC := hide hc
    have HZ := hide (show 0 < TT.length from by omega)
    clear hz hc
    go_upto_region 5 with (go_at_call 14; refine (HF.out _ HA1.out HAL1.out).mono ?_; rintro e w3 ⟨tb, rfl, ⟨t6, t7⟩, hb3⟩)
    rw [HC.out] at t7
    have t7' : w3.cell? ⟨tb, 7, none⟩ = some (.int .i64 1) := t7
    have HQ := hide (below_after q1 hb3 q1.size)
    have HFF := hide (show fstT [] 0 TT = TT.headD [] from by unfold fstT; rw [if_pos rfl])
    rw [HFF.out] at t6
    clear t7 hb3 q1 a0 a1 a2 a3 a4 a5 a6 a7 c0 c1 c2 l0 l1
    go_quiet (fail)
    go_wp2
    go_returns
    exact ⟨by unfold toS toF; rw [← HTT.out, decide_eq_true HZ.out, List.headD_eq_head?_getD]; rfl, below_n HQ.out⟩
theorem specTourOf_any (s : ByteArray) (t : St) (w : World) (_hs : s.size ≤ 1048576) : Calls Tryd.prog 6 #[.string s, St.v t] w fun e w' => e = .returned (.tuple #[.string (toS s.data.toList t), .bool (toF s.data.toList t)]) ∧ Below w.heap.size w w' := by
  cases h : isLab s.data.toList
  · exact specTourOf_bad s t w h
  · cases h2 : stL (unlab s.data.toList) t
    · exact specTourOf_off s t w h h2
    · by_cases h12 : cntD s.data.toList ≤ 12
      · exact specTourOf_on s t w h h2 h12
      · exact specTourOf_many s t w h h2 h12
set_option maxHeartbeats 1600000 in
theorem specCountTours_bad (s : ByteArray) (t : St) (w : World) (h : isLab s.data.toList = false) : Calls Tryd.prog 9 #[.string s, St.v t] w fun e w' => e = .returned (.tuple #[.int .i64 (((tourL s.data.toList t).length : Nat) : Int), .bool (tourB s.data.toList t)]) ∧ Below w.heap.size w w' := by
  have H := hide h
  have HB := hide (show tourB s.data.toList t = false from by unfold tourB onL; rw [h]; rfl)
  clear h
  go_enter Tryd.func9, Tryd.ntmps9
  go_wp2_with fail
  refine (prTour_bad s t _ H.out).mono ?_
  rintro e w1 ⟨v, rfl, hb1⟩
  have q0 : Below w.heap.size w w1 := below_after (by go_grown) hb1 (by simp)
  clear hb1
  go_wp2
  go_returns
  exact ⟨by rw [HB.out, tourL_no HB.out]; rfl, q0.alloc q0.size _⟩
set_option maxHeartbeats 1600000 in
theorem specCountTours_off (s : ByteArray) (t : St) (w : World) (h : isLab s.data.toList = true) (h2 : stL (unlab s.data.toList) t = false) : Calls Tryd.prog 9 #[.string s, St.v t] w fun e w' => e = .returned (.tuple #[.int .i64 (((tourL s.data.toList t).length : Nat) : Int), .bool (tourB s.data.toList t)]) ∧ Below w.heap.size w w' := by
  have H := hide h
  have H2 := hide h2
  have HB := hide (show tourB s.data.toList t = false from by unfold tourB onL; rw [h, h2]; rfl)
  clear h h2
  go_enter Tryd.func9, Tryd.ntmps9
  go_wp2_with fail
  refine (prTour_off s t _ H.out H2.out).mono ?_
  rintro e w1 ⟨W, Hh, n, g, cap, v, rfl, hb1⟩
  have q0 : Below w.heap.size w w1 := below_after (by go_grown) hb1 (by simp)
  clear hb1
  go_wp2
  go_returns
  exact ⟨by rw [HB.out, tourL_no HB.out]; rfl, q0.alloc q0.size _⟩
set_option maxHeartbeats 1600000 in
theorem specCountTours_many (s : ByteArray) (t : St) (w : World) (h : isLab s.data.toList = true) (h2 : stL (unlab s.data.toList) t = true) (h12 : ¬ cntD s.data.toList ≤ 12) : Calls Tryd.prog 9 #[.string s, St.v t] w fun e w' => e = .returned (.tuple #[.int .i64 (((tourL s.data.toList t).length : Nat) : Int), .bool (tourB s.data.toList t)]) ∧ Below w.heap.size w w' := by
  have H := hide h
  have H2 := hide h2
  have H12 := hide (show decide (cntD s.data.toList ≤ 12) = false from decide_eq_false h12)
  have HB := hide (show tourB s.data.toList t = false from by unfold tourB; rw [decide_eq_false h12, Bool.and_false])
  clear h h2 h12
  go_enter Tryd.func9, Tryd.ntmps9
  go_wp2_with fail
  refine (prTour_in s t _ H.out H2.out).mono ?_
  rintro e w1 ⟨W, Hh, n, g, cap, gl, capl, hG, rfl, hA, hAL, hb1⟩
  rw [H12.out]
  have q0 : Below w.heap.size w w1 := below_after (by go_grown) hb1 (by simp)
  clear hb1 hA hAL hG
  go_wp2
  go_returns
  exact ⟨by rw [HB.out, tourL_no HB.out]; rfl, q0.alloc q0.size _⟩
set_option maxHeartbeats 3200000 in
theorem specCountTours_on (s : ByteArray) (t : St) (w : World) (h : isLab s.data.toList = true) (h2 : stL (unlab s.data.toList) t = true) (h12 : cntD s.data.toList ≤ 12) : Calls Tryd.prog 9 #[.string s, St.v t] w fun e w' => e = .returned (.tuple #[.int .i64 (((tourL s.data.toList t).length : Nat) : Int), .bool (tourB s.data.toList t)]) ∧ Below w.heap.size w w' := by
  have H := hide h
  have H2 := hide h2
  have H12 := hide h12
  have HD := hide (show decide (cntD s.data.toList ≤ 12) = true from decide_eq_true h12)
  have hB : tourB s.data.toList t = true := by unfold tourB onL; rw [h, h2, decide_eq_true h12]; rfl
  have HB := hide hB
  have HT := hide (show tourL s.data.toList t = toT (width (unlab s.data.toList)) s.data.toList t from by unfold tourL; rw [if_pos hB])
  have hlen := tourL_len s.data.toList t
  clear h h2 h12 hB
  obtain ⟨TT, hTT⟩ : ∃ TT, TT = tourL s.data.toList t := ⟨_, rfl⟩
  have HTT := hide hTT
  rw [← hTT] at hlen HT
  clear hTT
  go_enter Tryd.func9, Tryd.ntmps9
  go_wp2_with fail
  refine (prTour_in s t _ H.out H2.out).mono ?_
  rintro e w1 ⟨W, Hh, n, g, cap, gl, capl, hG, rfl, hA, hAL, hb1⟩
  rw [HD.out]
  have hW : width (unlab s.data.toList) = W := hG.2.1
  rw [hW] at HT
  have q0 : Below w.heap.size w w1 := below_after (by go_grown) hb1 (by simp)
  have q1 := q0.alloc q0.size (.cells #[.int .i64 (W : Int), .int .i64 (Hh : Int), .slice (some ⟨g, 0, none⟩) n cap] 39)
  have S1 := (isS_to hb1 (IsS.new (w := w) (s := t) (ty := 30)) rfl).alloc (.cells #[.int .i64 (W : Int), .int .i64 (Hh : Int), .slice (some ⟨g, 0, none⟩) n cap] 39)
  have G1 := IsG.new (w := w1) (x := (W : Int)) (y := (Hh : Int)) (v := .slice (some ⟨g, 0, none⟩) n cap)
  have A1 : BytesAt (w1.alloc (.cells #[.int .i64 (W : Int), .int .i64 (Hh : Int), .slice (some ⟨g, 0, none⟩) n cap] 39)) g (splitP (unlab s.data.toList)).flatten := bytesAt_to ((Below.refl _ _).alloc (Nat.le_refl _) _) hA rfl
  have AL1 : BytesAt (w1.alloc (.cells #[.int .i64 (W : Int), .int .i64 (Hh : Int), .slice (some ⟨g, 0, none⟩) n cap] 39)) gl (splitP s.data.toList).flatten := bytesAt_to ((Below.refl _ _).alloc (Nat.le_refl _) _) hAL rfl
  have HF := hide (fun (wx : World) => prFrom_any s.data.toList W Hh n g cap gl capl hG t H2.out H12.out 1073741824 (by omega) wx)
  rw [← HT.out] at HF
  clear hb1 hA hAL hG q0 hW
  go_upto_region 4 with (fail)
  generalize w1.alloc (.cells #[.int .i64 (W : Int), .int .i64 (Hh : Int), .slice (some ⟨g, 0, none⟩) n cap] 39) = w2 at q1 S1 G1 A1 AL1 ⊢
  generalize w1.heap.size = B at G1 ⊢
  have HA1 := hide A1
  have HAL1 := hide AL1
  obtain ⟨l0, ⟨a0, a1, a2, a3, a4, a5, a6, a7⟩, -⟩ := S1.all
  obtain ⟨l1, ⟨c0, c1, c2⟩, -⟩ := G1.all
  clear A1 AL1 S1 G1
  have HC := hide (show min 1073741824 TT.length = TT.length from by omega)
  go_wp2_with (go_at_call 14; refine (HF.out _ HA1.out HAL1.out).mono ?_; rintro e w3 ⟨tb, rfl, ⟨t6, t7⟩, hb3⟩; rw [HC.out] at t7)
  go_returns
  exact ⟨by rw [← HTT.out, HB.out]; rfl, below_after q1 hb3 q1.size⟩
theorem specCountTours_any (s : ByteArray) (t : St) (w : World) (_hs : s.size ≤ 1048576) : Calls Tryd.prog 9 #[.string s, St.v t] w fun e w' => e = .returned (.tuple #[.int .i64 (((tourL s.data.toList t).length : Nat) : Int), .bool (tourB s.data.toList t)]) ∧ Below w.heap.size w w' := by
  cases h : isLab s.data.toList
  · exact specCountTours_bad s t w h
  · cases h2 : stL (unlab s.data.toList) t
    · exact specCountTours_off s t w h h2
    · by_cases h12 : cntD s.data.toList ≤ 12
      · exact specCountTours_on s t w h h2 h12
      · exact specCountTours_many s t w h h2 h12
end Go.Proofs.YtkknjokacinlaaaDoor
namespace Go.Proofs.YtkknjokacinlaaaDoor
set_option maxRecDepth 100000
set_option linter.all false
open Go.RowKit

theorem on_partsT {l : List UInt8} {t : St} (h : onL l t = true) : isLab l = true ∧ stL (unlab l) t = true ∧ floorL (unlab l) t.x t.y = true ∧ goodB t.d = true := by
  unfold onL at h
  rw [Bool.and_eq_true] at h
  exact ⟨h.1, h.2, (st_floor h.2).1, (st_floor h.2).2⟩
theorem tourB_off {l : List UInt8} {t : St} (h : onL l t = false) : tourB l t = false := by unfold tourB; rw [h]; rfl
theorem tourB_many {l : List UInt8} {t : St} (h : ¬ cntD l ≤ 12) : tourB l t = false := by unfold tourB; rw [decide_eq_false h, Bool.and_false]
theorem tourB_yes {l : List UInt8} {t : St} (h : onL l t = true) (h12 : cntD l ≤ 12) : tourB l t = true := by unfold tourB; rw [h, decide_eq_true h12]; rfl
set_option maxHeartbeats 3200000 in
theorem toursFrom_any (s : ByteArray) (t : St) (w : World) (hs : s.size ≤ 1048576) (hg : Glob w) : Calls Tryd.prog 16 #[.string s, St.v t] w fun e w' => ∃ v, e = .returned (.tuple #[v, .bool (tourB s.data.toList t)]) ∧ w'.ownsRow w.heap.size 9 1 v (tourL s.data.toList t).length ((tourL s.data.toList t).map strV) ∧ Below w.heap.size w w' := by
  have HG := hide (show Glob (w.alloc (.cells #[.int .i64 t.x, .int .i64 t.y, .int .i64 t.d.t, .int .i64 t.d.n, .int .i64 t.d.e, .int .i64 t.d.s, .int .i64 t.d.w, .int .i64 t.d.b] 30)) from glob_to (w0 := w) ((Below.refl _ _).alloc (Nat.le_refl _) _) hg rfl)
  have HCN := hide (fun wx => countLabels_any s wx hs)
  have hcl : cntD s.data.toList ≤ 1048576 := by
    unfold cntD
    exact Nat.le_trans List.countP_le_length (by simpa using hs)
  clear hg
  cases hon : onL s.data.toList t
  · have HON := hide hon
    have HB := hide (tourB_off hon)
    clear hon
    generalize hm : cntD s.data.toList = m at hcl HCN
    go_enter Tryd.func16, Tryd.ntmps16
    go_wp2_with fail
    refine (labelsUnder_no s t _ hs HG.out HON.out).mono ?_
    rintro e w1 ⟨rfl, hb1⟩
    have q1 : Below w.heap.size w w1 := below_after (by go_grown) hb1 (by simp)
    clear hb1 hm
    go_wp2_with (go_at_call 26; (refine (HCN.out _).mono ?_); rintro e w2 ⟨rfl, rfl⟩)
    go_returns
    exact ⟨_, by rw [HB.out]; rfl, by rw [tourL_no HB.out]; exact World.ownsRow_nil _ _ _ _, q1⟩
  · have HON := hide hon
    obtain ⟨h1, h2, h3, h4⟩ := on_partsT hon
    obtain ⟨h0, h9⟩ := good_top h4
    have HGD := hide h4
    by_cases h12 : cntD s.data.toList ≤ 12
    · have HB := hide (tourB_yes hon h12)
      have HT := hide (show tourL s.data.toList t = toT (width (unlab s.data.toList)) s.data.toList t from by unfold tourL; rw [if_pos (tourB_yes hon h12)])
      obtain ⟨m, hm⟩ : ∃ m, cntD s.data.toList = m := ⟨_, rfl⟩
      have HM := hide hm
      rw [hm] at h12 hcl HCN
      have h12i : (m : Int) ≤ 12 := by omega
      clear hon h1 h2 h3 h4 hm
      go_enter Tryd.func16, Tryd.ntmps16
      go_wp2_with fail
      refine (labelsUnder_own s t _ hs HG.out HON.out).mono ?_
      rintro e w1 ⟨W, Hh, n, h, g, cap, hGr, rfl, hLA, hgB, hb1⟩
      have u1 := isS_to hb1 (IsS.new (s := t) (ty := 30)) rfl
      have q1 : Below w.heap.size w w1 := below_after (by go_grown) hb1 (by simp)
      have hgB' : w.heap.size ≤ g := by
        have : (w.alloc (.cells #[.int .i64 t.x, .int .i64 t.y, .int .i64 t.d.t, .int .i64 t.d.n, .int .i64 t.d.e, .int .i64 t.d.s, .int .i64 t.d.w, .int .i64 t.d.b] 30)).heap.size = w.heap.size + 1 := by simp
        omega
      obtain ⟨w0, w7, i0, i7, hn⟩ := grid_facts hGr
      obtain ⟨he, hH, hfl⟩ := lab_facts hGr
      have hW : width (unlab s.data.toList) = W := hGr.2.1
      rw [hW] at HT
      have HE := hide he
      have HH := hide hH
      have HLA := hide hLA
      obtain ⟨l1, ⟨c0, c1, c2, c3, c4, c5, c6, c7⟩, -⟩ := u1.all
      have U1 := hide u1
      have Q1 := hide q1
      clear hb1 he hH hfl hLA hGr hn hgB hW u1 q1
      cases hl : labB (cellI (splitP s.data.toList) t.x t.y) t.d.t
      · have hlb : labAtB s.data.toList t = false := hl
        have HZ := hide (show tourL s.data.toList t = [] from by rw [HT.out]; unfold toT; rw [if_neg (by rw [hlb]; simp)])
        have HL := hide hl
        clear hl hlb
        go_wp2_with (first | (go_at_call 26; (refine (HCN.out _).mono ?_); rintro e w2 ⟨rfl, rfl⟩) | (go_at_call 27; (refine (hasItsLabel_any s.data.toList W Hh h g cap HE.out HH.out w7 i7 t h0 h9 _ HLA.out).mono ?_); rintro e w3 ⟨rfl, hb3⟩; rw [HL.out]; have Q3 := hide (below_after Q1.out hb3 Q1.out.size)))
        go_returns
        exact ⟨_, by rw [HB.out]; rfl, by rw [HZ.out]; exact World.ownsRow_nil _ _ _ _, Q3.out⟩
      · have hlb : labAtB s.data.toList t = true := hl
        have HZ := hide (show tourL s.data.toList t = tourT W (m - 1) (putC W s.data.toList t 46) t [] from by rw [HT.out]; unfold toT; rw [if_pos hlb, HM.out])
        have HL := hide hl
        have HLB := hide hlb
        clear hl hlb
        go_wp2_with (first | (go_at_call 26; (refine (HCN.out _).mono ?_); rintro e w2 ⟨rfl, rfl⟩) | (go_at_call 27; (refine (hasItsLabel_any s.data.toList W Hh h g cap HE.out HH.out w7 i7 t h0 h9 _ HLA.out).mono ?_); rintro e w3 ⟨rfl, hb3⟩; rw [HL.out]; have Q3 := hide (below_after Q1.out hb3 Q1.out.size); have U3 := hide (isS_to hb3 U1.out rfl); have L3 := hide (labAt_to hb3 HLA.out rfl); obtain ⟨m1, ⟨d0, d1, d2, d3, d4, d5, d6, d7⟩, -⟩ := U3.out.all; clear hb3) | (go_at_call 28; (refine (walkedTours_any s.data.toList W Hh h g cap m HE.out HH.out ⟨w0, w7⟩ ⟨i0, i7⟩ w.heap.size hgB' t HGD.out HLB.out HM.out h12 _ L3.out Q3.out.size).mono ?_); rintro e w4 ⟨tv, rfl, O4, hb4⟩; have Q4 := hide (Q3.out.trans hb4); have O4' := hide (own_mono O4 (B' := w.heap.size) (by have := Q3.out.size; omega)); clear O4 hb4))
        go_returns
        exact ⟨_, by rw [HB.out]; rfl, by rw [HZ.out]; exact O4'.out, Q4.out⟩
    · have HB := hide (tourB_many (t := t) h12)
      obtain ⟨m, hm⟩ : ∃ m, cntD s.data.toList = m := ⟨_, rfl⟩
      rw [hm] at h12 hcl HCN
      have h12i : (12 : Int) < (m : Int) := by omega
      clear hon h1 h2 h3 h4 hm h12
      go_enter Tryd.func16, Tryd.ntmps16
      go_wp2_with fail
      refine (labelsUnder_own s t _ hs HG.out HON.out).mono ?_
      rintro e w1 ⟨W, Hh, n, h, g, cap, hGr, rfl, hLA, hgB, hb1⟩
      have q1 : Below w.heap.size w w1 := below_after (by go_grown) hb1 (by simp)
      clear hb1 hLA hGr hgB
      go_wp2_with (go_at_call 26; (refine (HCN.out _).mono ?_); rintro e w2 ⟨rfl, rfl⟩)
      go_returns
      exact ⟨_, by rw [HB.out]; rfl, by rw [tourL_no HB.out]; exact World.ownsRow_nil _ _ _ _, q1⟩
set_option maxHeartbeats 1600000 in
theorem implTourOf_any (s : ByteArray) (t : St) (w : World) (hs : s.size ≤ 1048576) (hg : Glob w) : Calls Tryd.prog 8 #[.string s, St.v t] w fun e w' => e = .returned (.tuple #[.string (toS s.data.toList t), .bool (toF s.data.toList t)]) ∧ Below w.heap.size w w' := by
  have hg1 : Glob (w.alloc (.cells #[.int .i64 t.x, .int .i64 t.y, .int .i64 t.d.t, .int .i64 t.d.n, .int .i64 t.d.e, .int .i64 t.d.s, .int .i64 t.d.w, .int .i64 t.d.b] 30)) := glob_to (w0 := w) ((Below.refl _ _).alloc (Nat.le_refl _) _) hg rfl
  have HTF := hide (toursFrom_any s t (w.alloc (.cells #[.int .i64 t.x, .int .i64 t.y, .int .i64 t.d.t, .int .i64 t.d.n, .int .i64 t.d.e, .int .i64 t.d.s, .int .i64 t.d.w, .int .i64 t.d.b] 30)) hs hg1)
  have hlen := tourL_len s.data.toList t
  obtain ⟨TT, hTT⟩ : ∃ TT, TT = tourL s.data.toList t := ⟨_, rfl⟩
  have HS := hide (show toS s.data.toList t = ⟨(TT.headD []).toArray⟩ from by unfold toS; rw [hTT])
  have HF := hide (show toF s.data.toList t = decide (0 < TT.length) from by unfold toF; rw [hTT])
  rw [← hTT] at HTF hlen
  rw [HS.out, HF.out]
  clear hTT hg hg1 HS HF
  go_enter Tryd.func8, Tryd.ntmps8
  go_wp2_with fail
  refine HTF.out.mono ?_
  rintro e w1 ⟨v, rfl, O1, hb1⟩
  have q1 : Below w.heap.size w w1 := below_after (by go_grown) hb1 (by simp)
  clear hb1
  cases TT with
  | nil =>
    rcases own_forms O1 with ⟨rfl, -⟩ | ⟨db, dc, rfl, -, -⟩
    · clear O1
      go_wp2
      go_returns
      exact ⟨rfl, q1⟩
    · clear O1
      go_wp2
      go_returns
      exact ⟨rfl, q1⟩
  | cons u TT =>
    obtain ⟨gb, cb, rfl, -, -⟩ := own_form O1 (by simp)
    have c0 : w1.cell? ⟨gb, 0, none⟩ = some (strV u) := O1.cellAt 0 (by simp)
    obtain ⟨n, hn⟩ : ∃ n, n = (u :: TT).length := ⟨_, rfl⟩
    have hn0 : 0 < n := by rw [hn]; simp
    have HD := hide (show decide (0 < (u :: TT).length) = true from by simp)
    rw [← hn] at hlen ⊢
    have hni : (0 : Int) < (n : Int) := by omega
    have e1 : ((n : Int) == 0) = false := beq_eq_false_iff_ne.2 (by omega)
    have HN := hide hn
    clear O1 hn
    go_wp2
    go_returns
    exact ⟨by rw [HD.out]; rfl, q1⟩
set_option maxHeartbeats 1600000 in
theorem implCountTours_any (s : ByteArray) (t : St) (w : World) (hs : s.size ≤ 1048576) (hg : Glob w) : Calls Tryd.prog 10 #[.string s, St.v t] w fun e w' => e = .returned (.tuple #[.int .i64 (((tourL s.data.toList t).length : Nat) : Int), .bool (tourB s.data.toList t)]) ∧ Below w.heap.size w w' := by
  have hg1 : Glob (w.alloc (.cells #[.int .i64 t.x, .int .i64 t.y, .int .i64 t.d.t, .int .i64 t.d.n, .int .i64 t.d.e, .int .i64 t.d.s, .int .i64 t.d.w, .int .i64 t.d.b] 30)) := glob_to (w0 := w) ((Below.refl _ _).alloc (Nat.le_refl _) _) hg rfl
  have HTF := hide (toursFrom_any s t (w.alloc (.cells #[.int .i64 t.x, .int .i64 t.y, .int .i64 t.d.t, .int .i64 t.d.n, .int .i64 t.d.e, .int .i64 t.d.s, .int .i64 t.d.w, .int .i64 t.d.b] 30)) hs hg1)
  have hlen := tourL_len s.data.toList t
  obtain ⟨L, hL⟩ : ∃ L, L = (tourL s.data.toList t).map strV := ⟨_, rfl⟩
  rw [← hL] at HTF
  generalize (tourL s.data.toList t).length = n at HTF hlen ⊢
  clear hg hg1 hL
  go_enter Tryd.func10, Tryd.ntmps10
  go_wp2_with fail
  refine HTF.out.mono ?_
  rintro e w1 ⟨v, rfl, O1, hb1⟩
  have q1 : Below w.heap.size w w1 := below_after (by go_grown) hb1 (by simp)
  clear hb1
  rcases own_forms O1 with ⟨rfl, rfl⟩ | ⟨db, dc, rfl, -, -⟩
  · clear O1
    go_wp2
    go_returns
    exact ⟨rfl, q1⟩
  · clear O1
    go_wp2
    go_returns
    exact ⟨rfl, q1⟩
set_option maxHeartbeats 3200000 in
theorem walk_TourOf (v : ByteArray) (hv : v.size ≤ maxLen) (t : St) (htx : (Lit.int .i64 t.x).wf = true) (hty : (Lit.int .i64 t.y).wf = true) (w : World) (hg : Glob w) : Calls Tryd.prog 3 #[.string v, St.v t] w fun e w' => e = .returned (.bool true) ∧ Below w.heap.size w w' := by
  have HGL := hide hg
  clear hg
  by_cases h0 : v.size ≤ 1048576
  · have HS0 := hide h0
    go_enter Tryd.func3, Tryd.ntmps3
    go_wp2_with fail
    refine (toState_any t _).mono ?_
    rintro e w1 ⟨rfl, hb1⟩
    have u1 := isS_to hb1 (IsS.new (w := w) (s := t) (ty := 25)) rfl
    have q1 : Below w.heap.size w w1 := below_after (by go_grown) hb1 (by simp)
    clear hb1
    go_wp2_with fail
    refine (specTourOf_any v t _ HS0.out).mono ?_
    rintro e w2 ⟨rfl, hb2⟩
    have u2 := isS_to hb2 u1 rfl
    have q2 := below_to hb2 q1 q1.size rfl rfl rfl rfl
    clear hb2 u1 q1
    generalize hz0 : toS v.data.toList t = z0
    have HZ0 := hide hz0
    clear hz0
    generalize hz1 : toF v.data.toList t = z1
    have HZ1 := hide hz1
    clear hz1
    obtain ⟨l1, ⟨c0, c1, c2, c3, c4, c5, c6, c7⟩, -⟩ := u2.all
    go_wp2_with fail
    clear c0 c1 c2 c3 c4 c5 c6 c7 l1
    refine (toState_any t _).mono ?_
    rintro e w3 ⟨rfl, hb3⟩
    have q3 := below_to hb3 q2 q2.size rfl rfl rfl rfl
    have hg3 := hide (show Glob w3 from by
      have hl := HGL.out.lt
      obtain ⟨m, hm⟩ := HGL.out
      exact ⟨m, (q3.cell (p := ⟨1, 0, none⟩) hl).trans hm⟩)
    clear hb3 u2 q2
    go_wp2_with fail
    refine (implTourOf_any v t _ HS0.out hg3.out).mono ?_
    rintro e w4 ⟨rfl, hb4⟩
    rw [HZ0.out, HZ1.out]
    have q4 := below_to hb4 q3 q3.size rfl rfl rfl rfl
    have e0 : (z0.toList != z0.toList) = false := by simp
    have e1 : (z1 != z1) = false := by simp
    go_wp2
    go_returns
    exact ⟨rfl, q4⟩
  · go_enter Tryd.func3, Tryd.ntmps3
    go_wp2
    go_returns
    exact ⟨rfl, by go_grown⟩
set_option maxHeartbeats 3200000 in
theorem walk_CountTours (v : ByteArray) (hv : v.size ≤ maxLen) (t : St) (htx : (Lit.int .i64 t.x).wf = true) (hty : (Lit.int .i64 t.y).wf = true) (w : World) (hg : Glob w) : Calls Tryd.prog 4 #[.string v, St.v t] w fun e w' => e = .returned (.bool true) ∧ Below w.heap.size w w' := by
  have HGL := hide hg
  clear hg
  by_cases h0 : v.size ≤ 1048576
  · have HS0 := hide h0
    go_enter Tryd.func4, Tryd.ntmps4
    go_wp2_with fail
    refine (toState_any t _).mono ?_
    rintro e w1 ⟨rfl, hb1⟩
    have u1 := isS_to hb1 (IsS.new (w := w) (s := t) (ty := 25)) rfl
    have q1 : Below w.heap.size w w1 := below_after (by go_grown) hb1 (by simp)
    clear hb1
    go_wp2_with fail
    refine (specCountTours_any v t _ HS0.out).mono ?_
    rintro e w2 ⟨rfl, hb2⟩
    have u2 := isS_to hb2 u1 rfl
    have q2 := below_to hb2 q1 q1.size rfl rfl rfl rfl
    clear hb2 u1 q1
    generalize hz0 : (((tourL v.data.toList t).length : Nat) : Int) = z0
    have HZ0 := hide hz0
    clear hz0
    generalize hz1 : tourB v.data.toList t = z1
    have HZ1 := hide hz1
    clear hz1
    obtain ⟨l1, ⟨c0, c1, c2, c3, c4, c5, c6, c7⟩, -⟩ := u2.all
    go_wp2_with fail
    clear c0 c1 c2 c3 c4 c5 c6 c7 l1
    refine (toState_any t _).mono ?_
    rintro e w3 ⟨rfl, hb3⟩
    have q3 := below_to hb3 q2 q2.size rfl rfl rfl rfl
    have hg3 := hide (show Glob w3 from by
      have hl := HGL.out.lt
      obtain ⟨m, hm⟩ := HGL.out
      exact ⟨m, (q3.cell (p := ⟨1, 0, none⟩) hl).trans hm⟩)
    clear hb3 u2 q2
    go_wp2_with fail
    refine (implCountTours_any v t _ HS0.out hg3.out).mono ?_
    rintro e w4 ⟨rfl, hb4⟩
    rw [HZ0.out, HZ1.out]
    have q4 := below_to hb4 q3 q3.size rfl rfl rfl rfl
    have e0 : (z0 != z0) = false := by simp
    have e1 : (z1 != z1) = false := by simp
    go_wp2
    go_returns
    exact ⟨rfl, q4⟩
  · go_enter Tryd.func4, Tryd.ntmps4
    go_wp2
    go_returns
    exact ⟨rfl, by go_grown⟩
end Go.Proofs.YtkknjokacinlaaaDoor
