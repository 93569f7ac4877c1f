/- The contracts of the model's labelled boards: prMatch, prAsked. -/
import Derived.Test.YtnpnhnkpnhcebaaDoorPrRead
import Derived.Test.YtnpnhnkpnhcebaaDoorAsk
import Derived.Test.YtnpnhnkpnhcebaaDoorMatchI
namespace Go.Proofs.YtnpnhnkpnhcebaaDoor
set_option maxRecDepth 100000
set_option linter.all false
open Go.RowKit

theorem lab_facts {L : List UInt8} {W H n : Nat} (h : GridOk (unlab L) W H n) : Even L W ∧ (splitP L).length = H ∧ (splitP L).flatten.length = n := by
  obtain ⟨h1, h2, h3, h4⟩ := h
  refine ⟨?_, by rw [← h3, rows_unlab], by rw [← h4, flat_unlab, unlab_len]⟩
  have := bd_even h1
  rw [h2] at this
  exact even_unlab.1 this
/-- Does this face match a sign, as the model asks? -/
def prB (c : UInt8) (t : Int) : Bool := !isDig c || decide ((c.toNat : Int) - 48 = t)
theorem prB_hit {c : UInt8} (t : Int) (h : unl c = 46) : prB c t = hitB c t := by
  unfold prB hitB labB
  cases hd : isDig c
  · rw [unl_no hd] at h
    subst h
    simp
  · have h2 := hd
    unfold isDig at h2
    rw [decide_eq_true_eq] at h2
    rw [Bool.eq_iff_iff]
    simp
    omega
/-- The sign of a cell that is floor under its label. -/
theorem floor_unl {L : List UInt8} {x y : Int} (h : floorL (unlab L) x y = true) : unl (cellI (splitP L) x y) = 46 := by
  unfold floorL at h
  rw [decide_eq_true_eq, cellI_unlab] at h
  apply UInt8.toNat_inj.1
  have : (unl (cellI (splitP L) x y)).toNat = 46 := by omega
  rw [this]; rfl
theorem floor_in {l : List UInt8} {W H n : Nat} (hg : GridOk l W H n) {x y : Int} (h : floorL l x y = true) : ∃ j k : Nat, x = (j : Int) ∧ y = (k : Int) ∧ j < W ∧ k < H := by
  have hi : inL l x y = true := by
    cases hin : inL l x y
    · have := cellI_out hg.1 hin
      unfold floorL at h
      rw [this] at h
      exact absurd h (by decide)
    · rfl
  rw [inL_eq hg, Bool.and_eq_true, decide_eq_true_eq, decide_eq_true_eq] at hi
  obtain ⟨⟨x0, x1⟩, y0, y1⟩ := hi
  exact ⟨x.toNat, y.toNat, by omega, by omega, by omega, by omega⟩
theorem u8_sub {c : UInt8} (h : isDig c = true) : IntKind.u8.wrap ((c.toNat : Int) - 48) = (c.toNat : Int) - 48 ∧ IntKind.i64.wrap ((c.toNat : Int) - 48) = (c.toNat : Int) - 48 := by
  unfold isDig at h
  rw [decide_eq_true_eq] at h
  constructor
  · simp [IntKind.wrap, IntKind.signed, IntKind.bits]; omega
  · exact IntWalk.i64_in _ (by omega)
set_option maxHeartbeats 1600000 in
theorem prMatch_any (L : List UInt8) (W H n g cap g2 cap2 : Nat) (hg : GridOk (unlab L) W H n) (s : St) (hf : floorL (unlab L) s.x s.y = true) (w : World) (hA : BytesAt w g2 (splitP L).flatten) :
    Calls Tryd.prog 28 #[gridV W H n g cap, .slice (some ⟨g2, 0, none⟩) n cap2, St.v s] w fun e w' => e = .returned (.bool (hitB (cellI (splitP L) s.x s.y) s.d.t)) ∧ Below w.heap.size w w' := by
  obtain ⟨w0, w7, h0, h7, hn⟩ := grid_facts hg
  obtain ⟨he, hH, hfl⟩ := lab_facts hg
  obtain ⟨j, k, hx, hy, hj, hk⟩ := floor_in hg hf
  have HP := hide (prB_hit s.d.t (floor_unl hf))
  obtain ⟨sx, sy, d⟩ := s
  simp only at hx hy hf HP ⊢
  subst hx
  subst hy
  have hcell := cellI_flat he (k := k) (j := j) (by omega) hj
  obtain ⟨c, hc⟩ : ∃ c, c = cellI (splitP L) (j : Int) (k : Int) := ⟨_, rfl⟩
  rw [← hc] at hcell HP ⊢
  have hpk : k * W ≤ 6 * 7 := Nat.mul_le_mul (by omega) w7
  have hlt := (List.getElem?_eq_some_iff.1 hcell).1
  rw [hfl] at hlt
  have c9 := hA.cell hcell
  generalize hp : k * W = p at hpk hlt c9
  have hp2 : (k : Int) * (W : Int) = (p : Int) := by rw [← hp]; simp
  have hp3 : IntKind.i64.wrap (p : Int) = (p : Int) := IntWalk.i64_in _ (by omega)
  generalize hq : p + j = q at hlt c9
  have hq2 : (p : Int) + (j : Int) = (q : Int) := by omega
  have hq3 : IntKind.i64.wrap (q : Int) = (q : Int) := IntWalk.i64_in _ (by omega)
  have hq4 : IntKind.i64.wrap ((p : Int) + (j : Int)) = (q : Int) := by rw [hq2]; exact hq3
  have hql : (q : Int) < (n : Int) := by omega
  have hq100 : q ≤ 100 := by omega
  have hlt2 := hA.lt
  have c8 : ((w.alloc (.cells #[.int .i64 (W : Int), .int .i64 (H : Int), .slice (some ⟨g, 0, none⟩) n cap] 38)).alloc (.cells #[.int .i64 (j : Int), .int .i64 (k : Int), .int .i64 d.t, .int .i64 d.n, .int .i64 d.e, .int .i64 d.s, .int .i64 d.w, .int .i64 d.b] 33)).cell? ⟨g2, q, none⟩ = some (.int .u8 (c.toNat : Int)) := by
    rw [(show Below w.heap.size w _ from by go_grown : Below w.heap.size w ((w.alloc (.cells #[.int .i64 (W : Int), .int .i64 (H : Int), .slice (some ⟨g, 0, none⟩) n cap] 38)).alloc (.cells #[.int .i64 (j : Int), .int .i64 (k : Int), .int .i64 d.t, .int .i64 d.n, .int .i64 d.e, .int .i64 d.s, .int .i64 d.w, .int .i64 d.b] 33))).cell (p := ⟨g2, q, none⟩) hlt2]
    exact c9
  have q0 : Below w.heap.size w ((w.alloc (.cells #[.int .i64 (W : Int), .int .i64 (H : Int), .slice (some ⟨g, 0, none⟩) n cap] 38)).alloc (.cells #[.int .i64 (j : Int), .int .i64 (k : Int), .int .i64 d.t, .int .i64 d.n, .int .i64 d.e, .int .i64 d.s, .int .i64 d.w, .int .i64 d.b] 33)) := by go_grown
  have G0 := (IsG.new (w := w) (x := (W : Int)) (y := (H : Int)) (v := .slice (some ⟨g, 0, none⟩) n cap)).alloc (.cells #[.int .i64 (j : Int), .int .i64 (k : Int), .int .i64 d.t, .int .i64 d.n, .int .i64 d.e, .int .i64 d.s, .int .i64 d.w, .int .i64 d.b] 33)
  have S0 := IsS.new2 (w := w) (o := (.cells #[.int .i64 (W : Int), .int .i64 (H : Int), .slice (some ⟨g, 0, none⟩) n cap] 38)) (s := ⟨(j : Int), (k : Int), d⟩) (ty := 33)
  obtain ⟨l0, ⟨a0, a1, a2⟩, -⟩ := G0.all
  obtain ⟨l1, ⟨b0, b1, b2, b3, b4, b5, b6, b7⟩, -⟩ := S0.all
  simp only at b0 b1 b2 b3 b4 b5 b6 b7
  clear hg he hH hfl hf hcell hc hA hp hq c9 hlt hlt2 G0 S0 hn hq2
  cases hd : isDig c
  · have HD := hide hd
    have HR := hide (show hitB c d.t = true from by rw [← HP.out]; unfold prB; rw [hd]; rfl)
    clear hd
    rw [HR.out]
    go_enter Tryd.func28, Tryd.ntmps28
    go_wp2_with (go_at_call 36; refine (prDigit_any c _).mono ?_; rintro e w2 ⟨rfl, rfl⟩; rw [HD.out])
    go_returns
    exact ⟨rfl, q0⟩
  · have HD := hide hd
    obtain ⟨u1, u2⟩ := u8_sub hd
    have HR := hide (show hitB c d.t = decide ((c.toNat : Int) - 48 = d.t) from by rw [← HP.out]; unfold prB; rw [hd]; rfl)
    have HE := hide (show ((((c.toNat : Nat) : Int) - 48) % 256 == d.t) = decide ((c.toNat : Int) - 48 = d.t) from by
      have h2 := hd
      unfold isDig at h2
      rw [decide_eq_true_eq] at h2
      rw [show (((c.toNat : Nat) : Int) - 48) % 256 = (c.toNat : Int) - 48 from by omega, Bool.eq_iff_iff]
      simp)
    rw [HR.out]
    clear hd u1 u2
    go_enter Tryd.func28, Tryd.ntmps28
    go_wp2_with (go_at_call 36; refine (prDigit_any c _).mono ?_; rintro e w2 ⟨rfl, rfl⟩; rw [HD.out])
    go_returns
    exact ⟨ret_bool HE.out, q0⟩

set_option maxHeartbeats 800000 in
theorem prAsked_bad (s : ByteArray) (t : St) (w : World) (h : isLab s.data.toList = false) : Calls Tryd.prog 27 #[.string s, St.v t] w fun e w' => ∃ v, e = .returned (.tuple #[.agg #[.int .i64 0, .int .i64 0, .slice none 0 0], v, .bool false]) ∧ Below w.heap.size w w' := by
  have H := hide h
  clear h
  go_enter Tryd.func27, Tryd.ntmps27
  go_wp2_with fail
  refine (prRead_no s _ H.out).mono ?_
  rintro e w1 ⟨lv, rfl, hb1⟩
  have R0 := isG_to hb1 (IsG.new (w := w.alloc (.cells #[.int .i64 t.x, .int .i64 t.y, .int .i64 t.d.t, .int .i64 t.d.n, .int .i64 t.d.e, .int .i64 t.d.s, .int .i64 t.d.w, .int .i64 t.d.b] 33)) (x := 0) (y := 0) (v := .slice none 0 0)) rfl
  have q0 : Below w.heap.size w w1 := below_after (by go_grown) hb1 (by simp; omega)
  simp only [World.size_alloc] at R0
  have R1 := R0.alloc (.cells #[.int .i64 0, .int .i64 0, .slice none 0 0] 38)
  have G1 := IsG.new (w := w1) (x := 0) (y := 0) (v := .slice none 0 0)
  have q1 := q0.alloc q0.size (.cells #[.int .i64 0, .int .i64 0, .slice none 0 0] 38)
  have hz := R0.lt
  clear hb1 q0 R0
  go_wp2_with fail
  generalize hB : w1.heap.size = B at G1 hz ⊢
  generalize w1.alloc (.cells #[.int .i64 0, .int .i64 0, .slice none 0 0] 38) = W1 at R1 G1 q1 ⊢
  clear hB
  obtain ⟨l1, ⟨c0, c1, c2⟩, f0, f1, f2⟩ := R1.all
  obtain ⟨l2, ⟨d0, d1, d2⟩, -⟩ := G1.all
  first | go_region_with (fail) | fail "region"
  all_goals
    go_wp2
    refine bodyPost_ret (ret_grid3 Tryd.results27 rfl rfl rfl (R1.set3 0 0 (.slice none 0 0))) rfl ⟨_, rfl, ?_⟩
    exact (below_set3 (b := w.heap.size + 1) q1 (Nat.le_succ _) _ _ _).drew


set_option maxHeartbeats 1600000 in
theorem prAsked_in (s : ByteArray) (t : St) (w : World) (h : isLab s.data.toList = true) : Calls Tryd.prog 27 #[.string s, St.v t] w fun e w' => ∃ W H n g cap g2 cap2, GridOk (unlab s.data.toList) W H n ∧ e = .returned (.tuple #[gridV W H n g cap, .slice (some ⟨g2, 0, none⟩) n cap2, .bool (stL (unlab s.data.toList) t)]) ∧ BytesAt w' g (splitP (unlab s.data.toList)).flatten ∧ n ≤ cap ∧ BytesAt w' g2 (splitP s.data.toList).flatten ∧ Below w.heap.size w w' := by
  have H := hide h
  clear h
  generalize hst : stL (unlab s.data.toList) t = st
  have HST := hide hst
  clear hst
  go_enter Tryd.func27, Tryd.ntmps27
  go_wp2_with fail
  refine (prRead_yes s _ H.out).mono ?_
  rintro e w1 ⟨W, Hh, n, g, cap, gl, capl, hG, rfl, hA, hcp, hAL, hb1⟩
  have HCP := hide hcp
  clear hcp
  have R0 := isG_to hb1 (IsG.new (w := w.alloc (.cells #[.int .i64 t.x, .int .i64 t.y, .int .i64 t.d.t, .int .i64 t.d.n, .int .i64 t.d.e, .int .i64 t.d.s, .int .i64 t.d.w, .int .i64 t.d.b] 33)) (x := 0) (y := 0) (v := .slice none 0 0)) rfl
  have S0 := isS_to hb1 ((IsS.new (w := w) (s := t) (ty := 33)).alloc (.cells #[.int .i64 0, .int .i64 0, .slice none 0 0] 38)) rfl
  have q0 : Below w.heap.size w w1 := below_after (by go_grown) hb1 (by simp; omega)
  simp only [World.size_alloc] at R0
  have R1 := R0.alloc (.cells #[.int .i64 (W : Int), .int .i64 (Hh : Int), .slice (some ⟨g, 0, none⟩) n cap] 38)
  have S1 := S0.alloc (.cells #[.int .i64 (W : Int), .int .i64 (Hh : Int), .slice (some ⟨g, 0, none⟩) n cap] 38)
  have G1 := IsG.new (w := w1) (x := (W : Int)) (y := (Hh : Int)) (v := .slice (some ⟨g, 0, none⟩) n cap)
  have A1 : BytesAt (w1.alloc (.cells #[.int .i64 (W : Int), .int .i64 (Hh : Int), .slice (some ⟨g, 0, none⟩) n cap] 38)) g (splitP (unlab s.data.toList)).flatten := bytesAt_to ((Below.refl _ _).alloc (Nat.le_refl _) _) hA rfl
  have A1L : BytesAt (w1.alloc (.cells #[.int .i64 (W : Int), .int .i64 (Hh : Int), .slice (some ⟨g, 0, none⟩) n cap] 38)) gl (splitP s.data.toList).flatten := bytesAt_to ((Below.refl _ _).alloc (Nat.le_refl _) _) hAL rfl
  have q1 := q0.alloc q0.size (.cells #[.int .i64 (W : Int), .int .i64 (Hh : Int), .slice (some ⟨g, 0, none⟩) n cap] 38)
  have HG := hide hG
  have hz := R0.lt
  clear hb1 q0 R0 S0 hA hAL hG
  go_wp2_with fail
  generalize hB : w1.heap.size = B at G1 hz ⊢
  generalize w1.alloc (.cells #[.int .i64 (W : Int), .int .i64 (Hh : Int), .slice (some ⟨g, 0, none⟩) n cap] 38) = W1 at R1 S1 G1 A1 A1L q1 ⊢
  clear hB
  have HA := hide (show BytesAt W1.drew g (splitP (unlab s.data.toList)).flatten from A1)
  have HAL := hide (show BytesAt W1.drew gl (splitP s.data.toList).flatten from A1L)
  clear A1 A1L
  obtain ⟨l0, ⟨a0, a1, a2, a3, a4, a5, a6, a7⟩, -⟩ := S1.all
  obtain ⟨l1, ⟨c0, c1, c2⟩, f0, f1, f2⟩ := R1.all
  obtain ⟨l2, ⟨d0, d1, d2⟩, -⟩ := G1.all
  go_region_held3 (fun w' => w'.cell? ⟨B, 0, none⟩ = some (.int .i64 (W : Int)) ∧ w'.cell? ⟨B, 1, none⟩ = some (.int .i64 (Hh : Int)) ∧ w'.cell? ⟨B, 2, none⟩ = some (.slice (some ⟨g, 0, none⟩) n cap) ∧ w'.cell? ⟨w.heap.size, 0, none⟩ = some (.int .i64 t.x) ∧ w'.cell? ⟨w.heap.size, 1, none⟩ = some (.int .i64 t.y) ∧ w'.cell? ⟨w.heap.size, 2, none⟩ = some (.int .i64 t.d.t) ∧ w'.cell? ⟨w.heap.size, 3, none⟩ = some (.int .i64 t.d.n) ∧ w'.cell? ⟨w.heap.size, 4, none⟩ = some (.int .i64 t.d.e) ∧ w'.cell? ⟨w.heap.size, 5, none⟩ = some (.int .i64 t.d.s) ∧ w'.cell? ⟨w.heap.size, 6, none⟩ = some (.int .i64 t.d.w) ∧ w'.cell? ⟨w.heap.size, 7, none⟩ = some (.int .i64 t.d.b)) (first | (refine ⟨?_, ?_, ?_, ?_, ?_, ?_, ?_, ?_, ?_, ?_, ?_⟩ <;> assumption) | (simp [go_sem, World.cell?_alloc_past]; done) | (refine ⟨?_, ?_, ?_, ?_, ?_, ?_, ?_, ?_, ?_, ?_, ?_⟩ <;> (rw [cell_set3 (by omega)]; assumption)))
    (first
      | (go_at_call 38; (refine (boState_any (unlab s.data.toList) W Hh n HG.out g cap t _ HA.out).mono ?_); rintro e w2 ⟨rfl, hb2⟩; rw [HST.out]; have S2 := isS_to hb2 S1 rfl; have R2 := isG_to hb2 R1 rfl; have G2 := isG_to hb2 G1 rfl; have A2 := hide (bytesAt_to hb2 HA.out rfl); have A2L := hide (bytesAt_to hb2 HAL.out rfl); have Q2 := below_to hb2 q1 q1.size rfl rfl rfl rfl; obtain ⟨m0, ⟨b0, b1, b2, b3, b4, b5, b6, b7⟩, -⟩ := S2.all; obtain ⟨m1, ⟨x0, x1, x2⟩, g0, g1, g2⟩ := R2.all; obtain ⟨m2, ⟨y0, y1, y2⟩, -⟩ := G2.all; clear hb2))
  go_wp2
  have hg1 := grid_ne_bytes R2 A2.out
  have hg2 := grid_ne_bytes R2 A2L.out
  refine bodyPost_ret (ret_grid3 Tryd.results27 rfl rfl rfl (R2.set3 (W : Int) (Hh : Int) (.slice (some ⟨g, 0, none⟩) n cap))) rfl ⟨W, Hh, n, g, cap, gl, capl, HG.out, rfl, A2.out.other3 hg1 _ _ _, HCP.out, A2L.out.other3 hg2 _ _ _, ?_⟩
  exact below_set3 Q2 (by simp) _ _ _

end Go.Proofs.YtnpnhnkpnhcebaaDoor
