/- Dice together: the model's AreDice and myAsked. Dice together: the program's areTogether, rowsUnderDice, AreDice. The sum of dice: the contracts of SumOfDice in the program and in the model. -/
import Derived.Test.YtdndegonpdakkaaDoorTogS
import Derived.Test.YtdndegonpdakkaaDoorTogI
namespace Go.Proofs.YtdndegonpdakkaaDoor
set_option maxRecDepth 100000
set_option linter.all false
open Go.RowKit

set_option maxHeartbeats 800000 in
theorem specAD_no (s : ByteArray) (gd : Nat) (L : List St) (n : Nat) (w : World) (hs : s.size ≤ 1048576) (h : isBd s.data.toList = false) : Calls Tryd.prog 11 #[.string s, .slice (some ⟨gd, 0, none⟩) n n] w fun e w' => e = .returned (.tuple #[.bool false, .bool false]) ∧ Below w.heap.size w w' := by
  have H := hide h
  clear h
  go_enter Tryd.func11, Tryd.ntmps11
  go_wp2_with fail
  refine (boRead_no s _ hs H.out).mono ?_
  rintro e w1 ⟨rfl, hb1⟩
  have q1 := hb1.alloc hb1.size (.cells #[.int .i64 0, .int .i64 0, .slice none 0 0] 50)
  go_wp2
  go_returns
  exact ⟨rfl, q1⟩
set_option maxHeartbeats 800000 in
theorem specAD_yes (s : ByteArray) (gd : Nat) (L : List St) (n : Nat) (hN : n = L.length) (w : World) (hs : s.size ≤ 1048576) (hD : StAt w gd 0 L) (h : isBd s.data.toList = true) : Calls Tryd.prog 11 #[.string s, .slice (some ⟨gd, 0, none⟩) n n] w fun e w' => e = .returned (.tuple #[.bool (tog s.data.toList L), .bool true]) ∧ Below w.heap.size w w' := by
  have H := hide h
  have HD := hide hD
  have HN := hide hN
  clear h hD hN
  go_enter Tryd.func11, Tryd.ntmps11
  go_wp2_with fail
  refine (boRead_yes s _ hs H.out).mono ?_
  rintro e w1 ⟨W, Hh, m, g, cap, hG, rfl, hA, hb1⟩
  have G1 := IsG.new (w := w1) (x := (W : Int)) (y := (Hh : Int)) (v := .slice (some ⟨g, 0, none⟩) m cap)
  have q1 := hb1.alloc hb1.size (.cells #[.int .i64 (W : Int), .int .i64 (Hh : Int), .slice (some ⟨g, 0, none⟩) m cap] 50)
  have A1 : BytesAt (w1.alloc (.cells #[.int .i64 (W : Int), .int .i64 (Hh : Int), .slice (some ⟨g, 0, none⟩) m cap] 50)) g (splitP s.data.toList).flatten := bytesAt_to (w0 := w1) ((Below.refl _ _).alloc (Nat.le_refl _) _) hA rfl
  have D1 := stAt_to (w0 := w) q1 HD.out rfl
  have HG := hide hG
  obtain ⟨l0, ⟨c0, c1, c2⟩, -⟩ := G1.all
  clear hb1 hA hG
  go_wp2_with fail
  refine (myGood_any s.data.toList W Hh m HG.out g cap gd L n HN.out _ A1 D1).mono ?_
  rintro e w2 ⟨rfl, hb2⟩
  have q2 := below_to hb2 q1 q1.size rfl rfl rfl rfl
  generalize hz : tog s.data.toList L = z
  have HZ := hide hz
  clear hz hb2
  go_wp2
  go_returns
  exact ⟨by rw [HZ.out]; rfl, q2⟩
/-- What AreDice says. -/
def adB (l : List UInt8) (L : List St) : Bool := isBd l && tog l L
theorem specAD_any (s : ByteArray) (gd : Nat) (L : List St) (n : Nat) (hN : n = L.length) (w : World) (hs : s.size ≤ 1048576) (hD : StAt w gd 0 L) : Calls Tryd.prog 11 #[.string s, .slice (some ⟨gd, 0, none⟩) n n] w fun e w' => e = .returned (.tuple #[.bool (adB s.data.toList L), .bool (isBd s.data.toList)]) ∧ Below w.heap.size w w' := by
  unfold adB
  cases h : isBd s.data.toList
  · exact specAD_no s gd L n w hs h
  · exact specAD_yes s gd L n hN w hs hD h

set_option maxHeartbeats 800000 in
theorem myAsked_bad (s : ByteArray) (v : Value) (w : World) (hs : s.size ≤ 1048576) (h : isBd s.data.toList = false) : Calls Tryd.prog 41 #[.string s, v] w fun e w' => e = .returned (.tuple #[.agg #[.int .i64 0, .int .i64 0, .slice none 0 0], .bool false]) ∧ Below w.heap.size w w' := by
  have H := hide h
  clear h
  go_enter Tryd.func41, Tryd.ntmps41
  go_wp2_with fail
  refine (boRead_no s _ hs H.out).mono ?_
  rintro e w1 ⟨rfl, hb1⟩
  have R0 := isG_to hb1 (IsG.new (w := w) (x := 0) (y := 0) (v := .slice none 0 0)) rfl
  have q0 : Below w.heap.size w w1 := below_after (by go_grown) hb1 (by simp)
  have R1 := R0.alloc (.cells #[.int .i64 0, .int .i64 0, .slice none 0 0] 50)
  have G1 := IsG.new (w := w1) (x := 0) (y := 0) (v := .slice none 0 0)
  have q1 := q0.alloc q0.size (.cells #[.int .i64 0, .int .i64 0, .slice none 0 0] 50)
  have hz := R0.lt
  clear hb1 q0 R0
  go_wp2_with fail
  generalize hB : w1.heap.size = B at G1 hz ⊢
  generalize w1.alloc (.cells #[.int .i64 0, .int .i64 0, .slice none 0 0] 50) = W1 at R1 G1 q1 ⊢
  clear hB
  obtain ⟨l1, ⟨c0, c1, c2⟩, f0, f1, f2⟩ := R1.all
  obtain ⟨l2, ⟨d0, d1, d2⟩, -⟩ := G1.all
  first | go_region_with (fail) | fail "region"
  all_goals
    go_wp2
    refine bodyPost_ret (ret_grid2 Tryd.results41 rfl rfl (R1.set3 0 0 (.slice none 0 0))) rfl ⟨rfl, ?_⟩
    exact (below_set3 (b := w.heap.size) q1 (Nat.le_refl _) _ _ _).drew

set_option maxHeartbeats 1600000 in
theorem myAsked_in (s : ByteArray) (gd : Nat) (L : List St) (nd : Nat) (hN : nd = L.length) (w : World) (hs : s.size ≤ 1048576) (hD : StAt w gd 0 L) (h : isBd s.data.toList = true) : Calls Tryd.prog 41 #[.string s, .slice (some ⟨gd, 0, none⟩) nd nd] w fun e w' => ∃ W H n g cap, GridOk s.data.toList W H n ∧ e = .returned (.tuple #[gridV W H n g cap, .bool (tog s.data.toList L)]) ∧ BytesAt w' g (splitP s.data.toList).flatten ∧ Below w.heap.size w w' := by
  have H := hide h
  have HN := hide hN
  have HD := hide hD
  clear h hN hD
  generalize hst : tog s.data.toList L = st
  have HST := hide hst
  clear hst
  go_enter Tryd.func41, Tryd.ntmps41
  go_wp2_with fail
  refine (boRead_yes s _ hs H.out).mono ?_
  rintro e w1 ⟨W, Hh, n, g, cap, hG, rfl, hA, hb1⟩
  have R0 := isG_to hb1 (IsG.new (w := w) (x := 0) (y := 0) (v := .slice none 0 0)) rfl
  have q0 : Below w.heap.size w w1 := below_after (by go_grown) hb1 (by simp)
  have R1 := R0.alloc (.cells #[.int .i64 (W : Int), .int .i64 (Hh : Int), .slice (some ⟨g, 0, none⟩) n cap] 50)
  have G1 := IsG.new (w := w1) (x := (W : Int)) (y := (Hh : Int)) (v := .slice (some ⟨g, 0, none⟩) n cap)
  have A1 : BytesAt (w1.alloc (.cells #[.int .i64 (W : Int), .int .i64 (Hh : Int), .slice (some ⟨g, 0, none⟩) n cap] 50)) g (splitP s.data.toList).flatten := bytesAt_to (w0 := w1) ((Below.refl _ _).alloc (Nat.le_refl _) _) hA rfl
  have q1 := q0.alloc q0.size (.cells #[.int .i64 (W : Int), .int .i64 (Hh : Int), .slice (some ⟨g, 0, none⟩) n cap] 50)
  have D1 := stAt_to (w0 := w) q1 HD.out rfl
  have HG := hide hG
  have hz := R0.lt
  clear hb1 q0 R0 hA hG
  go_wp2_with fail
  generalize hB : w1.heap.size = B at G1 hz ⊢
  generalize w1.alloc (.cells #[.int .i64 (W : Int), .int .i64 (Hh : Int), .slice (some ⟨g, 0, none⟩) n cap] 50) = W1 at R1 G1 A1 D1 q1 ⊢
  clear hB
  have HA := hide (show BytesAt W1.drew g (splitP s.data.toList).flatten from A1)
  have HD1 := hide (show StAt W1.drew gd 0 L from D1)
  clear A1 D1
  obtain ⟨l1, ⟨c0, c1, c2⟩, f0, f1, f2⟩ := R1.all
  obtain ⟨l2, ⟨d0, d1, d2⟩, -⟩ := G1.all
  go_region_held3 (fun w' => w'.cell? ⟨B, 0, none⟩ = some (.int .i64 (W : Int)) ∧ w'.cell? ⟨B, 1, none⟩ = some (.int .i64 (Hh : Int)) ∧ w'.cell? ⟨B, 2, none⟩ = some (.slice (some ⟨g, 0, none⟩) n cap)) (first | (refine ⟨?_, ?_, ?_⟩ <;> assumption) | (simp [go_sem, World.cell?_alloc_past]; done) | (refine ⟨?_, ?_, ?_⟩ <;> (rw [cell_set3 (by omega)]; assumption)))
    (first
      | (go_at_call 36; (refine (myGood_any s.data.toList W Hh n HG.out g cap gd L nd HN.out _ HA.out HD1.out).mono ?_); rintro e w2 ⟨rfl, hb2⟩; rw [HST.out]; have R2 := isG_to hb2 R1 rfl; have G2 := isG_to hb2 G1 rfl; have A2 := hide (bytesAt_to hb2 HA.out rfl); have Q2 := below_to hb2 q1 q1.size rfl rfl rfl rfl; obtain ⟨m1, ⟨x0, x1, x2⟩, g0, g1, g2⟩ := R2.all; obtain ⟨m2, ⟨y0, y1, y2⟩, -⟩ := G2.all; clear hb2))
  go_wp2
  have hneq : ∀ (wx : World) (p : Addr) (u : Value), BytesAt wx g (splitP s.data.toList).flatten → p.block ≠ g → BytesAt (wx.setCell p u) g (splitP s.data.toList).flatten := fun wx p u hh hp => by
    obtain ⟨cur, h1, h2⟩ := hh
    exact ⟨cur, (Below.heap_setCell wx p u g (fun e => hp e.symm)).trans h1, h2⟩
  have hgne : w.heap.size ≠ g := fun e => by
    subst e
    obtain ⟨cur, h1, _⟩ := A2.out
    have h3 := R2
    unfold IsG at h3
    rw [h1] at h3
    simp at h3
  refine bodyPost_ret (ret_grid2 Tryd.results41 rfl rfl (R2.set3 (W : Int) (Hh : Int) (.slice (some ⟨g, 0, none⟩) n cap))) rfl ⟨W, Hh, n, g, cap, HG.out, rfl, ?_, ?_⟩
  · exact hneq _ _ _ (hneq _ _ _ (hneq _ _ _ A2.out hgne) hgne) hgne
  · exact below_set3 Q2 (Nat.le_refl _) _ _ _
end Go.Proofs.YtdndegonpdakkaaDoor
namespace Go.Proofs.YtdndegonpdakkaaDoor
set_option maxRecDepth 100000
set_option linter.all false
open Go.RowKit
attribute [local go_sem ↓] Go.wp_at_zero Go.wp_at_succ

/-- What holds at the loop's head of areTogether. -/
def TogJ (w wr : World) (gR gd : Nat) (s : ByteArray) (L : List St) : Prop := RowsAt wr gR (rowsB s) ∧ StAt wr gd 0 L ∧ Below w.heap.size w wr
theorem togJ_to {w wr w0 w1 : World} {gR gd : Nat} {s : ByteArray} {L : List St} (hb : Below w0.heap.size w0 w1) (h : TogJ w wr gR gd s L) (e : w0.heap = wr.heap) (e2 : w0.os = wr.os) (e3 : w0.tape = wr.tape) (e4 : w0.output = wr.output) : TogJ w w1 gR gd s L :=
  ⟨rowsAt_to hb h.1 e, stAt_to hb h.2.1 e, below_to hb h.2.2 h.2.2.size e e2 e3 e4⟩
theorem togJ_alloc {w wr : World} {gR gd : Nat} {s : ByteArray} {L : List St} (h : TogJ w wr gR gd s L) (o : Obj) : TogJ w (wr.alloc o) gR gd s L :=
  ⟨rowsAt_to (w0 := wr) ((Below.refl _ _).alloc (Nat.le_refl _) _) h.1 rfl, stAt_to (w0 := wr) ((Below.refl _ _).alloc (Nat.le_refl _) _) h.2.1 rfl, h.2.2.alloc h.2.2.size _⟩
set_option maxHeartbeats 4000000 in
theorem areTogether_any (s : ByteArray) (gR gd : Nat) (L : List St) (n : Nat) (hN : n = L.length) (w : World) (hs : s.size ≤ 1048576) (hb : isBd s.data.toList = true) (hR : RowsAt w gR (rowsB s)) (hD : StAt w gd 0 L) : Calls Tryd.prog 39 #[.slice (some ⟨gR, 0, none⟩) (rowsB s).length (rowsB s).length, .slice (some ⟨gd, 0, none⟩) n n] w fun e w' => e = .returned (.bool (tog s.data.toList L)) ∧ Below w.heap.size w w' := by
  have HT := hide (show TogJ w w gR gd s L from ⟨hR, hD, Below.refl _ _⟩)
  have HN := hide hN
  have HON := hide (fun (t : St) (wx : World) (ha : RowsAt wx gR (rowsB s)) => isStateOn_any s gR t wx hs hb ha)
  clear hb hR hD hN
  generalize (rowsB s).length = nr at HON ⊢
  by_cases h1 : 1 ≤ n
  · have h1' : ¬ (n : Int) < 1 := by omega
    by_cases h3 : n ≤ 3
    · have HL := hide (tog_all (l := s.data.toList) (L := L) (by have := HN.out; omega) (by have := HN.out; omega))
      go_enter Tryd.func39, Tryd.ntmps39
      go_wp2
      go_loopw [17] (fun i wr => ∃ k : Nat, k ≤ n ∧ i = .int .i64 (k : Int) ∧ togK s.data.toList L k = true ∧ TogJ w wr gR gd s L) (fun i _ => n - (intOf i).toNat)
      case atStart => exact ⟨0, Nat.zero_le _, rfl, rfl, HT.out⟩
      case round =>
        obtain ⟨k, hk, rfl, hall, T⟩ := hrel
        have HALL := hide hall
        clear hall HT
        by_cases hlt : k < n
        · have hx : L[k]? = some (L[k]'(by have := HN.out; omega)) := List.getElem?_eq_getElem (by have := HN.out; omega)
          generalize L[k]'(by have := HN.out; omega) = u at hx
          obtain ⟨a0, a1, a2, a3, a4, a5, a6, a7⟩ := T.2.1.cells0 hx
          have hki : (k : Int) < (n : Int) := by omega
          have hkn : (k : Int) ≤ (n : Int) := by omega
          have hk0 : (0 : Int) ≤ (k : Int) := by omega
          have HOK := hide (okAt_some (l := s.data.toList) hx)
          have HX := hide hx
          clear hx
          go_upto_region 6 with (fail)
          have T1 := togJ_alloc T (.cells #[.int .i64 u.x, .int .i64 u.y, .int .i64 u.d.t, .int .i64 u.d.n, .int .i64 u.d.e, .int .i64 u.d.s, .int .i64 u.d.w, .int .i64 u.d.b] 57)
          have S1 := IsS.new (w := wr) (s := u) (ty := 57)
          clear a0 a1 a2 a3 a4 a5 a6 a7 T
          obtain ⟨B1, hB⟩ : ∃ B1, B1 = wr.heap.size := ⟨_, rfl⟩
          rw [← hB] at S1
          rw [← hB]
          generalize wr.alloc (.cells #[.int .i64 u.x, .int .i64 u.y, .int .i64 u.d.t, .int .i64 u.d.n, .int .i64 u.d.e, .int .i64 u.d.s, .int .i64 u.d.w, .int .i64 u.d.b] 57) = W1 at T1 S1 ⊢
          clear hB
          obtain ⟨_, ⟨c0, c1, c2, c3, c4, c5, c6, c7⟩, -⟩ := S1.all
          have HR1 := hide (show RowsAt W1.drew gR (rowsB s) from T1.1)
          have HT1 := hide T1
          have HS1 := hide S1
          clear T1 S1
          cases hst : stL s.data.toList u
          · have HST := hide hst
            have HF := hide (togK_no (l := s.data.toList) (L := L) (j := k) (k := n) (by rw [HOK.out, hst]; rfl) hlt)
            clear hst
            refine wp_region_held_drew (S := (fun w' => w'.cell? ⟨B1, 0, none⟩ = some (.int .i64 u.x) ∧ w'.cell? ⟨B1, 1, none⟩ = some (.int .i64 u.y) ∧ w'.cell? ⟨B1, 2, none⟩ = some (.int .i64 u.d.t) ∧ w'.cell? ⟨B1, 3, none⟩ = some (.int .i64 u.d.n) ∧ w'.cell? ⟨B1, 4, none⟩ = some (.int .i64 u.d.e) ∧ w'.cell? ⟨B1, 5, none⟩ = some (.int .i64 u.d.s) ∧ w'.cell? ⟨B1, 6, none⟩ = some (.int .i64 u.d.w) ∧ w'.cell? ⟨B1, 7, none⟩ = some (.int .i64 u.d.b))) (by kernel_rfl) (by refine ⟨?_, ?_, ?_, ?_, ?_, ?_, ?_, ?_⟩ <;> assumption) (fun hHeld => ?_)
            refine takeD (i := 0) (v := ?_) 22 rfl rfl (by kernel_rfl) (by kernel_rfl) (by kernel_rfl) (fun _ _ _ h => h) (Or.inl ⟨by rfl, ?_⟩) (by assumption) ?_
            rotate_left 1
            · (intro w hSw; (try dsimp only at hSw); go_simp; (try with_reducible rfl))
            try simp only [Act.put, List.setIfInBounds_toArray, List.set_cons_zero, List.set_cons_succ]
            refine takeD (i := 1) (v := ?_) 23 rfl rfl (by kernel_rfl) (by kernel_rfl) (by kernel_rfl) (fun _ _ _ h => h) (Or.inl ⟨by rfl, ?_⟩) (by assumption) ?_
            rotate_left 1
            · (intro w hSw; (try dsimp only at hSw); go_simp; (try with_reducible rfl))
            try simp only [Act.put, List.setIfInBounds_toArray, List.set_cons_zero, List.set_cons_succ]
            refine wpAnyH_ready (rs := [2]) (by kernel_rfl) (by simp) ?_
            refine AllReadyH.cons (o := _) rfl (fun K hK => ?_) AllReadyH.nil
            go_simp
            go_at_call 63
            (with_reducible refine (HON.out u _ HR1.out).mono ?_)
            rintro e w3 ⟨rfl, hb3⟩
            rw [HST.out]
            have HT3 := hide (togJ_to hb3 HT1.out rfl rfl rfl rfl)
            have HS3 := hide (isS_to hb3 HS1.out rfl)
            clear hb3
            obtain ⟨_, ⟨y0, y1, y2, y3, y4, y5, y6, y7⟩, -⟩ := HS3.out.all
            dsimp only
            refine hK.out _ _ (by refine ⟨?_, ?_, ?_, ?_, ?_, ?_, ?_, ?_⟩ <;> assumption) (fun hHeld_1 => ?_)
            clear hK
            try simp only [Act.put, List.setIfInBounds_toArray, List.set_cons_zero, List.set_cons_succ]
            refine takeD (i := 3) (v := ?_) 25 rfl rfl (by kernel_rfl) (by kernel_rfl) (by kernel_rfl) (fun _ _ _ h => h) (Or.inl ⟨by rfl, ?_⟩) (by assumption) ?_
            rotate_left 1
            · (intro w hSw; (try dsimp only at hSw); go_simp; (try with_reducible rfl))
            try simp only [Act.put, List.setIfInBounds_toArray, List.set_cons_zero, List.set_cons_succ]
            refine takeD (i := 4) (v := ?_) 26 rfl rfl (by kernel_rfl) (by kernel_rfl) (by kernel_rfl) (fun _ _ _ h => h) (Or.inl ⟨by rfl, ?_⟩) (by assumption) ?_
            rotate_left 1
            · (intro w hSw; (try dsimp only at hSw); go_simp; (try with_reducible rfl))
            try simp only [Act.put, List.setIfInBounds_toArray, List.set_cons_zero, List.set_cons_succ]
            refine takeD (i := 5) (v := undef) 27 rfl rfl (by kernel_rfl) (by kernel_rfl) (by kernel_rfl) (fun _ _ _ h => h) (Or.inr ⟨by kernel_rfl, rfl⟩) (by assumption) ?_
            try simp only [Act.put, List.setIfInBounds_toArray, List.set_cons_zero, List.set_cons_succ]
            refine takeD (i := 6) (v := undef) 28 rfl rfl (by kernel_rfl) (by kernel_rfl) (by kernel_rfl) (fun _ _ _ h => h) (Or.inr ⟨by kernel_rfl, rfl⟩) (by assumption) ?_
            try simp only [Act.put, List.setIfInBounds_toArray, List.set_cons_zero, List.set_cons_succ]
            refine takeD (i := 7) (v := undef) 29 rfl rfl (by kernel_rfl) (by kernel_rfl) (by kernel_rfl) (fun _ _ _ h => h) (Or.inr ⟨by kernel_rfl, rfl⟩) (by assumption) ?_
            try simp only [Act.put, List.setIfInBounds_toArray, List.set_cons_zero, List.set_cons_succ]
            refine takeD (i := 8) (v := undef) 30 rfl rfl (by kernel_rfl) (by kernel_rfl) (by kernel_rfl) (fun _ _ _ h => h) (Or.inr ⟨by kernel_rfl, rfl⟩) (by assumption) ?_
            try simp only [Act.put, List.setIfInBounds_toArray, List.set_cons_zero, List.set_cons_succ]
            refine takeD (i := 9) (v := undef) 31 rfl rfl (by kernel_rfl) (by kernel_rfl) (by kernel_rfl) (fun _ _ _ h => h) (Or.inr ⟨by kernel_rfl, rfl⟩) (by assumption) ?_
            try simp only [Act.put, List.setIfInBounds_toArray, List.set_cons_zero, List.set_cons_succ]
            refine takeD (i := 10) (v := undef) 32 rfl rfl (by kernel_rfl) (by kernel_rfl) (by kernel_rfl) (fun _ _ _ h => h) (Or.inr ⟨by kernel_rfl, rfl⟩) (by assumption) ?_
            try simp only [Act.put, List.setIfInBounds_toArray, List.set_cons_zero, List.set_cons_succ]
            refine takeD (i := 11) (v := ?_) 33 rfl rfl (by kernel_rfl) (by kernel_rfl) (by kernel_rfl) (fun _ _ _ h => h) (Or.inl ⟨by rfl, ?_⟩) (by assumption) ?_
            rotate_left 1
            · (intro w hSw; (try dsimp only at hSw); go_simp; (try with_reducible rfl))
            try simp only [Act.put, List.setIfInBounds_toArray, List.set_cons_zero, List.set_cons_succ]
            refine wpAnyH_done (by kernel_rfl) ?_ _

            go_wp2
            go_returns
            exact ⟨ret_bool (by rw [HL.out, ← HN.out]; exact HF.out.symm), HT3.out.2.2⟩
          · have HST := hide hst
            clear hst
            cases hin : inAny (L.take k) u.x u.y
            · have HIN := hide hin
              have HF := hide (show togK s.data.toList L (k + 1) = true from by rw [togK_succ, HALL.out, HOK.out, HST.out, hin]; rfl)
              clear hin
              refine wp_region_held_drew (S := (fun w' => w'.cell? ⟨B1, 0, none⟩ = some (.int .i64 u.x) ∧ w'.cell? ⟨B1, 1, none⟩ = some (.int .i64 u.y) ∧ w'.cell? ⟨B1, 2, none⟩ = some (.int .i64 u.d.t) ∧ w'.cell? ⟨B1, 3, none⟩ = some (.int .i64 u.d.n) ∧ w'.cell? ⟨B1, 4, none⟩ = some (.int .i64 u.d.e) ∧ w'.cell? ⟨B1, 5, none⟩ = some (.int .i64 u.d.s) ∧ w'.cell? ⟨B1, 6, none⟩ = some (.int .i64 u.d.w) ∧ w'.cell? ⟨B1, 7, none⟩ = some (.int .i64 u.d.b))) (by kernel_rfl) (by refine ⟨?_, ?_, ?_, ?_, ?_, ?_, ?_, ?_⟩ <;> assumption) (fun hHeld => ?_)
              refine takeD (i := 0) (v := ?_) 22 rfl rfl (by kernel_rfl) (by kernel_rfl) (by kernel_rfl) (fun _ _ _ h => h) (Or.inl ⟨by rfl, ?_⟩) (by assumption) ?_
              rotate_left 1
              · (intro w hSw; (try dsimp only at hSw); go_simp; (try with_reducible rfl))
              try simp only [Act.put, List.setIfInBounds_toArray, List.set_cons_zero, List.set_cons_succ]
              refine takeD (i := 1) (v := ?_) 23 rfl rfl (by kernel_rfl) (by kernel_rfl) (by kernel_rfl) (fun _ _ _ h => h) (Or.inl ⟨by rfl, ?_⟩) (by assumption) ?_
              rotate_left 1
              · (intro w hSw; (try dsimp only at hSw); go_simp; (try with_reducible rfl))
              try simp only [Act.put, List.setIfInBounds_toArray, List.set_cons_zero, List.set_cons_succ]
              refine wpAnyH_ready (rs := [2]) (by kernel_rfl) (by simp) ?_
              refine AllReadyH.cons (o := _) rfl (fun K hK => ?_) AllReadyH.nil
              go_simp
              go_at_call 63
              (with_reducible refine (HON.out u _ HR1.out).mono ?_)
              rintro e w3 ⟨rfl, hb3⟩
              rw [HST.out]
              have HT3 := hide (togJ_to hb3 HT1.out rfl rfl rfl rfl)
              have HS3 := hide (isS_to hb3 HS1.out rfl)
              clear hb3
              obtain ⟨_, ⟨y0, y1, y2, y3, y4, y5, y6, y7⟩, -⟩ := HS3.out.all
              dsimp only
              refine hK.out _ _ (by refine ⟨?_, ?_, ?_, ?_, ?_, ?_, ?_, ?_⟩ <;> assumption) (fun hHeld_1 => ?_)
              clear hK
              try simp only [Act.put, List.setIfInBounds_toArray, List.set_cons_zero, List.set_cons_succ]
              refine takeD (i := 3) (v := ?_) 25 rfl rfl (by kernel_rfl) (by kernel_rfl) (by kernel_rfl) (fun _ _ _ h => h) (Or.inl ⟨by rfl, ?_⟩) (by assumption) ?_
              rotate_left 1
              · (intro w hSw; (try dsimp only at hSw); go_simp; (try with_reducible rfl))
              try simp only [Act.put, List.setIfInBounds_toArray, List.set_cons_zero, List.set_cons_succ]
              refine takeD (i := 4) (v := ?_) 26 rfl rfl (by kernel_rfl) (by kernel_rfl) (by kernel_rfl) (fun _ _ _ h => h) (Or.inl ⟨by rfl, ?_⟩) (by assumption) ?_
              rotate_left 1
              · (intro w hSw; (try dsimp only at hSw); go_simp; (try with_reducible rfl))
              try simp only [Act.put, List.setIfInBounds_toArray, List.set_cons_zero, List.set_cons_succ]
              refine takeD (i := 5) (v := ?_) 27 rfl rfl (by kernel_rfl) (by kernel_rfl) (by kernel_rfl) (fun _ _ _ h => h) (Or.inl ⟨by rfl, ?_⟩) (by assumption) ?_
              rotate_left 1
              · (intro w hSw; (try dsimp only at hSw); go_simp; (try with_reducible rfl))
              try simp only [Act.put, List.setIfInBounds_toArray, List.set_cons_zero, List.set_cons_succ]
              refine takeD (i := 6) (v := ?_) 28 rfl rfl (by kernel_rfl) (by kernel_rfl) (by kernel_rfl) (fun _ _ _ h => h) (Or.inl ⟨by rfl, ?_⟩) (by assumption) ?_
              rotate_left 1
              · (intro w hSw; (try dsimp only at hSw); go_simp; (try with_reducible rfl))
              try simp only [Act.put, List.setIfInBounds_toArray, List.set_cons_zero, List.set_cons_succ]
              refine takeD (i := 7) (v := ?_) 29 rfl rfl (by kernel_rfl) (by kernel_rfl) (by kernel_rfl) (fun _ _ _ h => h) (Or.inl ⟨by rfl, ?_⟩) (by assumption) ?_
              rotate_left 1
              · (intro w hSw; (try dsimp only at hSw); go_simp; (try with_reducible rfl))
              try simp only [Act.put, List.setIfInBounds_toArray, List.set_cons_zero, List.set_cons_succ]
              refine takeD (i := 8) (v := ?_) 30 rfl rfl (by kernel_rfl) (by kernel_rfl) (by kernel_rfl) (fun _ _ _ h => h) (Or.inl ⟨by rfl, ?_⟩) (by assumption) ?_
              rotate_left 1
              · (intro w hSw; (try dsimp only at hSw); go_simp; (try with_reducible rfl))
              try simp only [Act.put, List.setIfInBounds_toArray, List.set_cons_zero, List.set_cons_succ]
              refine wpAnyH_ready (rs := [9]) (by kernel_rfl) (by simp) ?_
              refine AllReadyH.cons (o := _) rfl (fun K hK => ?_) AllReadyH.nil
              go_simp
              go_at_call 65
              (with_reducible refine (inCellOf_any u _).mono ?_)
              rintro e w4 ⟨B2, rfl, hC4, hb4⟩
              have HC4 := hide hC4
              have HT4 := hide (togJ_to hb4 HT3.out rfl rfl rfl rfl)
              have HS4 := hide (isS_to hb4 HS3.out rfl)
              have HD4 := hide (HT4.out.2.1.take k)
              clear hb4 hC4
              obtain ⟨_, ⟨z0, z1, z2, z3, z4, z5, z6, z7⟩, -⟩ := HS4.out.all
              dsimp only
              refine hK.out _ _ (by refine ⟨?_, ?_, ?_, ?_, ?_, ?_, ?_, ?_⟩ <;> assumption) (fun hHeld_2 => ?_)
              clear hK
              try simp only [Act.put, List.setIfInBounds_toArray, List.set_cons_zero, List.set_cons_succ]
              refine wpAnyH_ready (rs := [10]) (by kernel_rfl) (by simp) ?_
              refine AllReadyH.cons (o := _) rfl (fun K hK => ?_) AllReadyH.nil
              go_simp
              go_at_call 64
              (with_reducible refine (hasIn_any (L.take k) k gd n B2 u _ (by rw [List.length_take]; have := HN.out; omega) (by omega) HD4.out HC4.out).mono ?_)
              rintro e w5 ⟨rfl, hb5⟩
              rw [HIN.out]
              have HT5 := hide (togJ_to hb5 HT4.out rfl rfl rfl rfl)
              have HS5 := hide (isS_to hb5 HS4.out rfl)
              clear hb5
              obtain ⟨_, ⟨t0, t1, t2, t3, t4, t5, t6, t7⟩, -⟩ := HS5.out.all
              dsimp only
              refine hK.out _ _ (by refine ⟨?_, ?_, ?_, ?_, ?_, ?_, ?_, ?_⟩ <;> assumption) (fun hHeld_3 => ?_)
              clear hK
              try simp only [Act.put, List.setIfInBounds_toArray, List.set_cons_zero, List.set_cons_succ]
              refine takeD (i := 11) (v := ?_) 33 rfl rfl (by kernel_rfl) (by kernel_rfl) (by kernel_rfl) (fun _ _ _ h => h) (Or.inl ⟨by rfl, ?_⟩) (by assumption) ?_
              rotate_left 1
              · (intro w hSw; (try dsimp only at hSw); go_simp; (try with_reducible rfl))
              try simp only [Act.put, List.setIfInBounds_toArray, List.set_cons_zero, List.set_cons_succ]
              refine wpAnyH_done (by kernel_rfl) ?_ _

              go_wp2
              go_roundw
              case rel => exact ⟨k + 1, by omega, by go_num, HF.out, HT5.out⟩
              case measure => simp [intOf] <;> omega
            · have HIN := hide hin
              have HF := hide (togK_no (l := s.data.toList) (L := L) (j := k) (k := n) (by rw [HOK.out, HST.out, hin]; rfl) hlt)
              clear hin
              refine wp_region_held_drew (S := (fun w' => w'.cell? ⟨B1, 0, none⟩ = some (.int .i64 u.x) ∧ w'.cell? ⟨B1, 1, none⟩ = some (.int .i64 u.y) ∧ w'.cell? ⟨B1, 2, none⟩ = some (.int .i64 u.d.t) ∧ w'.cell? ⟨B1, 3, none⟩ = some (.int .i64 u.d.n) ∧ w'.cell? ⟨B1, 4, none⟩ = some (.int .i64 u.d.e) ∧ w'.cell? ⟨B1, 5, none⟩ = some (.int .i64 u.d.s) ∧ w'.cell? ⟨B1, 6, none⟩ = some (.int .i64 u.d.w) ∧ w'.cell? ⟨B1, 7, none⟩ = some (.int .i64 u.d.b))) (by kernel_rfl) (by refine ⟨?_, ?_, ?_, ?_, ?_, ?_, ?_, ?_⟩ <;> assumption) (fun hHeld => ?_)
              refine takeD (i := 0) (v := ?_) 22 rfl rfl (by kernel_rfl) (by kernel_rfl) (by kernel_rfl) (fun _ _ _ h => h) (Or.inl ⟨by rfl, ?_⟩) (by assumption) ?_
              rotate_left 1
              · (intro w hSw; (try dsimp only at hSw); go_simp; (try with_reducible rfl))
              try simp only [Act.put, List.setIfInBounds_toArray, List.set_cons_zero, List.set_cons_succ]
              refine takeD (i := 1) (v := ?_) 23 rfl rfl (by kernel_rfl) (by kernel_rfl) (by kernel_rfl) (fun _ _ _ h => h) (Or.inl ⟨by rfl, ?_⟩) (by assumption) ?_
              rotate_left 1
              · (intro w hSw; (try dsimp only at hSw); go_simp; (try with_reducible rfl))
              try simp only [Act.put, List.setIfInBounds_toArray, List.set_cons_zero, List.set_cons_succ]
              refine wpAnyH_ready (rs := [2]) (by kernel_rfl) (by simp) ?_
              refine AllReadyH.cons (o := _) rfl (fun K hK => ?_) AllReadyH.nil
              go_simp
              go_at_call 63
              (with_reducible refine (HON.out u _ HR1.out).mono ?_)
              rintro e w3 ⟨rfl, hb3⟩
              rw [HST.out]
              have HT3 := hide (togJ_to hb3 HT1.out rfl rfl rfl rfl)
              have HS3 := hide (isS_to hb3 HS1.out rfl)
              clear hb3
              obtain ⟨_, ⟨y0, y1, y2, y3, y4, y5, y6, y7⟩, -⟩ := HS3.out.all
              dsimp only
              refine hK.out _ _ (by refine ⟨?_, ?_, ?_, ?_, ?_, ?_, ?_, ?_⟩ <;> assumption) (fun hHeld_1 => ?_)
              clear hK
              try simp only [Act.put, List.setIfInBounds_toArray, List.set_cons_zero, List.set_cons_succ]
              refine takeD (i := 3) (v := ?_) 25 rfl rfl (by kernel_rfl) (by kernel_rfl) (by kernel_rfl) (fun _ _ _ h => h) (Or.inl ⟨by rfl, ?_⟩) (by assumption) ?_
              rotate_left 1
              · (intro w hSw; (try dsimp only at hSw); go_simp; (try with_reducible rfl))
              try simp only [Act.put, List.setIfInBounds_toArray, List.set_cons_zero, List.set_cons_succ]
              refine takeD (i := 4) (v := ?_) 26 rfl rfl (by kernel_rfl) (by kernel_rfl) (by kernel_rfl) (fun _ _ _ h => h) (Or.inl ⟨by rfl, ?_⟩) (by assumption) ?_
              rotate_left 1
              · (intro w hSw; (try dsimp only at hSw); go_simp; (try with_reducible rfl))
              try simp only [Act.put, List.setIfInBounds_toArray, List.set_cons_zero, List.set_cons_succ]
              refine takeD (i := 5) (v := ?_) 27 rfl rfl (by kernel_rfl) (by kernel_rfl) (by kernel_rfl) (fun _ _ _ h => h) (Or.inl ⟨by rfl, ?_⟩) (by assumption) ?_
              rotate_left 1
              · (intro w hSw; (try dsimp only at hSw); go_simp; (try with_reducible rfl))
              try simp only [Act.put, List.setIfInBounds_toArray, List.set_cons_zero, List.set_cons_succ]
              refine takeD (i := 6) (v := ?_) 28 rfl rfl (by kernel_rfl) (by kernel_rfl) (by kernel_rfl) (fun _ _ _ h => h) (Or.inl ⟨by rfl, ?_⟩) (by assumption) ?_
              rotate_left 1
              · (intro w hSw; (try dsimp only at hSw); go_simp; (try with_reducible rfl))
              try simp only [Act.put, List.setIfInBounds_toArray, List.set_cons_zero, List.set_cons_succ]
              refine takeD (i := 7) (v := ?_) 29 rfl rfl (by kernel_rfl) (by kernel_rfl) (by kernel_rfl) (fun _ _ _ h => h) (Or.inl ⟨by rfl, ?_⟩) (by assumption) ?_
              rotate_left 1
              · (intro w hSw; (try dsimp only at hSw); go_simp; (try with_reducible rfl))
              try simp only [Act.put, List.setIfInBounds_toArray, List.set_cons_zero, List.set_cons_succ]
              refine takeD (i := 8) (v := ?_) 30 rfl rfl (by kernel_rfl) (by kernel_rfl) (by kernel_rfl) (fun _ _ _ h => h) (Or.inl ⟨by rfl, ?_⟩) (by assumption) ?_
              rotate_left 1
              · (intro w hSw; (try dsimp only at hSw); go_simp; (try with_reducible rfl))
              try simp only [Act.put, List.setIfInBounds_toArray, List.set_cons_zero, List.set_cons_succ]
              refine wpAnyH_ready (rs := [9]) (by kernel_rfl) (by simp) ?_
              refine AllReadyH.cons (o := _) rfl (fun K hK => ?_) AllReadyH.nil
              go_simp
              go_at_call 65
              (with_reducible refine (inCellOf_any u _).mono ?_)
              rintro e w4 ⟨B2, rfl, hC4, hb4⟩
              have HC4 := hide hC4
              have HT4 := hide (togJ_to hb4 HT3.out rfl rfl rfl rfl)
              have HS4 := hide (isS_to hb4 HS3.out rfl)
              have HD4 := hide (HT4.out.2.1.take k)
              clear hb4 hC4
              obtain ⟨_, ⟨z0, z1, z2, z3, z4, z5, z6, z7⟩, -⟩ := HS4.out.all
              dsimp only
              refine hK.out _ _ (by refine ⟨?_, ?_, ?_, ?_, ?_, ?_, ?_, ?_⟩ <;> assumption) (fun hHeld_2 => ?_)
              clear hK
              try simp only [Act.put, List.setIfInBounds_toArray, List.set_cons_zero, List.set_cons_succ]
              refine wpAnyH_ready (rs := [10]) (by kernel_rfl) (by simp) ?_
              refine AllReadyH.cons (o := _) rfl (fun K hK => ?_) AllReadyH.nil
              go_simp
              go_at_call 64
              (with_reducible refine (hasIn_any (L.take k) k gd n B2 u _ (by rw [List.length_take]; have := HN.out; omega) (by omega) HD4.out HC4.out).mono ?_)
              rintro e w5 ⟨rfl, hb5⟩
              rw [HIN.out]
              have HT5 := hide (togJ_to hb5 HT4.out rfl rfl rfl rfl)
              have HS5 := hide (isS_to hb5 HS4.out rfl)
              clear hb5
              obtain ⟨_, ⟨t0, t1, t2, t3, t4, t5, t6, t7⟩, -⟩ := HS5.out.all
              dsimp only
              refine hK.out _ _ (by refine ⟨?_, ?_, ?_, ?_, ?_, ?_, ?_, ?_⟩ <;> assumption) (fun hHeld_3 => ?_)
              clear hK
              try simp only [Act.put, List.setIfInBounds_toArray, List.set_cons_zero, List.set_cons_succ]
              refine takeD (i := 11) (v := ?_) 33 rfl rfl (by kernel_rfl) (by kernel_rfl) (by kernel_rfl) (fun _ _ _ h => h) (Or.inl ⟨by rfl, ?_⟩) (by assumption) ?_
              rotate_left 1
              · (intro w hSw; (try dsimp only at hSw); go_simp; (try with_reducible rfl))
              try simp only [Act.put, List.setIfInBounds_toArray, List.set_cons_zero, List.set_cons_succ]
              refine wpAnyH_done (by kernel_rfl) ?_ _

              go_wp2
              go_returns
              exact ⟨ret_bool (by rw [HL.out, ← HN.out]; exact HF.out.symm), HT5.out.2.2⟩
        · obtain rfl : k = n := by omega
          go_wp2
          go_returns
          exact ⟨ret_bool (by rw [HL.out, ← HN.out]; exact HALL.out.symm), T.2.2⟩
    · have HL := hide (tog_many (l := s.data.toList) (L := L) (by have := HN.out; omega))
      have h3' : (3 : Int) < (n : Int) := by omega
      clear HT
      go_enter Tryd.func39, Tryd.ntmps39
      go_wp2
      go_returns
      exact ⟨ret_bool HL.out.symm, Below.refl _ _⟩
  · have HL := hide (tog_few (l := s.data.toList) (L := L) (by have := HN.out; omega))
    have h1' : (n : Int) < 1 := by omega
    clear HT
    go_enter Tryd.func39, Tryd.ntmps39
    go_wp2
    go_returns
    exact ⟨ret_bool HL.out.symm, Below.refl _ _⟩

set_option maxHeartbeats 800000 in
theorem implAD_no (s : ByteArray) (v : Value) (w : World) (hs : s.size ≤ 1048576) (hg : Glob w) (h : isBd s.data.toList = false) : Calls Tryd.prog 13 #[.string s, v] w fun e w' => e = .returned (.tuple #[.bool false, .bool false]) ∧ Below w.heap.size w w' := by
  have H := hide h
  clear h
  go_enter Tryd.func13, Tryd.ntmps13
  go_wp2_with fail
  refine (rowsOf_no s _ hs hg H.out).mono ?_
  rintro e w1 ⟨rfl, hb1⟩
  go_wp2
  go_returns
  exact ⟨rfl, hb1⟩
set_option maxHeartbeats 800000 in
theorem implAD_yes (s : ByteArray) (gd : Nat) (L : List St) (n : Nat) (hN : n = L.length) (w : World) (hs : s.size ≤ 1048576) (hg : Glob w) (hD : StAt w gd 0 L) (h : isBd s.data.toList = true) : Calls Tryd.prog 13 #[.string s, .slice (some ⟨gd, 0, none⟩) n n] w fun e w' => e = .returned (.tuple #[.bool (tog s.data.toList L), .bool true]) ∧ Below w.heap.size w w' := by
  have HN := hide hN
  have HD := hide hD
  have H := hide h
  clear hN hD h
  go_enter Tryd.func13, Tryd.ntmps13
  go_wp2_with fail
  refine (rowsOf_yes s _ hs hg H.out).mono ?_
  rintro e w1 ⟨rfl, hR, hb1⟩
  have HR := hide hR
  have D1 := hide (stAt_to hb1 HD.out rfl)
  clear hR
  go_wp2_with fail
  refine (areTogether_any s _ gd L n HN.out _ hs H.out HR.out D1.out).mono ?_
  rintro e w2 ⟨rfl, hb2⟩
  have q2 := below_to hb2 hb1 hb1.size rfl rfl rfl rfl
  clear hb2 hb1
  generalize hz : tog s.data.toList L = z
  have HZ := hide hz
  clear hz
  go_wp2
  go_returns
  exact ⟨by rw [HZ.out]; rfl, q2⟩
theorem implAD_any (s : ByteArray) (gd : Nat) (L : List St) (n : Nat) (hN : n = L.length) (w : World) (hs : s.size ≤ 1048576) (hg : Glob w) (hD : StAt w gd 0 L) : Calls Tryd.prog 13 #[.string s, .slice (some ⟨gd, 0, none⟩) n n] w fun e w' => e = .returned (.tuple #[.bool (adB s.data.toList L), .bool (isBd s.data.toList)]) ∧ Below w.heap.size w w' := by
  unfold adB
  cases h : isBd s.data.toList
  · exact implAD_no s _ w hs hg h
  · exact implAD_yes s gd L n hN w hs hg hD h
/-! ### rowsUnderDice -/
set_option maxHeartbeats 800000 in
theorem rowsUD_bad (s : ByteArray) (v : Value) (w : World) (hs : s.size ≤ 1048576) (hg : Glob w) (h : isBd s.data.toList = false) : Calls Tryd.prog 44 #[.string s, v] w fun e w' => e = .returned (.tuple #[.slice none 0 0, .bool false]) ∧ Below w.heap.size w w' := by
  have H := hide h
  clear h
  go_enter Tryd.func44, Tryd.ntmps44
  go_wp2_with fail
  refine (rowsOf_no s _ hs hg H.out).mono ?_
  rintro e w1 ⟨rfl, hb1⟩
  go_wp2
  go_returns
  exact ⟨rfl, hb1⟩
set_option maxHeartbeats 800000 in
theorem rowsUD_off (s : ByteArray) (gd : Nat) (L : List St) (n : Nat) (hN : n = L.length) (w : World) (hs : s.size ≤ 1048576) (hg : Glob w) (hD : StAt w gd 0 L) (h : isBd s.data.toList = true) (h2 : tog s.data.toList L = false) : Calls Tryd.prog 44 #[.string s, .slice (some ⟨gd, 0, none⟩) n n] w fun e w' => e = .returned (.tuple #[.slice none 0 0, .bool false]) ∧ Below w.heap.size w w' := by
  have H := hide h
  have H2 := hide h2
  have HN := hide hN
  have HD := hide hD
  clear h h2 hN hD
  go_enter Tryd.func44, Tryd.ntmps44
  go_wp2_with fail
  refine (rowsOf_yes s _ hs hg H.out).mono ?_
  rintro e w1 ⟨rfl, hR, hb1⟩
  have HR := hide hR
  have D1 := hide (stAt_to hb1 HD.out rfl)
  clear hR
  go_wp2_with fail
  refine (areTogether_any s _ gd L n HN.out _ hs H.out HR.out D1.out).mono ?_
  rintro e w2 ⟨rfl, hb2⟩
  rw [H2.out]
  have q2 := below_to hb2 hb1 hb1.size rfl rfl rfl rfl
  clear hb2 hb1
  go_wp2
  go_returns
  exact ⟨rfl, q2⟩
set_option maxHeartbeats 800000 in
theorem rowsUD_on (s : ByteArray) (gd : Nat) (L : List St) (n : Nat) (hN : n = L.length) (w : World) (hs : s.size ≤ 1048576) (hg : Glob w) (hD : StAt w gd 0 L) (h : isBd s.data.toList = true) (h2 : tog s.data.toList L = true) : Calls Tryd.prog 44 #[.string s, .slice (some ⟨gd, 0, none⟩) n n] w fun e w' => ∃ gR, e = .returned (.tuple #[.slice (some ⟨gR, 0, none⟩) (rowsB s).length (rowsB s).length, .bool true]) ∧ RowsAt w' gR (rowsB s) ∧ Below w.heap.size w w' := by
  have H := hide h
  have H2 := hide h2
  have HN := hide hN
  have HD := hide hD
  clear h h2 hN hD
  go_enter Tryd.func44, Tryd.ntmps44
  go_wp2_with fail
  refine (rowsOf_yes s _ hs hg H.out).mono ?_
  rintro e w1 ⟨rfl, hR, hb1⟩
  have HR := hide hR
  have D1 := hide (stAt_to hb1 HD.out rfl)
  clear hR
  go_wp2_with fail
  refine (areTogether_any s _ gd L n HN.out _ hs H.out HR.out D1.out).mono ?_
  rintro e w2 ⟨rfl, hb2⟩
  rw [H2.out]
  have q2 := below_to hb2 hb1 hb1.size rfl rfl rfl rfl
  have R2 := rowsAt_to hb2 HR.out rfl
  clear hb2 hb1
  go_wp2
  go_returns
  exact ⟨_, rfl, R2, q2⟩
end Go.Proofs.YtdndegonpdakkaaDoor
namespace Go.Proofs.YtdndegonpdakkaaDoor
set_option maxRecDepth 100000
set_option linter.all false
open Go.RowKit

/-- What dice together are. -/
theorem tog_facts {l : List UInt8} {L : List St} (h : tog l L = true) : 1 ≤ L.length ∧ L.length ≤ 3 ∧ ∀ (i : Nat) (s : St), L[i]? = some s → stL l s = true ∧ inAny (L.take i) s.x s.y = false := by
  unfold tog at h
  simp only [Bool.and_eq_true, decide_eq_true_eq] at h
  obtain ⟨h1, h2, h3⟩ := h
  refine ⟨h1, h2, fun i s hi => ?_⟩
  unfold togK at h3
  rw [List.all_eq_true] at h3
  have h4 := h3 i (by have := (List.getElem?_eq_some_iff.1 hi).1; simpa using this)
  rw [okAt_some hi, Bool.and_eq_true] at h4
  exact ⟨h4.1, by simpa using h4.2⟩
theorem stL_top {l : List UInt8} {s : St} (h : stL l s = true) : 0 ≤ s.d.t ∧ s.d.t ≤ 9 := by
  have := (Bool.and_eq_true_iff.1 h).2
  simp only [goodB, decide_eq_true_eq] at this
  omega
def sumTop (L : List St) : Int := L.foldl (fun a s => a + s.d.t) 0
theorem sumTop_snoc {L : List St} {k : Nat} {s : St} (h : L[k]? = some s) : sumTop (L.take (k + 1)) = sumTop (L.take k) + s.d.t := by
  unfold sumTop
  rw [List.take_add_one, h, List.foldl_append]
  rfl
theorem sumTop_le {l : List UInt8} {L : List St} (h : ∀ (i : Nat) (s : St), L[i]? = some s → stL l s = true ∧ inAny (L.take i) s.x s.y = false) : ∀ k, k ≤ L.length → 0 ≤ sumTop (L.take k) ∧ sumTop (L.take k) ≤ 9 * (k : Int) := by
  intro k
  induction k with
  | zero => intro _; rw [List.take_zero]; exact ⟨by decide, by decide⟩
  | succ k ih =>
    intro hk
    have hx : L[k]? = some (L[k]'(by omega)) := List.getElem?_eq_getElem (by omega)
    have h1 := stL_top (h k _ hx).1
    have h2 := ih (by omega)
    rw [sumTop_snoc hx]
    omega
/-- What SumOfDice says. -/
def sdV (l : List UInt8) (L : List St) : Int := if adB l L = true then sumTop L else 0
theorem adB_no {l : List UInt8} {L : List St} (h : isBd l = false) : adB l L = false := by unfold adB; rw [h]; rfl
theorem adB_off {l : List UInt8} {L : List St} (h : tog l L = false) : adB l L = false := by unfold adB; rw [h]; simp
theorem adB_on {l : List UInt8} {L : List St} (h : isBd l = true) (h2 : tog l L = true) : adB l L = true := by unfold adB; rw [h, h2]; rfl

set_option maxHeartbeats 800000 in
theorem specSD_bad (s : ByteArray) (v : Value) (w : World) (hs : s.size ≤ 1048576) (h : isBd s.data.toList = false) : Calls Tryd.prog 33 #[.string s, v] w fun e w' => e = .returned (.tuple #[.int .i64 0, .bool false]) ∧ Below w.heap.size w w' := by
  have H := hide h
  clear h
  go_enter Tryd.func33, Tryd.ntmps33
  go_wp2_with fail
  refine (myAsked_bad s v _ hs H.out).mono ?_
  rintro e w1 ⟨rfl, hb1⟩
  have q1 := hb1.alloc hb1.size (.cells #[.int .i64 0, .int .i64 0, .slice none 0 0] 50)
  go_wp2
  go_returns
  exact ⟨rfl, q1⟩
set_option maxHeartbeats 800000 in
theorem specSD_off (s : ByteArray) (gd : Nat) (L : List St) (n : Nat) (hN : n = L.length) (w : World) (hs : s.size ≤ 1048576) (hD : StAt w gd 0 L) (h : isBd s.data.toList = true) (h2 : tog s.data.toList L = false) : Calls Tryd.prog 33 #[.string s, .slice (some ⟨gd, 0, none⟩) n n] w fun e w' => e = .returned (.tuple #[.int .i64 0, .bool false]) ∧ Below w.heap.size w w' := by
  have H := hide h
  have H2 := hide h2
  have HN := hide hN
  have HD := hide hD
  clear h h2 hN hD
  go_enter Tryd.func33, Tryd.ntmps33
  go_wp2_with fail
  refine (myAsked_in s gd L n HN.out _ hs HD.out H.out).mono ?_
  rintro e w1 ⟨W, Hh, m, g, cap, hG, rfl, hA, hb1⟩
  rw [H2.out]
  have q1 := hb1.alloc hb1.size (.cells #[.int .i64 (W : Int), .int .i64 (Hh : Int), .slice (some ⟨g, 0, none⟩) m cap] 50)
  clear hG hA hb1
  go_wp2
  go_returns
  exact ⟨rfl, q1⟩
set_option maxHeartbeats 1600000 in
theorem specSD_on (s : ByteArray) (gd : Nat) (L : List St) (n : Nat) (hN : n = L.length) (w : World) (hs : s.size ≤ 1048576) (hD : StAt w gd 0 L) (h : isBd s.data.toList = true) (h2 : tog s.data.toList L = true) : Calls Tryd.prog 33 #[.string s, .slice (some ⟨gd, 0, none⟩) n n] w fun e w' => e = .returned (.tuple #[.int .i64 (sumTop L), .bool true]) ∧ Below w.heap.size w w' := by
  obtain ⟨n1, n3, hall⟩ := tog_facts h2
  have HSL := hide (sumTop_le hall)
  have HALL := hide hall
  have hn3 : n ≤ 3 := by omega
  have H := hide h
  have H2 := hide h2
  have HN := hide hN
  have HD := hide hD
  clear h h2 hN hD hall n1 n3
  go_enter Tryd.func33, Tryd.ntmps33
  go_wp2_with fail
  refine (myAsked_in s gd L n HN.out _ hs HD.out H.out).mono ?_
  rintro e w1 ⟨W, Hh, m, g, cap, hG, rfl, hA, hb1⟩
  rw [H2.out]
  have q1 := hb1.alloc hb1.size (.cells #[.int .i64 (W : Int), .int .i64 (Hh : Int), .slice (some ⟨g, 0, none⟩) m cap] 50)
  clear hG hA hb1
  have D1 := hide (stAt_to (w0 := w) q1 HD.out rfl)
  go_wp2
  generalize w1.alloc (.cells #[.int .i64 (W : Int), .int .i64 (Hh : Int), .slice (some ⟨g, 0, none⟩) m cap] 50) = W1 at q1 D1 ⊢
  go_loopw [8, 21] (fun sm i wr => ∃ k : Nat, k ≤ n ∧ i = .int .i64 (k : Int) ∧ sm = .int .i64 (sumTop (L.take k)) ∧ Below w.heap.size w wr) (fun _ i _ => n - (intOf i).toNat)
  case atStart => exact ⟨0, Nat.zero_le _, rfl, rfl, q1⟩
  case round =>
    obtain ⟨k, hk, rfl, rfl, q⟩ := hrel
    clear q1
    by_cases hlt : k < n
    · have hx : L[k]? = some (L[k]'(by have := HN.out; omega)) := List.getElem?_eq_getElem (by have := HN.out; omega)
      generalize L[k]'(by have := HN.out; omega) = u at hx
      obtain ⟨a0, a1, a2, a3, a4, a5, a6, a7⟩ := (stAt_to q HD.out rfl).cells0 hx
      have hki : (k : Int) < (n : Int) := by omega
      obtain ⟨t0, t1⟩ := stL_top (HALL.out k u hx).1
      obtain ⟨b0, b1⟩ := HSL.out k (by have := HN.out; omega)
      have HS := hide (sumTop_snoc hx)
      generalize hz : sumTop (L.take k) = z at b0 b1 HS ⊢
      clear hx hz
      go_upto_region 8 with (fail)
      have S1 := IsS.new (w := wr) (s := u) (ty := 57)
      have q2 := q.alloc q.size (.cells #[.int .i64 u.x, .int .i64 u.y, .int .i64 u.d.t, .int .i64 u.d.n, .int .i64 u.d.e, .int .i64 u.d.s, .int .i64 u.d.w, .int .i64 u.d.b] 57)
      obtain ⟨l0, ⟨-, -, c2, -, -, -, -, -⟩, -⟩ := S1.all
      clear a0 a1 a2 a3 a4 a5 a6 a7 q
      go_wp2
      go_roundw
      case rel => exact ⟨k + 1, by omega, by go_num, by rw [HS.out], q2⟩
      case measure => simp [intOf] <;> omega
    · obtain rfl : k = n := by omega
      have HF := hide (show sumTop (L.take k) = sumTop L from by rw [HN.out, List.take_length])
      generalize hz : sumTop (L.take k) = z at HF ⊢
      have HZ := hide hz
      clear hz
      go_wp2
      go_returns
      exact ⟨by rw [← HF.out]; rfl, q⟩
theorem specSD_any (s : ByteArray) (gd : Nat) (L : List St) (n : Nat) (hN : n = L.length) (w : World) (hs : s.size ≤ 1048576) (hD : StAt w gd 0 L) : Calls Tryd.prog 33 #[.string s, .slice (some ⟨gd, 0, none⟩) n n] w fun e w' => e = .returned (.tuple #[.int .i64 (sdV s.data.toList L), .bool (adB s.data.toList L)]) ∧ Below w.heap.size w w' := by
  unfold sdV
  cases h : isBd s.data.toList
  · rw [adB_no h, if_neg (by decide)]
    exact specSD_bad s _ w hs h
  · cases h2 : tog s.data.toList L
    · rw [adB_off h2, if_neg (by decide)]
      exact specSD_off s gd L n hN w hs hD h h2
    · rw [adB_on h h2, if_pos rfl]
      exact specSD_on s gd L n hN w hs hD h h2

set_option maxHeartbeats 800000 in
theorem implSD_bad (s : ByteArray) (v : Value) (w : World) (hs : s.size ≤ 1048576) (hg : Glob w) (h : isBd s.data.toList = false) : Calls Tryd.prog 34 #[.string s, v] w fun e w' => e = .returned (.tuple #[.int .i64 0, .bool false]) ∧ Below w.heap.size w w' := by
  have H := hide h
  clear h
  go_enter Tryd.func34, Tryd.ntmps34
  go_wp2_with fail
  refine (rowsUD_bad s v _ hs hg H.out).mono ?_
  rintro e w1 ⟨rfl, hb1⟩
  have q1 := hb1
  go_wp2
  go_returns
  exact ⟨rfl, q1⟩
set_option maxHeartbeats 800000 in
theorem implSD_off (s : ByteArray) (gd : Nat) (L : List St) (n : Nat) (hN : n = L.length) (w : World) (hs : s.size ≤ 1048576) (hg : Glob w) (hD : StAt w gd 0 L) (h : isBd s.data.toList = true) (h2 : tog s.data.toList L = false) : Calls Tryd.prog 34 #[.string s, .slice (some ⟨gd, 0, none⟩) n n] w fun e w' => e = .returned (.tuple #[.int .i64 0, .bool false]) ∧ Below w.heap.size w w' := by
  have H := hide h
  have H2 := hide h2
  have HN := hide hN
  have HD := hide hD
  clear h h2 hN hD
  go_enter Tryd.func34, Tryd.ntmps34
  go_wp2_with fail
  refine (rowsUD_off s gd L n HN.out _ hs hg HD.out H.out H2.out).mono ?_
  rintro e w1 ⟨rfl, hb1⟩
  have q1 := hb1
  go_wp2
  go_returns
  exact ⟨rfl, q1⟩
set_option maxHeartbeats 1600000 in
theorem implSD_on (s : ByteArray) (gd : Nat) (L : List St) (n : Nat) (hN : n = L.length) (w : World) (hs : s.size ≤ 1048576) (hg : Glob w) (hD : StAt w gd 0 L) (h : isBd s.data.toList = true) (h2 : tog s.data.toList L = true) : Calls Tryd.prog 34 #[.string s, .slice (some ⟨gd, 0, none⟩) n n] w fun e w' => e = .returned (.tuple #[.int .i64 (sumTop L), .bool true]) ∧ Below w.heap.size w w' := by
  obtain ⟨n1, n3, hall⟩ := tog_facts h2
  have HSL := hide (sumTop_le hall)
  have HALL := hide hall
  have hn3 : n ≤ 3 := by omega
  have H := hide h
  have H2 := hide h2
  have HN := hide hN
  have HD := hide hD
  clear h h2 hN hD hall n1 n3
  go_enter Tryd.func34, Tryd.ntmps34
  go_wp2_with fail
  refine (rowsUD_on s gd L n HN.out _ hs hg HD.out H.out H2.out).mono ?_
  rintro e w1 ⟨gR, rfl, hR, q1⟩
  clear hR
  have D1 := hide (stAt_to (w0 := w) q1 HD.out rfl)
  go_wp2
  skip
  go_loopw [8, 21] (fun sm i wr => ∃ k : Nat, k ≤ n ∧ i = .int .i64 (k : Int) ∧ sm = .int .i64 (sumTop (L.take k)) ∧ Below w.heap.size w wr) (fun _ i _ => n - (intOf i).toNat)
  case atStart => exact ⟨0, Nat.zero_le _, rfl, rfl, q1⟩
  case round =>
    obtain ⟨k, hk, rfl, rfl, q⟩ := hrel
    clear q1
    by_cases hlt : k < n
    · have hx : L[k]? = some (L[k]'(by have := HN.out; omega)) := List.getElem?_eq_getElem (by have := HN.out; omega)
      generalize L[k]'(by have := HN.out; omega) = u at hx
      obtain ⟨a0, a1, a2, a3, a4, a5, a6, a7⟩ := (stAt_to q HD.out rfl).cells0 hx
      have hki : (k : Int) < (n : Int) := by omega
      obtain ⟨t0, t1⟩ := stL_top (HALL.out k u hx).1
      obtain ⟨b0, b1⟩ := HSL.out k (by have := HN.out; omega)
      have HS := hide (sumTop_snoc hx)
      generalize hz : sumTop (L.take k) = z at b0 b1 HS ⊢
      clear hx hz
      go_upto_region 8 with (fail)
      have S1 := IsS.new (w := wr) (s := u) (ty := 57)
      have q2 := q.alloc q.size (.cells #[.int .i64 u.x, .int .i64 u.y, .int .i64 u.d.t, .int .i64 u.d.n, .int .i64 u.d.e, .int .i64 u.d.s, .int .i64 u.d.w, .int .i64 u.d.b] 57)
      obtain ⟨l0, ⟨-, -, c2, -, -, -, -, -⟩, -⟩ := S1.all
      clear a0 a1 a2 a3 a4 a5 a6 a7 q
      go_wp2
      go_roundw
      case rel => exact ⟨k + 1, by omega, by go_num, by rw [HS.out], q2⟩
      case measure => simp [intOf] <;> omega
    · obtain rfl : k = n := by omega
      have HF := hide (show sumTop (L.take k) = sumTop L from by rw [HN.out, List.take_length])
      generalize hz : sumTop (L.take k) = z at HF ⊢
      have HZ := hide hz
      clear hz
      go_wp2
      go_returns
      exact ⟨by rw [← HF.out]; rfl, q⟩
theorem implSD_any (s : ByteArray) (gd : Nat) (L : List St) (n : Nat) (hN : n = L.length) (w : World) (hs : s.size ≤ 1048576) (hg : Glob w) (hD : StAt w gd 0 L) : Calls Tryd.prog 34 #[.string s, .slice (some ⟨gd, 0, none⟩) n n] w fun e w' => e = .returned (.tuple #[.int .i64 (sdV s.data.toList L), .bool (adB s.data.toList L)]) ∧ Below w.heap.size w w' := by
  unfold sdV
  cases h : isBd s.data.toList
  · rw [adB_no h, if_neg (by decide)]
    exact implSD_bad s _ w hs hg h
  · cases h2 : tog s.data.toList L
    · rw [adB_off h2, if_neg (by decide)]
      exact implSD_off s gd L n hN w hs hg hD h h2
    · rw [adB_on h h2, if_pos rfl]
      exact implSD_on s gd L n hN w hs hg hD h h2
end Go.Proofs.YtdndegonpdakkaaDoor
