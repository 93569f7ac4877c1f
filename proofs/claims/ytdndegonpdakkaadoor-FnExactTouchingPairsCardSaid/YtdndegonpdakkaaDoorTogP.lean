/- Dice together: the program's areTogether, rowsUnderDice, AreDice. -/
import Derived.Test.YtdndegonpdakkaaDoorTogI
import Derived.Test.YtdndegonpdakkaaDoorTogA
namespace Go.Proofs.YtdndegonpdakkaaDoor
set_option maxRecDepth 100000
set_option linter.all false
open Go.RowKit
attribute [local go_sem ↓] Go.wp_at_zero Go.wp_at_succ

/-- What holds at the loop's head of areTogether. -/
def TogJ (w wr : World) (gR gd : Nat) (s : ByteArray) (L : List St) : Prop := RowsAt wr gR (rowsB s) ∧ StAt wr gd 0 L ∧ Below w.heap.size w wr
theorem togJ_to {w wr w0 w1 : World} {gR gd : Nat} {s : ByteArray} {L : List St} (hb : Below w0.heap.size w0 w1) (h : TogJ w wr gR gd s L) (e : w0.heap = wr.heap) (e2 : w0.os = wr.os) (e3 : w0.tape = wr.tape) (e4 : w0.output = wr.output) : TogJ w w1 gR gd s L :=
  ⟨rowsAt_to hb h.1 e, stAt_to hb h.2.1 e, below_to hb h.2.2 h.2.2.size e e2 e3 e4⟩
theorem togJ_alloc {w wr : World} {gR gd : Nat} {s : ByteArray} {L : List St} (h : TogJ w wr gR gd s L) (o : Obj) : TogJ w (wr.alloc o) gR gd s L :=
  ⟨rowsAt_to (w0 := wr) ((Below.refl _ _).alloc (Nat.le_refl _) _) h.1 rfl, stAt_to (w0 := wr) ((Below.refl _ _).alloc (Nat.le_refl _) _) h.2.1 rfl, h.2.2.alloc h.2.2.size _⟩
set_option maxHeartbeats 4000000 in
theorem areTogether_any (s : ByteArray) (gR gd : Nat) (L : List St) (n : Nat) (hN : n = L.length) (w : World) (hs : s.size ≤ 1048576) (hb : isBd s.data.toList = true) (hR : RowsAt w gR (rowsB s)) (hD : StAt w gd 0 L) : Calls Tryd.prog 39 #[.slice (some ⟨gR, 0, none⟩) (rowsB s).length (rowsB s).length, .slice (some ⟨gd, 0, none⟩) n n] w fun e w' => e = .returned (.bool (tog s.data.toList L)) ∧ Below w.heap.size w w' := by
  have HT := hide (show TogJ w w gR gd s L from ⟨hR, hD, Below.refl _ _⟩)
  have HN := hide hN
  have HON := hide (fun (t : St) (wx : World) (ha : RowsAt wx gR (rowsB s)) => isStateOn_any s gR t wx hs hb ha)
  clear hb hR hD hN
  generalize (rowsB s).length = nr at HON ⊢
  by_cases h1 : 1 ≤ n
  · have h1' : ¬ (n : Int) < 1 := by omega
    by_cases h3 : n ≤ 3
    · have HL := hide (tog_all (l := s.data.toList) (L := L) (by have := HN.out; omega) (by have := HN.out; omega))
      go_enter Tryd.func39, Tryd.ntmps39
      go_wp2
      go_loopw [17] (fun i wr => ∃ k : Nat, k ≤ n ∧ i = .int .i64 (k : Int) ∧ togK s.data.toList L k = true ∧ TogJ w wr gR gd s L) (fun i _ => n - (intOf i).toNat)
      case atStart => exact ⟨0, Nat.zero_le _, rfl, rfl, HT.out⟩
      case round =>
        obtain ⟨k, hk, rfl, hall, T⟩ := hrel
        have HALL := hide hall
        clear hall HT
        by_cases hlt : k < n
        · have hx : L[k]? = some (L[k]'(by have := HN.out; omega)) := List.getElem?_eq_getElem (by have := HN.out; omega)
          generalize L[k]'(by have := HN.out; omega) = u at hx
          obtain ⟨a0, a1, a2, a3, a4, a5, a6, a7⟩ := T.2.1.cells0 hx
          have hki : (k : Int) < (n : Int) := by omega
          have hkn : (k : Int) ≤ (n : Int) := by omega
          have hk0 : (0 : Int) ≤ (k : Int) := by omega
          have HOK := hide (okAt_some (l := s.data.toList) hx)
          have HX := hide hx
          clear hx
          go_upto_region 6 with (fail)
          have T1 := togJ_alloc T (.cells #[.int .i64 u.x, .int .i64 u.y, .int .i64 u.d.t, .int .i64 u.d.n, .int .i64 u.d.e, .int .i64 u.d.s, .int .i64 u.d.w, .int .i64 u.d.b] 57)
          have S1 := IsS.new (w := wr) (s := u) (ty := 57)
          clear a0 a1 a2 a3 a4 a5 a6 a7 T
          obtain ⟨B1, hB⟩ : ∃ B1, B1 = wr.heap.size := ⟨_, rfl⟩
          rw [← hB] at S1
          rw [← hB]
          generalize wr.alloc (.cells #[.int .i64 u.x, .int .i64 u.y, .int .i64 u.d.t, .int .i64 u.d.n, .int .i64 u.d.e, .int .i64 u.d.s, .int .i64 u.d.w, .int .i64 u.d.b] 57) = W1 at T1 S1 ⊢
          clear hB
          obtain ⟨_, ⟨c0, c1, c2, c3, c4, c5, c6, c7⟩, -⟩ := S1.all
          have HR1 := hide (show RowsAt W1.drew gR (rowsB s) from T1.1)
          have HT1 := hide T1
          have HS1 := hide S1
          clear T1 S1
          cases hst : stL s.data.toList u
          · have HST := hide hst
            have HF := hide (togK_no (l := s.data.toList) (L := L) (j := k) (k := n) (by rw [HOK.out, hst]; rfl) hlt)
            clear hst
            refine wp_region_held_drew (S := (fun w' => w'.cell? ⟨B1, 0, none⟩ = some (.int .i64 u.x) ∧ w'.cell? ⟨B1, 1, none⟩ = some (.int .i64 u.y) ∧ w'.cell? ⟨B1, 2, none⟩ = some (.int .i64 u.d.t) ∧ w'.cell? ⟨B1, 3, none⟩ = some (.int .i64 u.d.n) ∧ w'.cell? ⟨B1, 4, none⟩ = some (.int .i64 u.d.e) ∧ w'.cell? ⟨B1, 5, none⟩ = some (.int .i64 u.d.s) ∧ w'.cell? ⟨B1, 6, none⟩ = some (.int .i64 u.d.w) ∧ w'.cell? ⟨B1, 7, none⟩ = some (.int .i64 u.d.b))) (by kernel_rfl) (by refine ⟨?_, ?_, ?_, ?_, ?_, ?_, ?_, ?_⟩ <;> assumption) (fun hHeld => ?_)
            refine takeD (i := 0) (v := ?_) 22 rfl rfl (by kernel_rfl) (by kernel_rfl) (by kernel_rfl) (fun _ _ _ h => h) (Or.inl ⟨by rfl, ?_⟩) (by assumption) ?_
            rotate_left 1
            · (intro w hSw; (try dsimp only at hSw); go_simp; (try with_reducible rfl))
            try simp only [Act.put, List.setIfInBounds_toArray, List.set_cons_zero, List.set_cons_succ]
            refine takeD (i := 1) (v := ?_) 23 rfl rfl (by kernel_rfl) (by kernel_rfl) (by kernel_rfl) (fun _ _ _ h => h) (Or.inl ⟨by rfl, ?_⟩) (by assumption) ?_
            rotate_left 1
            · (intro w hSw; (try dsimp only at hSw); go_simp; (try with_reducible rfl))
            try simp only [Act.put, List.setIfInBounds_toArray, List.set_cons_zero, List.set_cons_succ]
            refine wpAnyH_ready (rs := [2]) (by kernel_rfl) (by simp) ?_
            refine AllReadyH.cons (o := _) rfl (fun K hK => ?_) AllReadyH.nil
            go_simp
            go_at_call 63
            (with_reducible refine (HON.out u _ HR1.out).mono ?_)
            rintro e w3 ⟨rfl, hb3⟩
            rw [HST.out]
            have HT3 := hide (togJ_to hb3 HT1.out rfl rfl rfl rfl)
            have HS3 := hide (isS_to hb3 HS1.out rfl)
            clear hb3
            obtain ⟨_, ⟨y0, y1, y2, y3, y4, y5, y6, y7⟩, -⟩ := HS3.out.all
            dsimp only
            refine hK.out _ _ (by refine ⟨?_, ?_, ?_, ?_, ?_, ?_, ?_, ?_⟩ <;> assumption) (fun hHeld_1 => ?_)
            clear hK
            try simp only [Act.put, List.setIfInBounds_toArray, List.set_cons_zero, List.set_cons_succ]
            refine takeD (i := 3) (v := ?_) 25 rfl rfl (by kernel_rfl) (by kernel_rfl) (by kernel_rfl) (fun _ _ _ h => h) (Or.inl ⟨by rfl, ?_⟩) (by assumption) ?_
            rotate_left 1
            · (intro w hSw; (try dsimp only at hSw); go_simp; (try with_reducible rfl))
            try simp only [Act.put, List.setIfInBounds_toArray, List.set_cons_zero, List.set_cons_succ]
            refine takeD (i := 4) (v := ?_) 26 rfl rfl (by kernel_rfl) (by kernel_rfl) (by kernel_rfl) (fun _ _ _ h => h) (Or.inl ⟨by rfl, ?_⟩) (by assumption) ?_
            rotate_left 1
            · (intro w hSw; (try dsimp only at hSw); go_simp; (try with_reducible rfl))
            try simp only [Act.put, List.setIfInBounds_toArray, List.set_cons_zero, List.set_cons_succ]
            refine takeD (i := 5) (v := undef) 27 rfl rfl (by kernel_rfl) (by kernel_rfl) (by kernel_rfl) (fun _ _ _ h => h) (Or.inr ⟨by kernel_rfl, rfl⟩) (by assumption) ?_
            try simp only [Act.put, List.setIfInBounds_toArray, List.set_cons_zero, List.set_cons_succ]
            refine takeD (i := 6) (v := undef) 28 rfl rfl (by kernel_rfl) (by kernel_rfl) (by kernel_rfl) (fun _ _ _ h => h) (Or.inr ⟨by kernel_rfl, rfl⟩) (by assumption) ?_
            try simp only [Act.put, List.setIfInBounds_toArray, List.set_cons_zero, List.set_cons_succ]
            refine takeD (i := 7) (v := undef) 29 rfl rfl (by kernel_rfl) (by kernel_rfl) (by kernel_rfl) (fun _ _ _ h => h) (Or.inr ⟨by kernel_rfl, rfl⟩) (by assumption) ?_
            try simp only [Act.put, List.setIfInBounds_toArray, List.set_cons_zero, List.set_cons_succ]
            refine takeD (i := 8) (v := undef) 30 rfl rfl (by kernel_rfl) (by kernel_rfl) (by kernel_rfl) (fun _ _ _ h => h) (Or.inr ⟨by kernel_rfl, rfl⟩) (by assumption) ?_
            try simp only [Act.put, List.setIfInBounds_toArray, List.set_cons_zero, List.set_cons_succ]
            refine takeD (i := 9) (v := undef) 31 rfl rfl (by kernel_rfl) (by kernel_rfl) (by kernel_rfl) (fun _ _ _ h => h) (Or.inr ⟨by kernel_rfl, rfl⟩) (by assumption) ?_
            try simp only [Act.put, List.setIfInBounds_toArray, List.set_cons_zero, List.set_cons_succ]
            refine takeD (i := 10) (v := undef) 32 rfl rfl (by kernel_rfl) (by kernel_rfl) (by kernel_rfl) (fun _ _ _ h => h) (Or.inr ⟨by kernel_rfl, rfl⟩) (by assumption) ?_
            try simp only [Act.put, List.setIfInBounds_toArray, List.set_cons_zero, List.set_cons_succ]
            refine takeD (i := 11) (v := ?_) 33 rfl rfl (by kernel_rfl) (by kernel_rfl) (by kernel_rfl) (fun _ _ _ h => h) (Or.inl ⟨by rfl, ?_⟩) (by assumption) ?_
            rotate_left 1
            · (intro w hSw; (try dsimp only at hSw); go_simp; (try with_reducible rfl))
            try simp only [Act.put, List.setIfInBounds_toArray, List.set_cons_zero, List.set_cons_succ]
            refine wpAnyH_done (by kernel_rfl) ?_ _

            go_wp2
            go_returns
            exact ⟨ret_bool (by rw [HL.out, ← HN.out]; exact HF.out.symm), HT3.out.2.2⟩
          · have HST := hide hst
            clear hst
            cases hin : inAny (L.take k) u.x u.y
            · have HIN := hide hin
              have HF := hide (show togK s.data.toList L (k + 1) = true from by rw [togK_succ, HALL.out, HOK.out, HST.out, hin]; rfl)
              clear hin
              refine wp_region_held_drew (S := (fun w' => w'.cell? ⟨B1, 0, none⟩ = some (.int .i64 u.x) ∧ w'.cell? ⟨B1, 1, none⟩ = some (.int .i64 u.y) ∧ w'.cell? ⟨B1, 2, none⟩ = some (.int .i64 u.d.t) ∧ w'.cell? ⟨B1, 3, none⟩ = some (.int .i64 u.d.n) ∧ w'.cell? ⟨B1, 4, none⟩ = some (.int .i64 u.d.e) ∧ w'.cell? ⟨B1, 5, none⟩ = some (.int .i64 u.d.s) ∧ w'.cell? ⟨B1, 6, none⟩ = some (.int .i64 u.d.w) ∧ w'.cell? ⟨B1, 7, none⟩ = some (.int .i64 u.d.b))) (by kernel_rfl) (by refine ⟨?_, ?_, ?_, ?_, ?_, ?_, ?_, ?_⟩ <;> assumption) (fun hHeld => ?_)
              refine takeD (i := 0) (v := ?_) 22 rfl rfl (by kernel_rfl) (by kernel_rfl) (by kernel_rfl) (fun _ _ _ h => h) (Or.inl ⟨by rfl, ?_⟩) (by assumption) ?_
              rotate_left 1
              · (intro w hSw; (try dsimp only at hSw); go_simp; (try with_reducible rfl))
              try simp only [Act.put, List.setIfInBounds_toArray, List.set_cons_zero, List.set_cons_succ]
              refine takeD (i := 1) (v := ?_) 23 rfl rfl (by kernel_rfl) (by kernel_rfl) (by kernel_rfl) (fun _ _ _ h => h) (Or.inl ⟨by rfl, ?_⟩) (by assumption) ?_
              rotate_left 1
              · (intro w hSw; (try dsimp only at hSw); go_simp; (try with_reducible rfl))
              try simp only [Act.put, List.setIfInBounds_toArray, List.set_cons_zero, List.set_cons_succ]
              refine wpAnyH_ready (rs := [2]) (by kernel_rfl) (by simp) ?_
              refine AllReadyH.cons (o := _) rfl (fun K hK => ?_) AllReadyH.nil
              go_simp
              go_at_call 63
              (with_reducible refine (HON.out u _ HR1.out).mono ?_)
              rintro e w3 ⟨rfl, hb3⟩
              rw [HST.out]
              have HT3 := hide (togJ_to hb3 HT1.out rfl rfl rfl rfl)
              have HS3 := hide (isS_to hb3 HS1.out rfl)
              clear hb3
              obtain ⟨_, ⟨y0, y1, y2, y3, y4, y5, y6, y7⟩, -⟩ := HS3.out.all
              dsimp only
              refine hK.out _ _ (by refine ⟨?_, ?_, ?_, ?_, ?_, ?_, ?_, ?_⟩ <;> assumption) (fun hHeld_1 => ?_)
              clear hK
              try simp only [Act.put, List.setIfInBounds_toArray, List.set_cons_zero, List.set_cons_succ]
              refine takeD (i := 3) (v := ?_) 25 rfl rfl (by kernel_rfl) (by kernel_rfl) (by kernel_rfl) (fun _ _ _ h => h) (Or.inl ⟨by rfl, ?_⟩) (by assumption) ?_
              rotate_left 1
              · (intro w hSw; (try dsimp only at hSw); go_simp; (try with_reducible rfl))
              try simp only [Act.put, List.setIfInBounds_toArray, List.set_cons_zero, List.set_cons_succ]
              refine takeD (i := 4) (v := ?_) 26 rfl rfl (by kernel_rfl) (by kernel_rfl) (by kernel_rfl) (fun _ _ _ h => h) (Or.inl ⟨by rfl, ?_⟩) (by assumption) ?_
              rotate_left 1
              · (intro w hSw; (try dsimp only at hSw); go_simp; (try with_reducible rfl))
              try simp only [Act.put, List.setIfInBounds_toArray, List.set_cons_zero, List.set_cons_succ]
              refine takeD (i := 5) (v := ?_) 27 rfl rfl (by kernel_rfl) (by kernel_rfl) (by kernel_rfl) (fun _ _ _ h => h) (Or.inl ⟨by rfl, ?_⟩) (by assumption) ?_
              rotate_left 1
              · (intro w hSw; (try dsimp only at hSw); go_simp; (try with_reducible rfl))
              try simp only [Act.put, List.setIfInBounds_toArray, List.set_cons_zero, List.set_cons_succ]
              refine takeD (i := 6) (v := ?_) 28 rfl rfl (by kernel_rfl) (by kernel_rfl) (by kernel_rfl) (fun _ _ _ h => h) (Or.inl ⟨by rfl, ?_⟩) (by assumption) ?_
              rotate_left 1
              · (intro w hSw; (try dsimp only at hSw); go_simp; (try with_reducible rfl))
              try simp only [Act.put, List.setIfInBounds_toArray, List.set_cons_zero, List.set_cons_succ]
              refine takeD (i := 7) (v := ?_) 29 rfl rfl (by kernel_rfl) (by kernel_rfl) (by kernel_rfl) (fun _ _ _ h => h) (Or.inl ⟨by rfl, ?_⟩) (by assumption) ?_
              rotate_left 1
              · (intro w hSw; (try dsimp only at hSw); go_simp; (try with_reducible rfl))
              try simp only [Act.put, List.setIfInBounds_toArray, List.set_cons_zero, List.set_cons_succ]
              refine takeD (i := 8) (v := ?_) 30 rfl rfl (by kernel_rfl) (by kernel_rfl) (by kernel_rfl) (fun _ _ _ h => h) (Or.inl ⟨by rfl, ?_⟩) (by assumption) ?_
              rotate_left 1
              · (intro w hSw; (try dsimp only at hSw); go_simp; (try with_reducible rfl))
              try simp only [Act.put, List.setIfInBounds_toArray, List.set_cons_zero, List.set_cons_succ]
              refine wpAnyH_ready (rs := [9]) (by kernel_rfl) (by simp) ?_
              refine AllReadyH.cons (o := _) rfl (fun K hK => ?_) AllReadyH.nil
              go_simp
              go_at_call 65
              (with_reducible refine (inCellOf_any u _).mono ?_)
              rintro e w4 ⟨B2, rfl, hC4, hb4⟩
              have HC4 := hide hC4
              have HT4 := hide (togJ_to hb4 HT3.out rfl rfl rfl rfl)
              have HS4 := hide (isS_to hb4 HS3.out rfl)
              have HD4 := hide (HT4.out.2.1.take k)
              clear hb4 hC4
              obtain ⟨_, ⟨z0, z1, z2, z3, z4, z5, z6, z7⟩, -⟩ := HS4.out.all
              dsimp only
              refine hK.out _ _ (by refine ⟨?_, ?_, ?_, ?_, ?_, ?_, ?_, ?_⟩ <;> assumption) (fun hHeld_2 => ?_)
              clear hK
              try simp only [Act.put, List.setIfInBounds_toArray, List.set_cons_zero, List.set_cons_succ]
              refine wpAnyH_ready (rs := [10]) (by kernel_rfl) (by simp) ?_
              refine AllReadyH.cons (o := _) rfl (fun K hK => ?_) AllReadyH.nil
              go_simp
              go_at_call 64
              (with_reducible refine (hasIn_any (L.take k) k gd n B2 u _ (by rw [List.length_take]; have := HN.out; omega) (by omega) HD4.out HC4.out).mono ?_)
              rintro e w5 ⟨rfl, hb5⟩
              rw [HIN.out]
              have HT5 := hide (togJ_to hb5 HT4.out rfl rfl rfl rfl)
              have HS5 := hide (isS_to hb5 HS4.out rfl)
              clear hb5
              obtain ⟨_, ⟨t0, t1, t2, t3, t4, t5, t6, t7⟩, -⟩ := HS5.out.all
              dsimp only
              refine hK.out _ _ (by refine ⟨?_, ?_, ?_, ?_, ?_, ?_, ?_, ?_⟩ <;> assumption) (fun hHeld_3 => ?_)
              clear hK
              try simp only [Act.put, List.setIfInBounds_toArray, List.set_cons_zero, List.set_cons_succ]
              refine takeD (i := 11) (v := ?_) 33 rfl rfl (by kernel_rfl) (by kernel_rfl) (by kernel_rfl) (fun _ _ _ h => h) (Or.inl ⟨by rfl, ?_⟩) (by assumption) ?_
              rotate_left 1
              · (intro w hSw; (try dsimp only at hSw); go_simp; (try with_reducible rfl))
              try simp only [Act.put, List.setIfInBounds_toArray, List.set_cons_zero, List.set_cons_succ]
              refine wpAnyH_done (by kernel_rfl) ?_ _

              go_wp2
              go_roundw
              case rel => exact ⟨k + 1, by omega, by go_num, HF.out, HT5.out⟩
              case measure => simp [intOf] <;> omega
            · have HIN := hide hin
              have HF := hide (togK_no (l := s.data.toList) (L := L) (j := k) (k := n) (by rw [HOK.out, HST.out, hin]; rfl) hlt)
              clear hin
              refine wp_region_held_drew (S := (fun w' => w'.cell? ⟨B1, 0, none⟩ = some (.int .i64 u.x) ∧ w'.cell? ⟨B1, 1, none⟩ = some (.int .i64 u.y) ∧ w'.cell? ⟨B1, 2, none⟩ = some (.int .i64 u.d.t) ∧ w'.cell? ⟨B1, 3, none⟩ = some (.int .i64 u.d.n) ∧ w'.cell? ⟨B1, 4, none⟩ = some (.int .i64 u.d.e) ∧ w'.cell? ⟨B1, 5, none⟩ = some (.int .i64 u.d.s) ∧ w'.cell? ⟨B1, 6, none⟩ = some (.int .i64 u.d.w) ∧ w'.cell? ⟨B1, 7, none⟩ = some (.int .i64 u.d.b))) (by kernel_rfl) (by refine ⟨?_, ?_, ?_, ?_, ?_, ?_, ?_, ?_⟩ <;> assumption) (fun hHeld => ?_)
              refine takeD (i := 0) (v := ?_) 22 rfl rfl (by kernel_rfl) (by kernel_rfl) (by kernel_rfl) (fun _ _ _ h => h) (Or.inl ⟨by rfl, ?_⟩) (by assumption) ?_
              rotate_left 1
              · (intro w hSw; (try dsimp only at hSw); go_simp; (try with_reducible rfl))
              try simp only [Act.put, List.setIfInBounds_toArray, List.set_cons_zero, List.set_cons_succ]
              refine takeD (i := 1) (v := ?_) 23 rfl rfl (by kernel_rfl) (by kernel_rfl) (by kernel_rfl) (fun _ _ _ h => h) (Or.inl ⟨by rfl, ?_⟩) (by assumption) ?_
              rotate_left 1
              · (intro w hSw; (try dsimp only at hSw); go_simp; (try with_reducible rfl))
              try simp only [Act.put, List.setIfInBounds_toArray, List.set_cons_zero, List.set_cons_succ]
              refine wpAnyH_ready (rs := [2]) (by kernel_rfl) (by simp) ?_
              refine AllReadyH.cons (o := _) rfl (fun K hK => ?_) AllReadyH.nil
              go_simp
              go_at_call 63
              (with_reducible refine (HON.out u _ HR1.out).mono ?_)
              rintro e w3 ⟨rfl, hb3⟩
              rw [HST.out]
              have HT3 := hide (togJ_to hb3 HT1.out rfl rfl rfl rfl)
              have HS3 := hide (isS_to hb3 HS1.out rfl)
              clear hb3
              obtain ⟨_, ⟨y0, y1, y2, y3, y4, y5, y6, y7⟩, -⟩ := HS3.out.all
              dsimp only
              refine hK.out _ _ (by refine ⟨?_, ?_, ?_, ?_, ?_, ?_, ?_, ?_⟩ <;> assumption) (fun hHeld_1 => ?_)
              clear hK
              try simp only [Act.put, List.setIfInBounds_toArray, List.set_cons_zero, List.set_cons_succ]
              refine takeD (i := 3) (v := ?_) 25 rfl rfl (by kernel_rfl) (by kernel_rfl) (by kernel_rfl) (fun _ _ _ h => h) (Or.inl ⟨by rfl, ?_⟩) (by assumption) ?_
              rotate_left 1
              · (intro w hSw; (try dsimp only at hSw); go_simp; (try with_reducible rfl))
              try simp only [Act.put, List.setIfInBounds_toArray, List.set_cons_zero, List.set_cons_succ]
              refine takeD (i := 4) (v := ?_) 26 rfl rfl (by kernel_rfl) (by kernel_rfl) (by kernel_rfl) (fun _ _ _ h => h) (Or.inl ⟨by rfl, ?_⟩) (by assumption) ?_
              rotate_left 1
              · (intro w hSw; (try dsimp only at hSw); go_simp; (try with_reducible rfl))
              try simp only [Act.put, List.setIfInBounds_toArray, List.set_cons_zero, List.set_cons_succ]
              refine takeD (i := 5) (v := ?_) 27 rfl rfl (by kernel_rfl) (by kernel_rfl) (by kernel_rfl) (fun _ _ _ h => h) (Or.inl ⟨by rfl, ?_⟩) (by assumption) ?_
              rotate_left 1
              · (intro w hSw; (try dsimp only at hSw); go_simp; (try with_reducible rfl))
              try simp only [Act.put, List.setIfInBounds_toArray, List.set_cons_zero, List.set_cons_succ]
              refine takeD (i := 6) (v := ?_) 28 rfl rfl (by kernel_rfl) (by kernel_rfl) (by kernel_rfl) (fun _ _ _ h => h) (Or.inl ⟨by rfl, ?_⟩) (by assumption) ?_
              rotate_left 1
              · (intro w hSw; (try dsimp only at hSw); go_simp; (try with_reducible rfl))
              try simp only [Act.put, List.setIfInBounds_toArray, List.set_cons_zero, List.set_cons_succ]
              refine takeD (i := 7) (v := ?_) 29 rfl rfl (by kernel_rfl) (by kernel_rfl) (by kernel_rfl) (fun _ _ _ h => h) (Or.inl ⟨by rfl, ?_⟩) (by assumption) ?_
              rotate_left 1
              · (intro w hSw; (try dsimp only at hSw); go_simp; (try with_reducible rfl))
              try simp only [Act.put, List.setIfInBounds_toArray, List.set_cons_zero, List.set_cons_succ]
              refine takeD (i := 8) (v := ?_) 30 rfl rfl (by kernel_rfl) (by kernel_rfl) (by kernel_rfl) (fun _ _ _ h => h) (Or.inl ⟨by rfl, ?_⟩) (by assumption) ?_
              rotate_left 1
              · (intro w hSw; (try dsimp only at hSw); go_simp; (try with_reducible rfl))
              try simp only [Act.put, List.setIfInBounds_toArray, List.set_cons_zero, List.set_cons_succ]
              refine wpAnyH_ready (rs := [9]) (by kernel_rfl) (by simp) ?_
              refine AllReadyH.cons (o := _) rfl (fun K hK => ?_) AllReadyH.nil
              go_simp
              go_at_call 65
              (with_reducible refine (inCellOf_any u _).mono ?_)
              rintro e w4 ⟨B2, rfl, hC4, hb4⟩
              have HC4 := hide hC4
              have HT4 := hide (togJ_to hb4 HT3.out rfl rfl rfl rfl)
              have HS4 := hide (isS_to hb4 HS3.out rfl)
              have HD4 := hide (HT4.out.2.1.take k)
              clear hb4 hC4
              obtain ⟨_, ⟨z0, z1, z2, z3, z4, z5, z6, z7⟩, -⟩ := HS4.out.all
              dsimp only
              refine hK.out _ _ (by refine ⟨?_, ?_, ?_, ?_, ?_, ?_, ?_, ?_⟩ <;> assumption) (fun hHeld_2 => ?_)
              clear hK
              try simp only [Act.put, List.setIfInBounds_toArray, List.set_cons_zero, List.set_cons_succ]
              refine wpAnyH_ready (rs := [10]) (by kernel_rfl) (by simp) ?_
              refine AllReadyH.cons (o := _) rfl (fun K hK => ?_) AllReadyH.nil
              go_simp
              go_at_call 64
              (with_reducible refine (hasIn_any (L.take k) k gd n B2 u _ (by rw [List.length_take]; have := HN.out; omega) (by omega) HD4.out HC4.out).mono ?_)
              rintro e w5 ⟨rfl, hb5⟩
              rw [HIN.out]
              have HT5 := hide (togJ_to hb5 HT4.out rfl rfl rfl rfl)
              have HS5 := hide (isS_to hb5 HS4.out rfl)
              clear hb5
              obtain ⟨_, ⟨t0, t1, t2, t3, t4, t5, t6, t7⟩, -⟩ := HS5.out.all
              dsimp only
              refine hK.out _ _ (by refine ⟨?_, ?_, ?_, ?_, ?_, ?_, ?_, ?_⟩ <;> assumption) (fun hHeld_3 => ?_)
              clear hK
              try simp only [Act.put, List.setIfInBounds_toArray, List.set_cons_zero, List.set_cons_succ]
              refine takeD (i := 11) (v := ?_) 33 rfl rfl (by kernel_rfl) (by kernel_rfl) (by kernel_rfl) (fun _ _ _ h => h) (Or.inl ⟨by rfl, ?_⟩) (by assumption) ?_
              rotate_left 1
              · (intro w hSw; (try dsimp only at hSw); go_simp; (try with_reducible rfl))
              try simp only [Act.put, List.setIfInBounds_toArray, List.set_cons_zero, List.set_cons_succ]
              refine wpAnyH_done (by kernel_rfl) ?_ _

              go_wp2
              go_returns
              exact ⟨ret_bool (by rw [HL.out, ← HN.out]; exact HF.out.symm), HT5.out.2.2⟩
        · obtain rfl : k = n := by omega
          go_wp2
          go_returns
          exact ⟨ret_bool (by rw [HL.out, ← HN.out]; exact HALL.out.symm), T.2.2⟩
    · have HL := hide (tog_many (l := s.data.toList) (L := L) (by have := HN.out; omega))
      have h3' : (3 : Int) < (n : Int) := by omega
      clear HT
      go_enter Tryd.func39, Tryd.ntmps39
      go_wp2
      go_returns
      exact ⟨ret_bool HL.out.symm, Below.refl _ _⟩
  · have HL := hide (tog_few (l := s.data.toList) (L := L) (by have := HN.out; omega))
    have h1' : (n : Int) < 1 := by omega
    clear HT
    go_enter Tryd.func39, Tryd.ntmps39
    go_wp2
    go_returns
    exact ⟨ret_bool HL.out.symm, Below.refl _ _⟩

set_option maxHeartbeats 800000 in
theorem implAD_no (s : ByteArray) (v : Value) (w : World) (hs : s.size ≤ 1048576) (hg : Glob w) (h : isBd s.data.toList = false) : Calls Tryd.prog 13 #[.string s, v] w fun e w' => e = .returned (.tuple #[.bool false, .bool false]) ∧ Below w.heap.size w w' := by
  have H := hide h
  clear h
  go_enter Tryd.func13, Tryd.ntmps13
  go_wp2_with fail
  refine (rowsOf_no s _ hs hg H.out).mono ?_
  rintro e w1 ⟨rfl, hb1⟩
  go_wp2
  go_returns
  exact ⟨rfl, hb1⟩
set_option maxHeartbeats 800000 in
theorem implAD_yes (s : ByteArray) (gd : Nat) (L : List St) (n : Nat) (hN : n = L.length) (w : World) (hs : s.size ≤ 1048576) (hg : Glob w) (hD : StAt w gd 0 L) (h : isBd s.data.toList = true) : Calls Tryd.prog 13 #[.string s, .slice (some ⟨gd, 0, none⟩) n n] w fun e w' => e = .returned (.tuple #[.bool (tog s.data.toList L), .bool true]) ∧ Below w.heap.size w w' := by
  have HN := hide hN
  have HD := hide hD
  have H := hide h
  clear hN hD h
  go_enter Tryd.func13, Tryd.ntmps13
  go_wp2_with fail
  refine (rowsOf_yes s _ hs hg H.out).mono ?_
  rintro e w1 ⟨rfl, hR, hb1⟩
  have HR := hide hR
  have D1 := hide (stAt_to hb1 HD.out rfl)
  clear hR
  go_wp2_with fail
  refine (areTogether_any s _ gd L n HN.out _ hs H.out HR.out D1.out).mono ?_
  rintro e w2 ⟨rfl, hb2⟩
  have q2 := below_to hb2 hb1 hb1.size rfl rfl rfl rfl
  clear hb2 hb1
  generalize hz : tog s.data.toList L = z
  have HZ := hide hz
  clear hz
  go_wp2
  go_returns
  exact ⟨by rw [HZ.out]; rfl, q2⟩
theorem implAD_any (s : ByteArray) (gd : Nat) (L : List St) (n : Nat) (hN : n = L.length) (w : World) (hs : s.size ≤ 1048576) (hg : Glob w) (hD : StAt w gd 0 L) : Calls Tryd.prog 13 #[.string s, .slice (some ⟨gd, 0, none⟩) n n] w fun e w' => e = .returned (.tuple #[.bool (adB s.data.toList L), .bool (isBd s.data.toList)]) ∧ Below w.heap.size w w' := by
  unfold adB
  cases h : isBd s.data.toList
  · exact implAD_no s _ w hs hg h
  · exact implAD_yes s gd L n hN w hs hg hD h
/-! ### rowsUnderDice -/
set_option maxHeartbeats 800000 in
theorem rowsUD_bad (s : ByteArray) (v : Value) (w : World) (hs : s.size ≤ 1048576) (hg : Glob w) (h : isBd s.data.toList = false) : Calls Tryd.prog 44 #[.string s, v] w fun e w' => e = .returned (.tuple #[.slice none 0 0, .bool false]) ∧ Below w.heap.size w w' := by
  have H := hide h
  clear h
  go_enter Tryd.func44, Tryd.ntmps44
  go_wp2_with fail
  refine (rowsOf_no s _ hs hg H.out).mono ?_
  rintro e w1 ⟨rfl, hb1⟩
  go_wp2
  go_returns
  exact ⟨rfl, hb1⟩
set_option maxHeartbeats 800000 in
theorem rowsUD_off (s : ByteArray) (gd : Nat) (L : List St) (n : Nat) (hN : n = L.length) (w : World) (hs : s.size ≤ 1048576) (hg : Glob w) (hD : StAt w gd 0 L) (h : isBd s.data.toList = true) (h2 : tog s.data.toList L = false) : Calls Tryd.prog 44 #[.string s, .slice (some ⟨gd, 0, none⟩) n n] w fun e w' => e = .returned (.tuple #[.slice none 0 0, .bool false]) ∧ Below w.heap.size w w' := by
  have H := hide h
  have H2 := hide h2
  have HN := hide hN
  have HD := hide hD
  clear h h2 hN hD
  go_enter Tryd.func44, Tryd.ntmps44
  go_wp2_with fail
  refine (rowsOf_yes s _ hs hg H.out).mono ?_
  rintro e w1 ⟨rfl, hR, hb1⟩
  have HR := hide hR
  have D1 := hide (stAt_to hb1 HD.out rfl)
  clear hR
  go_wp2_with fail
  refine (areTogether_any s _ gd L n HN.out _ hs H.out HR.out D1.out).mono ?_
  rintro e w2 ⟨rfl, hb2⟩
  rw [H2.out]
  have q2 := below_to hb2 hb1 hb1.size rfl rfl rfl rfl
  clear hb2 hb1
  go_wp2
  go_returns
  exact ⟨rfl, q2⟩
set_option maxHeartbeats 800000 in
theorem rowsUD_on (s : ByteArray) (gd : Nat) (L : List St) (n : Nat) (hN : n = L.length) (w : World) (hs : s.size ≤ 1048576) (hg : Glob w) (hD : StAt w gd 0 L) (h : isBd s.data.toList = true) (h2 : tog s.data.toList L = true) : Calls Tryd.prog 44 #[.string s, .slice (some ⟨gd, 0, none⟩) n n] w fun e w' => ∃ gR, e = .returned (.tuple #[.slice (some ⟨gR, 0, none⟩) (rowsB s).length (rowsB s).length, .bool true]) ∧ RowsAt w' gR (rowsB s) ∧ Below w.heap.size w w' := by
  have H := hide h
  have H2 := hide h2
  have HN := hide hN
  have HD := hide hD
  clear h h2 hN hD
  go_enter Tryd.func44, Tryd.ntmps44
  go_wp2_with fail
  refine (rowsOf_yes s _ hs hg H.out).mono ?_
  rintro e w1 ⟨rfl, hR, hb1⟩
  have HR := hide hR
  have D1 := hide (stAt_to hb1 HD.out rfl)
  clear hR
  go_wp2_with fail
  refine (areTogether_any s _ gd L n HN.out _ hs H.out HR.out D1.out).mono ?_
  rintro e w2 ⟨rfl, hb2⟩
  rw [H2.out]
  have q2 := below_to hb2 hb1 hb1.size rfl rfl rfl rfl
  have R2 := rowsAt_to hb2 HR.out rfl
  clear hb2 hb1
  go_wp2
  go_returns
  exact ⟨_, rfl, R2, q2⟩
end Go.Proofs.YtdndegonpdakkaaDoor
