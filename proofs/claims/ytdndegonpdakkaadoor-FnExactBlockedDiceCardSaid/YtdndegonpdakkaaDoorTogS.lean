/- Dice together: the model's myGood, myAsked, AreDice. -/
import Derived.Test.YtdndegonpdakkaaDoorTogI
namespace Go.Proofs.YtdndegonpdakkaaDoor
set_option maxRecDepth 100000
set_option linter.all false
open Go.RowKit
attribute [local go_sem ↓] Go.wp_at_zero Go.wp_at_succ

/-- What holds at the loop's head of myGood. -/
def TogI (w wr : World) (W H m g cap gd : Nat) (F : List UInt8) (L : List St) : Prop := IsG wr w.heap.size (W : Int) (H : Int) (.slice (some ⟨g, 0, none⟩) m cap) ∧ BytesAt wr g F ∧ StAt wr gd 0 L ∧ Below w.heap.size w wr
theorem togI_to {w wr w0 w1 : World} {W H m g cap gd : Nat} {F : List UInt8} {L : List St} (hb : Below w0.heap.size w0 w1) (h : TogI w wr W H m g cap gd F L) (e : w0.heap = wr.heap) (e2 : w0.os = wr.os) (e3 : w0.tape = wr.tape) (e4 : w0.output = wr.output) : TogI w w1 W H m g cap gd F L :=
  ⟨isG_to hb h.1 e, bytesAt_to hb h.2.1 e, stAt_to hb h.2.2.1 e, below_to hb h.2.2.2 (by rw [← e]; have := h.2.2.2.size; rw [e]; exact this) e e2 e3 e4⟩
theorem togI_alloc {w wr : World} {W H m g cap gd : Nat} {F : List UInt8} {L : List St} (h : TogI w wr W H m g cap gd F L) (o : Obj) : TogI w (wr.alloc o) W H m g cap gd F L :=
  ⟨h.1.alloc o, bytesAt_to (w0 := wr) ((Below.refl _ _).alloc (Nat.le_refl _) _) h.2.1 rfl, stAt_to (w0 := wr) ((Below.refl _ _).alloc (Nat.le_refl _) _) h.2.2.1 rfl, h.2.2.2.alloc h.2.2.2.size _⟩
set_option maxHeartbeats 4000000 in
theorem myGood_any (l : List UInt8) (W H m : Nat) (hg : GridOk l W H m) (g cap gd : Nat) (L : List St) (n : Nat) (hN : n = L.length) (w : World) (hA : BytesAt w g (splitP l).flatten) (hD : StAt w gd 0 L) : Calls Tryd.prog 36 #[gridV W H m g cap, .slice (some ⟨gd, 0, none⟩) n n] w fun e w' => e = .returned (.bool (tog l L)) ∧ Below w.heap.size w w' := by
  have HG := hide hg
  have HT := hide (show TogI w (w.alloc (.cells #[.int .i64 (W : Int), .int .i64 (H : Int), .slice (some ⟨g, 0, none⟩) m cap] 50)) W H m g cap gd (splitP l).flatten L from
    ⟨IsG.new, bytesAt_to (w0 := w) ((Below.refl _ _).alloc (Nat.le_refl _) _) hA rfl, stAt_to (w0 := w) ((Below.refl _ _).alloc (Nat.le_refl _) _) hD rfl, (Below.refl _ _).alloc (Nat.le_refl _) _⟩)
  have HN := hide hN
  clear hg hA hD hN
  by_cases h1 : 1 ≤ n
  · by_cases h3 : n ≤ 3
    · have HL := hide (tog_all (l := l) (L := L) (by have := HN.out; omega) (by have := HN.out; omega))
      have HC := hide (fun wx => l1In_as (n : Int) 1 3 true (decide_eq_true (by omega)) wx)
      go_enter Tryd.func36, Tryd.ntmps36
      go_wp2_with (go_at_call 50; refine (HC.out _).mono ?_; rintro e w' ⟨rfl, rfl⟩)
      go_loopw [13] (fun i wr => ∃ k : Nat, k ≤ n ∧ i = .int .i64 (k : Int) ∧ togK l L k = true ∧ TogI w wr W H m g cap gd (splitP l).flatten L) (fun i _ => n - (intOf i).toNat)
      case atStart => exact ⟨0, Nat.zero_le _, rfl, rfl, HT.out⟩
      case round =>
        obtain ⟨k, hk, rfl, hall, T⟩ := hrel
        have HALL := hide hall
        clear hall HT
        by_cases hlt : k < n
        · have hx : L[k]? = some (L[k]'(by have := HN.out; omega)) := List.getElem?_eq_getElem (by have := HN.out; omega)
          generalize L[k]'(by have := HN.out; omega) = u at hx
          obtain ⟨a0, a1, a2, a3, a4, a5, a6, a7⟩ := T.2.2.1.cells0 hx
          have hki : (k : Int) < (n : Int) := by omega
          have hkn : (k : Int) ≤ (n : Int) := by omega
          have hk0 : (0 : Int) ≤ (k : Int) := by omega
          have HOK := hide (okAt_some (l := l) hx)
          have HX := hide hx
          clear hx
          go_upto_region 6 with (fail)
          have T1 := togI_alloc T (.cells #[.int .i64 u.x, .int .i64 u.y, .int .i64 u.d.t, .int .i64 u.d.n, .int .i64 u.d.e, .int .i64 u.d.s, .int .i64 u.d.w, .int .i64 u.d.b] 57)
          have hBn := T.1.lt
          have S1 := IsS.new (w := wr) (s := u) (ty := 57)
          clear a0 a1 a2 a3 a4 a5 a6 a7 T
          obtain ⟨B1, hB⟩ : ∃ B1, B1 = wr.heap.size := ⟨_, rfl⟩
          rw [← hB] at S1 hBn
          rw [← hB]
          generalize wr.alloc (.cells #[.int .i64 u.x, .int .i64 u.y, .int .i64 u.d.t, .int .i64 u.d.n, .int .i64 u.d.e, .int .i64 u.d.s, .int .i64 u.d.w, .int .i64 u.d.b] 57) = W1 at T1 S1 ⊢
          clear hB
          obtain ⟨_, ⟨d0, d1, d2⟩, -⟩ := T1.1.all
          obtain ⟨_, ⟨c0, c1, c2, c3, c4, c5, c6, c7⟩, -⟩ := S1.all
          have HA1 := hide (show BytesAt W1.drew g (splitP l).flatten from T1.2.1)
          have HT1 := hide T1
          have HS1 := hide S1
          clear T1 S1
          cases hst : stL l u
          · have HST := hide hst
            have HF := hide (togK_no (l := l) (L := L) (j := k) (k := n) (by rw [HOK.out, hst]; rfl) hlt)
            clear hst
            refine wp_region_held_drew (S := (fun w' => w'.cell? ⟨w.heap.size, 0, none⟩ = some (.int .i64 (W : Int)) ∧ w'.cell? ⟨w.heap.size, 1, none⟩ = some (.int .i64 (H : Int)) ∧ w'.cell? ⟨w.heap.size, 2, none⟩ = some (.slice (some ⟨g, 0, none⟩) m cap) ∧ w'.cell? ⟨B1, 0, none⟩ = some (.int .i64 u.x) ∧ w'.cell? ⟨B1, 1, none⟩ = some (.int .i64 u.y) ∧ w'.cell? ⟨B1, 2, none⟩ = some (.int .i64 u.d.t) ∧ w'.cell? ⟨B1, 3, none⟩ = some (.int .i64 u.d.n) ∧ w'.cell? ⟨B1, 4, none⟩ = some (.int .i64 u.d.e) ∧ w'.cell? ⟨B1, 5, none⟩ = some (.int .i64 u.d.s) ∧ w'.cell? ⟨B1, 6, none⟩ = some (.int .i64 u.d.w) ∧ w'.cell? ⟨B1, 7, none⟩ = some (.int .i64 u.d.b))) (by kernel_rfl) (by refine ⟨?_, ?_, ?_, ?_, ?_, ?_, ?_, ?_, ?_, ?_, ?_⟩ <;> assumption) (fun hHeld => ?_)
            refine takeD (i := 0) (v := ?_) 18 rfl rfl (by kernel_rfl) (by kernel_rfl) (by kernel_rfl) (fun _ _ _ h => h) (Or.inl ⟨by rfl, ?_⟩) (by assumption) ?_
            rotate_left 1
            · (intro w hSw; (try dsimp only at hSw); go_simp; (try with_reducible rfl))
            try simp only [Act.put, List.setIfInBounds_toArray, List.set_cons_zero, List.set_cons_succ]
            refine takeD (i := 1) (v := ?_) 19 rfl rfl (by kernel_rfl) (by kernel_rfl) (by kernel_rfl) (fun _ _ _ h => h) (Or.inl ⟨by rfl, ?_⟩) (by assumption) ?_
            rotate_left 1
            · (intro w hSw; (try dsimp only at hSw); go_simp; (try with_reducible rfl))
            try simp only [Act.put, List.setIfInBounds_toArray, List.set_cons_zero, List.set_cons_succ]
            refine wpAnyH_ready (rs := [2]) (by kernel_rfl) (by simp) ?_
            refine AllReadyH.cons (o := _) rfl (fun K hK => ?_) AllReadyH.nil
            go_simp
            go_at_call 59
            (with_reducible refine (boState_any l W H m HG.out g cap u _ HA1.out).mono ?_)
            rintro e w3 ⟨rfl, hb3⟩
            rw [HST.out]
            have HT3 := hide (togI_to hb3 HT1.out rfl rfl rfl rfl)
            have HS3 := hide (isS_to hb3 HS1.out rfl)
            have HD3 := hide (HT3.out.2.2.1.take k)
            clear hb3
            obtain ⟨_, ⟨x0, x1, x2⟩, -⟩ := HT3.out.1.all
            obtain ⟨_, ⟨y0, y1, y2, y3, y4, y5, y6, y7⟩, -⟩ := HS3.out.all
            dsimp only
            refine hK.out _ _ (by refine ⟨?_, ?_, ?_, ?_, ?_, ?_, ?_, ?_, ?_, ?_, ?_⟩ <;> assumption) (fun hHeld_1 => ?_)
            clear hK
            try simp only [Act.put, List.setIfInBounds_toArray, List.set_cons_zero, List.set_cons_succ]
            refine takeD (i := 3) (v := ?_) 21 rfl rfl (by kernel_rfl) (by kernel_rfl) (by kernel_rfl) (fun _ _ _ h => h) (Or.inl ⟨by rfl, ?_⟩) (by assumption) ?_
            rotate_left 1
            · (intro w hSw; (try dsimp only at hSw); go_simp; (try with_reducible rfl))
            try simp only [Act.put, List.setIfInBounds_toArray, List.set_cons_zero, List.set_cons_succ]
            refine takeD (i := 4) (v := ?_) 22 rfl rfl (by kernel_rfl) (by kernel_rfl) (by kernel_rfl) (fun _ _ _ h => h) (Or.inl ⟨by rfl, ?_⟩) (by assumption) ?_
            rotate_left 1
            · (intro w hSw; (try dsimp only at hSw); go_simp; (try with_reducible rfl))
            try simp only [Act.put, List.setIfInBounds_toArray, List.set_cons_zero, List.set_cons_succ]
            refine takeD (i := 5) (v := undef) 23 rfl rfl (by kernel_rfl) (by kernel_rfl) (by kernel_rfl) (fun _ _ _ h => h) (Or.inr ⟨by kernel_rfl, rfl⟩) (by assumption) ?_
            try simp only [Act.put, List.setIfInBounds_toArray, List.set_cons_zero, List.set_cons_succ]
            refine takeD (i := 6) (v := undef) 24 rfl rfl (by kernel_rfl) (by kernel_rfl) (by kernel_rfl) (fun _ _ _ h => h) (Or.inr ⟨by kernel_rfl, rfl⟩) (by assumption) ?_
            try simp only [Act.put, List.setIfInBounds_toArray, List.set_cons_zero, List.set_cons_succ]
            refine takeD (i := 7) (v := undef) 25 rfl rfl (by kernel_rfl) (by kernel_rfl) (by kernel_rfl) (fun _ _ _ h => h) (Or.inr ⟨by kernel_rfl, rfl⟩) (by assumption) ?_
            try simp only [Act.put, List.setIfInBounds_toArray, List.set_cons_zero, List.set_cons_succ]
            refine takeD (i := 8) (v := undef) 26 rfl rfl (by kernel_rfl) (by kernel_rfl) (by kernel_rfl) (fun _ _ _ h => h) (Or.inr ⟨by kernel_rfl, rfl⟩) (by assumption) ?_
            try simp only [Act.put, List.setIfInBounds_toArray, List.set_cons_zero, List.set_cons_succ]
            refine takeD (i := 9) (v := undef) 27 rfl rfl (by kernel_rfl) (by kernel_rfl) (by kernel_rfl) (fun _ _ _ h => h) (Or.inr ⟨by kernel_rfl, rfl⟩) (by assumption) ?_
            try simp only [Act.put, List.setIfInBounds_toArray, List.set_cons_zero, List.set_cons_succ]
            refine takeD (i := 10) (v := undef) 28 rfl rfl (by kernel_rfl) (by kernel_rfl) (by kernel_rfl) (fun _ _ _ h => h) (Or.inr ⟨by kernel_rfl, rfl⟩) (by assumption) ?_
            try simp only [Act.put, List.setIfInBounds_toArray, List.set_cons_zero, List.set_cons_succ]
            refine takeD (i := 11) (v := undef) 29 rfl rfl (by kernel_rfl) (by kernel_rfl) (by kernel_rfl) (fun _ _ _ h => h) (Or.inr ⟨by kernel_rfl, rfl⟩) (by assumption) ?_
            try simp only [Act.put, List.setIfInBounds_toArray, List.set_cons_zero, List.set_cons_succ]
            refine takeD (i := 12) (v := undef) 30 rfl rfl (by kernel_rfl) (by kernel_rfl) (by kernel_rfl) (fun _ _ _ h => h) (Or.inr ⟨by kernel_rfl, rfl⟩) (by assumption) ?_
            try simp only [Act.put, List.setIfInBounds_toArray, List.set_cons_zero, List.set_cons_succ]
            refine takeD (i := 13) (v := undef) 31 rfl rfl (by kernel_rfl) (by kernel_rfl) (by kernel_rfl) (fun _ _ _ h => h) (Or.inr ⟨by kernel_rfl, rfl⟩) (by assumption) ?_
            try simp only [Act.put, List.setIfInBounds_toArray, List.set_cons_zero, List.set_cons_succ]
            refine takeD (i := 14) (v := ?_) 32 rfl rfl (by kernel_rfl) (by kernel_rfl) (by kernel_rfl) (fun _ _ _ h => h) (Or.inl ⟨by rfl, ?_⟩) (by assumption) ?_
            rotate_left 1
            · (intro w hSw; (try dsimp only at hSw); go_simp; (try with_reducible rfl))
            try simp only [Act.put, List.setIfInBounds_toArray, List.set_cons_zero, List.set_cons_succ]
            refine wpAnyH_done (by kernel_rfl) ?_ _

            go_wp2
            go_returns
            exact ⟨ret_bool (by rw [HL.out, ← HN.out]; exact HF.out.symm), HT3.out.2.2.2⟩
          · have HST := hide hst
            clear hst
            cases hin : inAny (L.take k) u.x u.y
            · have HIN := hide hin
              have HF := hide (show togK l L (k + 1) = true from by rw [togK_succ, HALL.out, HOK.out, HST.out, hin]; rfl)
              clear hin
              refine wp_region_held_drew (S := (fun w' => w'.cell? ⟨w.heap.size, 0, none⟩ = some (.int .i64 (W : Int)) ∧ w'.cell? ⟨w.heap.size, 1, none⟩ = some (.int .i64 (H : Int)) ∧ w'.cell? ⟨w.heap.size, 2, none⟩ = some (.slice (some ⟨g, 0, none⟩) m cap) ∧ w'.cell? ⟨B1, 0, none⟩ = some (.int .i64 u.x) ∧ w'.cell? ⟨B1, 1, none⟩ = some (.int .i64 u.y) ∧ w'.cell? ⟨B1, 2, none⟩ = some (.int .i64 u.d.t) ∧ w'.cell? ⟨B1, 3, none⟩ = some (.int .i64 u.d.n) ∧ w'.cell? ⟨B1, 4, none⟩ = some (.int .i64 u.d.e) ∧ w'.cell? ⟨B1, 5, none⟩ = some (.int .i64 u.d.s) ∧ w'.cell? ⟨B1, 6, none⟩ = some (.int .i64 u.d.w) ∧ w'.cell? ⟨B1, 7, none⟩ = some (.int .i64 u.d.b))) (by kernel_rfl) (by refine ⟨?_, ?_, ?_, ?_, ?_, ?_, ?_, ?_, ?_, ?_, ?_⟩ <;> assumption) (fun hHeld => ?_)
              refine takeD (i := 0) (v := ?_) 18 rfl rfl (by kernel_rfl) (by kernel_rfl) (by kernel_rfl) (fun _ _ _ h => h) (Or.inl ⟨by rfl, ?_⟩) (by assumption) ?_
              rotate_left 1
              · (intro w hSw; (try dsimp only at hSw); go_simp; (try with_reducible rfl))
              try simp only [Act.put, List.setIfInBounds_toArray, List.set_cons_zero, List.set_cons_succ]
              refine takeD (i := 1) (v := ?_) 19 rfl rfl (by kernel_rfl) (by kernel_rfl) (by kernel_rfl) (fun _ _ _ h => h) (Or.inl ⟨by rfl, ?_⟩) (by assumption) ?_
              rotate_left 1
              · (intro w hSw; (try dsimp only at hSw); go_simp; (try with_reducible rfl))
              try simp only [Act.put, List.setIfInBounds_toArray, List.set_cons_zero, List.set_cons_succ]
              refine wpAnyH_ready (rs := [2]) (by kernel_rfl) (by simp) ?_
              refine AllReadyH.cons (o := _) rfl (fun K hK => ?_) AllReadyH.nil
              go_simp
              go_at_call 59
              (with_reducible refine (boState_any l W H m HG.out g cap u _ HA1.out).mono ?_)
              rintro e w3 ⟨rfl, hb3⟩
              rw [HST.out]
              have HT3 := hide (togI_to hb3 HT1.out rfl rfl rfl rfl)
              have HS3 := hide (isS_to hb3 HS1.out rfl)
              have HD3 := hide (HT3.out.2.2.1.take k)
              clear hb3
              obtain ⟨_, ⟨x0, x1, x2⟩, -⟩ := HT3.out.1.all
              obtain ⟨_, ⟨y0, y1, y2, y3, y4, y5, y6, y7⟩, -⟩ := HS3.out.all
              dsimp only
              refine hK.out _ _ (by refine ⟨?_, ?_, ?_, ?_, ?_, ?_, ?_, ?_, ?_, ?_, ?_⟩ <;> assumption) (fun hHeld_1 => ?_)
              clear hK
              try simp only [Act.put, List.setIfInBounds_toArray, List.set_cons_zero, List.set_cons_succ]
              refine takeD (i := 3) (v := ?_) 21 rfl rfl (by kernel_rfl) (by kernel_rfl) (by kernel_rfl) (fun _ _ _ h => h) (Or.inl ⟨by rfl, ?_⟩) (by assumption) ?_
              rotate_left 1
              · (intro w hSw; (try dsimp only at hSw); go_simp; (try with_reducible rfl))
              try simp only [Act.put, List.setIfInBounds_toArray, List.set_cons_zero, List.set_cons_succ]
              refine takeD (i := 4) (v := ?_) 22 rfl rfl (by kernel_rfl) (by kernel_rfl) (by kernel_rfl) (fun _ _ _ h => h) (Or.inl ⟨by rfl, ?_⟩) (by assumption) ?_
              rotate_left 1
              · (intro w hSw; (try dsimp only at hSw); go_simp; (try with_reducible rfl))
              try simp only [Act.put, List.setIfInBounds_toArray, List.set_cons_zero, List.set_cons_succ]
              refine takeD (i := 5) (v := ?_) 23 rfl rfl (by kernel_rfl) (by kernel_rfl) (by kernel_rfl) (fun _ _ _ h => h) (Or.inl ⟨by rfl, ?_⟩) (by assumption) ?_
              rotate_left 1
              · (intro w hSw; (try dsimp only at hSw); go_simp; (try with_reducible rfl))
              try simp only [Act.put, List.setIfInBounds_toArray, List.set_cons_zero, List.set_cons_succ]
              refine takeD (i := 6) (v := ?_) 24 rfl rfl (by kernel_rfl) (by kernel_rfl) (by kernel_rfl) (fun _ _ _ h => h) (Or.inl ⟨by rfl, ?_⟩) (by assumption) ?_
              rotate_left 1
              · (intro w hSw; (try dsimp only at hSw); go_simp; (try with_reducible rfl))
              try simp only [Act.put, List.setIfInBounds_toArray, List.set_cons_zero, List.set_cons_succ]
              refine takeD (i := 7) (v := ?_) 25 rfl rfl (by kernel_rfl) (by kernel_rfl) (by kernel_rfl) (fun _ _ _ h => h) (Or.inl ⟨by rfl, ?_⟩) (by assumption) ?_
              rotate_left 1
              · (intro w hSw; (try dsimp only at hSw); go_simp; (try with_reducible rfl))
              try simp only [Act.put, List.setIfInBounds_toArray, List.set_cons_zero, List.set_cons_succ]
              refine takeD (i := 8) (v := ?_) 26 rfl rfl (by kernel_rfl) (by kernel_rfl) (by kernel_rfl) (fun _ _ _ h => h) (Or.inl ⟨by rfl, ?_⟩) (by assumption) ?_
              rotate_left 1
              · (intro w hSw; (try dsimp only at hSw); go_simp; (try with_reducible rfl))
              try simp only [Act.put, List.setIfInBounds_toArray, List.set_cons_zero, List.set_cons_succ]
              refine takeD (i := 9) (v := ?_) 27 rfl rfl (by kernel_rfl) (by kernel_rfl) (by kernel_rfl) (fun _ _ _ h => h) (Or.inl ⟨by rfl, ?_⟩) (by assumption) ?_
              rotate_left 1
              · (intro w hSw; (try dsimp only at hSw); go_simp; (try with_reducible rfl))
              try simp only [Act.put, List.setIfInBounds_toArray, List.set_cons_zero, List.set_cons_succ]
              refine takeD (i := 10) (v := ?_) 28 rfl rfl (by kernel_rfl) (by kernel_rfl) (by kernel_rfl) (fun _ _ _ h => h) (Or.inl ⟨by rfl, ?_⟩) (by assumption) ?_
              rotate_left 1
              · (intro w hSw; (try dsimp only at hSw); go_simp; (try with_reducible rfl))
              try simp only [Act.put, List.setIfInBounds_toArray, List.set_cons_zero, List.set_cons_succ]
              refine takeD (i := 11) (v := ?_) 29 rfl rfl (by kernel_rfl) (by kernel_rfl) (by kernel_rfl) (fun _ _ _ h => h) (Or.inl ⟨by rfl, ?_⟩) (by assumption) ?_
              rotate_left 1
              · (intro w hSw; (try dsimp only at hSw); go_simp; (try with_reducible rfl))
              try simp only [Act.put, List.setIfInBounds_toArray, List.set_cons_zero, List.set_cons_succ]
              refine wpAnyH_ready (rs := [12]) (by kernel_rfl) (by simp) ?_
              refine AllReadyH.cons (o := _) rfl (fun K hK => ?_) AllReadyH.nil
              go_simp
              go_at_call 60
              (with_reducible refine (myAt_no (L.take k) k gd n u.x u.y _ (by rw [List.length_take]; have := HN.out; omega) (by omega) HD3.out HIN.out).mono ?_)
              rintro e w4 ⟨r, rfl, hr, hb4⟩
              have HT4 := hide (togI_to hb4 HT3.out rfl rfl rfl rfl)
              have HS4 := hide (isS_to hb4 HS3.out rfl)
              clear hb4
              obtain ⟨_, ⟨z0, z1, z2⟩, -⟩ := HT4.out.1.all
              obtain ⟨_, ⟨t0, t1, t2, t3, t4, t5, t6, t7⟩, -⟩ := HS4.out.all
              dsimp only
              refine hK.out _ _ (by refine ⟨?_, ?_, ?_, ?_, ?_, ?_, ?_, ?_, ?_, ?_, ?_⟩ <;> assumption) (fun hHeld_2 => ?_)
              clear hK
              try simp only [Act.put, List.setIfInBounds_toArray, List.set_cons_zero, List.set_cons_succ]
              refine takeD (i := 13) (v := ?_) 31 rfl rfl (by kernel_rfl) (by kernel_rfl) (by kernel_rfl) (fun _ _ _ h => h) (Or.inl ⟨by rfl, ?_⟩) (by assumption) ?_
              rotate_left 1
              · (intro w hSw; (try dsimp only at hSw); go_simp; (try with_reducible rfl))
              try simp only [Act.put, List.setIfInBounds_toArray, List.set_cons_zero, List.set_cons_succ]
              refine takeD (i := 14) (v := ?_) 32 rfl rfl (by kernel_rfl) (by kernel_rfl) (by kernel_rfl) (fun _ _ _ h => h) (Or.inl ⟨by rfl, ?_⟩) (by assumption) ?_
              rotate_left 1
              · (intro w hSw; (try dsimp only at hSw); go_simp; (try with_reducible rfl))
              try simp only [Act.put, List.setIfInBounds_toArray, List.set_cons_zero, List.set_cons_succ]
              refine wpAnyH_done (by kernel_rfl) ?_ _

              go_wp2
              go_roundw
              case rel => exact ⟨k + 1, by omega, by go_num, HF.out, HT4.out⟩
              case measure => simp [intOf] <;> omega
            · have HIN := hide hin
              have HF := hide (togK_no (l := l) (L := L) (j := k) (k := n) (by rw [HOK.out, HST.out, hin]; rfl) hlt)
              clear hin
              refine wp_region_held_drew (S := (fun w' => w'.cell? ⟨w.heap.size, 0, none⟩ = some (.int .i64 (W : Int)) ∧ w'.cell? ⟨w.heap.size, 1, none⟩ = some (.int .i64 (H : Int)) ∧ w'.cell? ⟨w.heap.size, 2, none⟩ = some (.slice (some ⟨g, 0, none⟩) m cap) ∧ w'.cell? ⟨B1, 0, none⟩ = some (.int .i64 u.x) ∧ w'.cell? ⟨B1, 1, none⟩ = some (.int .i64 u.y) ∧ w'.cell? ⟨B1, 2, none⟩ = some (.int .i64 u.d.t) ∧ w'.cell? ⟨B1, 3, none⟩ = some (.int .i64 u.d.n) ∧ w'.cell? ⟨B1, 4, none⟩ = some (.int .i64 u.d.e) ∧ w'.cell? ⟨B1, 5, none⟩ = some (.int .i64 u.d.s) ∧ w'.cell? ⟨B1, 6, none⟩ = some (.int .i64 u.d.w) ∧ w'.cell? ⟨B1, 7, none⟩ = some (.int .i64 u.d.b))) (by kernel_rfl) (by refine ⟨?_, ?_, ?_, ?_, ?_, ?_, ?_, ?_, ?_, ?_, ?_⟩ <;> assumption) (fun hHeld => ?_)
              refine takeD (i := 0) (v := ?_) 18 rfl rfl (by kernel_rfl) (by kernel_rfl) (by kernel_rfl) (fun _ _ _ h => h) (Or.inl ⟨by rfl, ?_⟩) (by assumption) ?_
              rotate_left 1
              · (intro w hSw; (try dsimp only at hSw); go_simp; (try with_reducible rfl))
              try simp only [Act.put, List.setIfInBounds_toArray, List.set_cons_zero, List.set_cons_succ]
              refine takeD (i := 1) (v := ?_) 19 rfl rfl (by kernel_rfl) (by kernel_rfl) (by kernel_rfl) (fun _ _ _ h => h) (Or.inl ⟨by rfl, ?_⟩) (by assumption) ?_
              rotate_left 1
              · (intro w hSw; (try dsimp only at hSw); go_simp; (try with_reducible rfl))
              try simp only [Act.put, List.setIfInBounds_toArray, List.set_cons_zero, List.set_cons_succ]
              refine wpAnyH_ready (rs := [2]) (by kernel_rfl) (by simp) ?_
              refine AllReadyH.cons (o := _) rfl (fun K hK => ?_) AllReadyH.nil
              go_simp
              go_at_call 59
              (with_reducible refine (boState_any l W H m HG.out g cap u _ HA1.out).mono ?_)
              rintro e w3 ⟨rfl, hb3⟩
              rw [HST.out]
              have HT3 := hide (togI_to hb3 HT1.out rfl rfl rfl rfl)
              have HS3 := hide (isS_to hb3 HS1.out rfl)
              have HD3 := hide (HT3.out.2.2.1.take k)
              clear hb3
              obtain ⟨_, ⟨x0, x1, x2⟩, -⟩ := HT3.out.1.all
              obtain ⟨_, ⟨y0, y1, y2, y3, y4, y5, y6, y7⟩, -⟩ := HS3.out.all
              dsimp only
              refine hK.out _ _ (by refine ⟨?_, ?_, ?_, ?_, ?_, ?_, ?_, ?_, ?_, ?_, ?_⟩ <;> assumption) (fun hHeld_1 => ?_)
              clear hK
              try simp only [Act.put, List.setIfInBounds_toArray, List.set_cons_zero, List.set_cons_succ]
              refine takeD (i := 3) (v := ?_) 21 rfl rfl (by kernel_rfl) (by kernel_rfl) (by kernel_rfl) (fun _ _ _ h => h) (Or.inl ⟨by rfl, ?_⟩) (by assumption) ?_
              rotate_left 1
              · (intro w hSw; (try dsimp only at hSw); go_simp; (try with_reducible rfl))
              try simp only [Act.put, List.setIfInBounds_toArray, List.set_cons_zero, List.set_cons_succ]
              refine takeD (i := 4) (v := ?_) 22 rfl rfl (by kernel_rfl) (by kernel_rfl) (by kernel_rfl) (fun _ _ _ h => h) (Or.inl ⟨by rfl, ?_⟩) (by assumption) ?_
              rotate_left 1
              · (intro w hSw; (try dsimp only at hSw); go_simp; (try with_reducible rfl))
              try simp only [Act.put, List.setIfInBounds_toArray, List.set_cons_zero, List.set_cons_succ]
              refine takeD (i := 5) (v := ?_) 23 rfl rfl (by kernel_rfl) (by kernel_rfl) (by kernel_rfl) (fun _ _ _ h => h) (Or.inl ⟨by rfl, ?_⟩) (by assumption) ?_
              rotate_left 1
              · (intro w hSw; (try dsimp only at hSw); go_simp; (try with_reducible rfl))
              try simp only [Act.put, List.setIfInBounds_toArray, List.set_cons_zero, List.set_cons_succ]
              refine takeD (i := 6) (v := ?_) 24 rfl rfl (by kernel_rfl) (by kernel_rfl) (by kernel_rfl) (fun _ _ _ h => h) (Or.inl ⟨by rfl, ?_⟩) (by assumption) ?_
              rotate_left 1
              · (intro w hSw; (try dsimp only at hSw); go_simp; (try with_reducible rfl))
              try simp only [Act.put, List.setIfInBounds_toArray, List.set_cons_zero, List.set_cons_succ]
              refine takeD (i := 7) (v := ?_) 25 rfl rfl (by kernel_rfl) (by kernel_rfl) (by kernel_rfl) (fun _ _ _ h => h) (Or.inl ⟨by rfl, ?_⟩) (by assumption) ?_
              rotate_left 1
              · (intro w hSw; (try dsimp only at hSw); go_simp; (try with_reducible rfl))
              try simp only [Act.put, List.setIfInBounds_toArray, List.set_cons_zero, List.set_cons_succ]
              refine takeD (i := 8) (v := ?_) 26 rfl rfl (by kernel_rfl) (by kernel_rfl) (by kernel_rfl) (fun _ _ _ h => h) (Or.inl ⟨by rfl, ?_⟩) (by assumption) ?_
              rotate_left 1
              · (intro w hSw; (try dsimp only at hSw); go_simp; (try with_reducible rfl))
              try simp only [Act.put, List.setIfInBounds_toArray, List.set_cons_zero, List.set_cons_succ]
              refine takeD (i := 9) (v := ?_) 27 rfl rfl (by kernel_rfl) (by kernel_rfl) (by kernel_rfl) (fun _ _ _ h => h) (Or.inl ⟨by rfl, ?_⟩) (by assumption) ?_
              rotate_left 1
              · (intro w hSw; (try dsimp only at hSw); go_simp; (try with_reducible rfl))
              try simp only [Act.put, List.setIfInBounds_toArray, List.set_cons_zero, List.set_cons_succ]
              refine takeD (i := 10) (v := ?_) 28 rfl rfl (by kernel_rfl) (by kernel_rfl) (by kernel_rfl) (fun _ _ _ h => h) (Or.inl ⟨by rfl, ?_⟩) (by assumption) ?_
              rotate_left 1
              · (intro w hSw; (try dsimp only at hSw); go_simp; (try with_reducible rfl))
              try simp only [Act.put, List.setIfInBounds_toArray, List.set_cons_zero, List.set_cons_succ]
              refine takeD (i := 11) (v := ?_) 29 rfl rfl (by kernel_rfl) (by kernel_rfl) (by kernel_rfl) (fun _ _ _ h => h) (Or.inl ⟨by rfl, ?_⟩) (by assumption) ?_
              rotate_left 1
              · (intro w hSw; (try dsimp only at hSw); go_simp; (try with_reducible rfl))
              try simp only [Act.put, List.setIfInBounds_toArray, List.set_cons_zero, List.set_cons_succ]
              refine wpAnyH_ready (rs := [12]) (by kernel_rfl) (by simp) ?_
              refine AllReadyH.cons (o := _) rfl (fun K hK => ?_) AllReadyH.nil
              go_simp
              go_at_call 60
              (with_reducible refine (myAt_yes (L.take k) k gd n u.x u.y _ (by rw [List.length_take]; have := HN.out; omega) (by omega) HD3.out HIN.out).mono ?_)
              rintro e w4 ⟨r, rfl, hr, hb4⟩
              have HT4 := hide (togI_to hb4 HT3.out rfl rfl rfl rfl)
              have HS4 := hide (isS_to hb4 HS3.out rfl)
              clear hb4
              obtain ⟨_, ⟨z0, z1, z2⟩, -⟩ := HT4.out.1.all
              obtain ⟨_, ⟨t0, t1, t2, t3, t4, t5, t6, t7⟩, -⟩ := HS4.out.all
              dsimp only
              refine hK.out _ _ (by refine ⟨?_, ?_, ?_, ?_, ?_, ?_, ?_, ?_, ?_, ?_, ?_⟩ <;> assumption) (fun hHeld_2 => ?_)
              clear hK
              try simp only [Act.put, List.setIfInBounds_toArray, List.set_cons_zero, List.set_cons_succ]
              refine takeD (i := 13) (v := ?_) 31 rfl rfl (by kernel_rfl) (by kernel_rfl) (by kernel_rfl) (fun _ _ _ h => h) (Or.inl ⟨by rfl, ?_⟩) (by assumption) ?_
              rotate_left 1
              · (intro w hSw; (try dsimp only at hSw); go_simp; (try with_reducible rfl))
              try simp only [Act.put, List.setIfInBounds_toArray, List.set_cons_zero, List.set_cons_succ]
              refine takeD (i := 14) (v := ?_) 32 rfl rfl (by kernel_rfl) (by kernel_rfl) (by kernel_rfl) (fun _ _ _ h => h) (Or.inl ⟨by rfl, ?_⟩) (by assumption) ?_
              rotate_left 1
              · (intro w hSw; (try dsimp only at hSw); go_simp; (try with_reducible rfl))
              try simp only [Act.put, List.setIfInBounds_toArray, List.set_cons_zero, List.set_cons_succ]
              refine wpAnyH_done (by kernel_rfl) ?_ _

              go_wp2
              go_returns
              exact ⟨ret_bool (by rw [HL.out, ← HN.out]; exact HF.out.symm), HT4.out.2.2.2⟩
        · obtain rfl : k = n := by omega
          go_wp2
          go_returns
          exact ⟨ret_bool (by rw [HL.out, ← HN.out]; exact HALL.out.symm), T.2.2.2⟩
    · have HL := hide (tog_many (l := l) (L := L) (by have := HN.out; omega))
      have HC := hide (fun wx => l1In_as (n : Int) 1 3 false (decide_eq_false (by omega)) wx)
      have q0 := HT.out.2.2.2
      go_enter Tryd.func36, Tryd.ntmps36
      go_wp2_with (go_at_call 50; refine (HC.out _).mono ?_; rintro e w' ⟨rfl, rfl⟩)
      go_returns
      exact ⟨ret_bool HL.out.symm, q0⟩
  · have HL := hide (tog_few (l := l) (L := L) (by have := HN.out; omega))
    have HC := hide (fun wx => l1In_as (n : Int) 1 3 false (decide_eq_false (by omega)) wx)
    have q0 := HT.out.2.2.2
    go_enter Tryd.func36, Tryd.ntmps36
    go_wp2_with (go_at_call 50; refine (HC.out _).mono ?_; rintro e w' ⟨rfl, rfl⟩)
    go_returns
    exact ⟨ret_bool HL.out.symm, q0⟩
end Go.Proofs.YtdndegonpdakkaaDoor
