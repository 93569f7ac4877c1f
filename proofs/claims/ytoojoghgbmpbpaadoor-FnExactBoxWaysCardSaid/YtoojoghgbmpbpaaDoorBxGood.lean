/- The model's boxes on grounds: bxGood. -/
import Derived.Test.YtoojoghgbmpbpaaDoorBxCells
namespace Go.Proofs.YtoojoghgbmpbpaaDoor
set_option maxRecDepth 100000
set_option linter.all false
open Go.RowKit
attribute [local go_sem ↓] Go.wp_at_zero Go.wp_at_succ

theorem goodI_facts {w wr : World} {b : Bx} {W H n g cap c2 : Nat} {l : List UInt8} {k r : Nat} (h : GoodI w wr b W H n g cap c2 l k) (hp : poseOk b = true) (hr : r < cN b) :
    wr.cell? ⟨w.heap.size, 0, none⟩ = some (.int .i64 (W : Int)) ∧ wr.cell? ⟨w.heap.size, 1, none⟩ = some (.int .i64 (H : Int)) ∧ wr.cell? ⟨w.heap.size, 2, none⟩ = some (.slice (some ⟨g, 0, none⟩) n cap) ∧ wr.cell? ⟨k, 2 * r, none⟩ = some (.int .i64 (cX b r)) ∧ wr.cell? ⟨k, 2 * r + 1, none⟩ = some (.int .i64 (cY b r)) := by
  obtain ⟨a1, a2, a3, ⟨B, a4⟩, a5⟩ := h
  obtain ⟨_, ⟨e0, e1, e2⟩, _⟩ := a1.all
  obtain ⟨_, f2, _⟩ := cellsL_facts hp
  exact ⟨e0, e1, e2, ints_cell a4 _ _ (f2 r hr).1, ints_cell a4 _ _ (f2 r hr).2⟩
/-- One operation of a drawn region is taken first; its slot is told. -/
theorem takeD {P : Program} {md : Region.Mode} {ops : Array Oper} {Q : Exit → Act → World → Prop} {S : World → Prop} {i : Nat} {oi : Oper} {v : Value} (d : Tmp) {fuel : Nat} {listed : Array Bool} {a : Act} {w : World} (hi : ops[i]? = some oi) (hd : oi.dst = some d)
    (hs : Region.noSelect ops = true) (hf : Region.free md ops listed i = true) (hr : (Region.ready md ops listed).contains i = true)
    (hQ : ∀ c a w, Q (.panic c) (a.put (some d) v) w → Q (.panic c) a w) (hy : YieldsIf P ops S oi v a) (hS : S w)
    (h : wpAnyH P md ops Q S fuel (listed.setIfInBounds i true) (a.put (some d) v) w) : wpAnyH P md ops Q S (fuel + 1) listed a w :=
  wpAnyH_take hi hs hf hr (by rw [hd]; exact hQ) hy hS (by rw [hd]; exact h)
set_option maxHeartbeats 4000000 in
theorem bxGood_any (l : List UInt8) (W H n : Nat) (hg : GndOk l W H n) (g cap : Nat) (b : Bx) (w : World) (hA : BytesAt w g (splitP l).flatten) : Calls Tryd.prog 37 #[gridV W H n g cap, Bx.v b] w fun e w' => e = .returned (.bool (goodX (splitP l) b)) ∧ Below w.heap.size w w' := by
  have HG := hide hg
  have hgd := hg.1
  obtain ⟨W0, W1, H0, H1, -⟩ := grid_facts hg.grid
  have G0 : IsG ((w.alloc (.cells #[.int .i64 (W : Int), .int .i64 (H : Int), .slice (some ⟨g, 0, none⟩) n cap] 44)).alloc (.cells #[.int .i64 b.x, .int .i64 b.y, .int .i64 b.p] 27)) w.heap.size (W : Int) (H : Int) (.slice (some ⟨g, 0, none⟩) n cap) := IsG.new.alloc _
  have X0 : IsX ((w.alloc (.cells #[.int .i64 (W : Int), .int .i64 (H : Int), .slice (some ⟨g, 0, none⟩) n cap] 44)).alloc (.cells #[.int .i64 b.x, .int .i64 b.y, .int .i64 b.p] 27)) (w.heap.size + 1) b 27 := IsX.new2
  have q0 : Below w.heap.size w ((w.alloc (.cells #[.int .i64 (W : Int), .int .i64 (H : Int), .slice (some ⟨g, 0, none⟩) n cap] 44)).alloc (.cells #[.int .i64 b.x, .int .i64 b.y, .int .i64 b.p] 27)) := by go_grown
  have A0 := bytesAt_to q0 hA rfl
  generalize hW1 : (w.alloc (.cells #[.int .i64 (W : Int), .int .i64 (H : Int), .slice (some ⟨g, 0, none⟩) n cap] 44)).alloc (.cells #[.int .i64 b.x, .int .i64 b.y, .int .i64 b.p] 27) = Wq at G0 X0 q0 A0
  have HW := hide hW1
  have HT0 := hide (show IsG Wq w.heap.size (W : Int) (H : Int) (.slice (some ⟨g, 0, none⟩) n cap) ∧ IsX Wq (w.heap.size + 1) b 27 ∧ BytesAt Wq g (splitP l).flatten ∧ Below w.heap.size w Wq from ⟨G0, X0, A0, q0⟩)
  obtain ⟨lx, ⟨x0, x1, x2⟩, -⟩ := X0.all
  clear hW1 G0 A0 q0 hA X0
  cases hpo : poseOk b
  · have HN := hide (poseOk_no hgd hpo)
    have HP := hide hpo
    clear hpo hgd hg
    go_enter Tryd.func37, Tryd.ntmps37
    go_wp2_with fail
    rw [HW.out]
    refine (bxPose_any b _).mono ?_
    rintro e w1 ⟨rfl, hb1⟩
    rw [HP.out]
    obtain ⟨_, _, _, q0⟩ := HT0.out
    have q1 := below_to hb1 q0 q0.size rfl rfl rfl rfl
    clear hb1
    go_wp2
    go_returns
    exact ⟨ret_bool HN.out.symm, q1⟩
  · have HP := hide hpo
    obtain ⟨hlen, -, hbnd⟩ := cellsL_facts hpo
    have hcn : cN b ≤ 2 := by unfold cN; split <;> omega
    have HBND := hide hbnd
    clear hpo hbnd hg
    go_enter Tryd.func37, Tryd.ntmps37
    go_wp2_with fail
    rw [HW.out]
    refine (bxPose_any b _).mono ?_
    rintro e w1 ⟨rfl, hb1⟩
    rw [HP.out]
    obtain ⟨G0, X0, A0, q0⟩ := HT0.out
    have G1 := isG_to hb1 G0 rfl
    have X1 := isX_to hb1 X0 rfl
    have A1 := bytesAt_to hb1 A0 rfl
    have q1 := below_to hb1 q0 q0.size rfl rfl rfl rfl
    obtain ⟨ly, ⟨y0, y1, y2⟩, -⟩ := X1.all
    clear hb1 x0 x1 x2 lx G0 X0 A0 q0 HT0 HW
    go_wp2_with fail
    refine (bxCells_any b _ HP.out).mono ?_
    rintro e w2 ⟨kk, c2, rfl, hown, hb2⟩
    have HT := hide (show GoodI w w2 b W H n g cap c2 l kk from ⟨isG_to hb2 G1 rfl, isX_to hb2 X1 rfl, bytesAt_to hb2 A1 rfl, ⟨_, hown⟩, below_to hb2 q1 q1.size rfl rfl rfl rfl⟩)
    clear hb2 hown G1 X1 A1 q1 y0 y1 y2 ly
    generalize (cellsL b).length = N2 at hlen
    have HLEN := hide hlen
    have hN2 : N2 ≤ 4 := by omega
    clear hlen
    go_wp2
    go_loopw [6] (fun i wr => ∃ r : Nat, r ≤ cN b ∧ i = .int .i64 ((2 * r : Nat) : Int) ∧ GoodI w wr b W H n g cap c2 l kk ∧ ∀ r', r' < r → cellI (splitP l) (cX b r') (cY b r') ≠ 35) (fun i _ => 4 - (intOf i).toNat)
    case atStart => exact ⟨0, Nat.zero_le _, rfl, HT.out, fun _ h => absurd h (Nat.not_lt_zero _)⟩
    case round =>
      obtain ⟨r, hr, rfl, T, hall⟩ := hrel
      clear HT
      have HALL := hide hall
      clear hall
      by_cases hlt : r < cN b
      · have hk1 : ((2 * r : Nat) : Int) < (N2 : Int) := by have := HLEN.out; omega
        have hk2 : 2 * r + 1 < N2 := by have := HLEN.out; omega
        obtain ⟨u0, u1, v0, v1⟩ := HBND.out r hlt
        obtain ⟨e0, e1, e2, e3, e4⟩ := goodI_facts T HP.out hlt
        generalize hX : cX b r = X at u0 u1 e3
        generalize hY : cY b r = Y at v0 v1 e4
        obtain ⟨j, rfl⟩ : ∃ j : Nat, X = (j : Int) := ⟨X.toNat, by omega⟩
        obtain ⟨m, rfl⟩ : ∃ m : Nat, Y = (m : Int) := ⟨Y.toNat, by omega⟩
        have HX := hide hX
        have HY := hide hY
        clear hX hY
        generalize hk : 2 * r = k at hk1 hk2 e3 e4 ⊢
        have HK := hide hk
        clear hk
        obtain ⟨k1, hk1e⟩ : ∃ k1, k1 = k + 1 := ⟨_, rfl⟩
        rw [← hk1e] at e4 hk2
        have HK1 := hide hk1e
        have w1q : IntKind.i64.wrap ((k : Int) + 1) = (k1 : Int) := by rw [IntWalk.i64_in _ (by omega)]; omega
        have hk3 : (k1 : Int) < (N2 : Int) := by omega
        clear hk1e
        have HT := hide T
        clear T
        cases hin : inL (ungl l) (j : Int) (m : Int)
        · have HIN := hide hin
          have HR := hide (good_cell HP.out hlt (by rw [HX.out, HY.out]; exact inG_out hgd hin))
          clear hin
          go_upto_region 7 with (fail)
          refine wp_region_held_drew (S := (fun w' => w'.cell? ⟨w.heap.size, 0, none⟩ = some (.int .i64 (W : Int)) ∧ w'.cell? ⟨w.heap.size, 1, none⟩ = some (.int .i64 (H : Int)) ∧ w'.cell? ⟨w.heap.size, 2, none⟩ = some (.slice (some ⟨g, 0, none⟩) n cap) ∧ w'.cell? ⟨kk, k, none⟩ = some (.int .i64 (j : Int)) ∧ w'.cell? ⟨kk, k1, none⟩ = some (.int .i64 (m : Int)))) (by kernel_rfl) (by refine ⟨?_, ?_, ?_, ?_, ?_⟩ <;> assumption) (fun hHeld => ?_)
          refine takeD (i := 0) (v := ?_) 18 rfl rfl (by kernel_rfl) (by kernel_rfl) (by kernel_rfl) (fun _ _ _ h => h) (Or.inl ⟨by rfl, ?_⟩) (by assumption) ?_
          rotate_left 1
          · (intro w hSw; (try dsimp only at hSw); go_simp; (try with_reducible rfl))
          try simp only [Act.put, List.setIfInBounds_toArray, List.set_cons_zero, List.set_cons_succ]
          refine takeD (i := 1) (v := ?_) 19 rfl rfl (by kernel_rfl) (by kernel_rfl) (by kernel_rfl) (fun _ _ _ h => h) (Or.inl ⟨by rfl, ?_⟩) (by assumption) ?_
          rotate_left 1
          · (intro w hSw; (try dsimp only at hSw); go_simp; (try with_reducible rfl))
          try simp only [Act.put, List.setIfInBounds_toArray, List.set_cons_zero, List.set_cons_succ]
          refine takeD (i := 2) (v := ?_) 20 rfl rfl (by kernel_rfl) (by kernel_rfl) (by kernel_rfl) (fun _ _ _ h => h) (Or.inl ⟨by rfl, ?_⟩) (by assumption) ?_
          rotate_left 1
          · (intro w hSw; (try dsimp only at hSw); go_simp; (try with_reducible rfl))
          try simp only [Act.put, List.setIfInBounds_toArray, List.set_cons_zero, List.set_cons_succ]
          refine takeD (i := 3) (v := ?_) 21 rfl rfl (by kernel_rfl) (by kernel_rfl) (by kernel_rfl) (fun _ _ _ h => h) (Or.inl ⟨by rfl, ?_⟩) (by assumption) ?_
          rotate_left 1
          · (intro w hSw; (try dsimp only at hSw); go_simp; (try with_reducible rfl))
          try simp only [Act.put, List.setIfInBounds_toArray, List.set_cons_zero, List.set_cons_succ]
          refine takeD (i := 4) (v := ?_) 22 rfl rfl (by kernel_rfl) (by kernel_rfl) (by kernel_rfl) (fun _ _ _ h => h) (Or.inl ⟨by rfl, ?_⟩) (by assumption) ?_
          rotate_left 1
          · (intro w hSw; (try dsimp only at hSw); go_simp; (try with_reducible rfl))
          try simp only [Act.put, List.setIfInBounds_toArray, List.set_cons_zero, List.set_cons_succ]
          refine takeD (i := 5) (v := ?_) 23 rfl rfl (by kernel_rfl) (by kernel_rfl) (by kernel_rfl) (fun _ _ _ h => h) (Or.inl ⟨by rfl, ?_⟩) (by assumption) ?_
          rotate_left 1
          · (intro w hSw; (try dsimp only at hSw); go_simp; (try with_reducible rfl))
          try simp only [Act.put, List.setIfInBounds_toArray, List.set_cons_zero, List.set_cons_succ]
          refine takeD (i := 6) (v := ?_) 24 rfl rfl (by kernel_rfl) (by kernel_rfl) (by kernel_rfl) (fun _ _ _ h => h) (Or.inl ⟨by rfl, ?_⟩) (by assumption) ?_
          rotate_left 1
          · (intro w hSw; (try dsimp only at hSw); go_simp; (try with_reducible rfl))
          try simp only [Act.put, List.setIfInBounds_toArray, List.set_cons_zero, List.set_cons_succ]
          refine takeD (i := 7) (v := ?_) 25 rfl rfl (by kernel_rfl) (by kernel_rfl) (by kernel_rfl) (fun _ _ _ h => h) (Or.inl ⟨by rfl, ?_⟩) (by assumption) ?_
          rotate_left 1
          · (intro w hSw; (try dsimp only at hSw); go_simp; (try with_reducible rfl))
          try simp only [Act.put, List.setIfInBounds_toArray, List.set_cons_zero, List.set_cons_succ]
          refine takeD (i := 8) (v := ?_) 26 rfl rfl (by kernel_rfl) (by kernel_rfl) (by kernel_rfl) (fun _ _ _ h => h) (Or.inl ⟨by rfl, ?_⟩) (by assumption) ?_
          rotate_left 1
          · (intro w hSw; (try dsimp only at hSw); go_simp; (try with_reducible rfl))
          try simp only [Act.put, List.setIfInBounds_toArray, List.set_cons_zero, List.set_cons_succ]
          refine takeD (i := 9) (v := ?_) 27 rfl rfl (by kernel_rfl) (by kernel_rfl) (by kernel_rfl) (fun _ _ _ h => h) (Or.inl ⟨by rfl, ?_⟩) (by assumption) ?_
          rotate_left 1
          · (intro w hSw; (try dsimp only at hSw); go_simp; (try with_reducible rfl))
          try simp only [Act.put, List.setIfInBounds_toArray, List.set_cons_zero, List.set_cons_succ]
          refine wpAnyH_ready (rs := [10]) (by kernel_rfl) (by simp) ?_
          refine AllReadyH.cons (o := _) rfl (fun K hK => ?_) AllReadyH.nil
          go_simp
          go_at_call 60
          (with_reducible refine (boCell_any (ungl l) W H n HG.out.grid g cap (j : Int) (m : Int) _).mono ?_)
          rintro e w3 ⟨rfl, hb3⟩
          rw [HIN.out]
          have HT3 := hide (goodI_to hb3 HT.out rfl rfl rfl rfl)
          have hf3 := goodI_facts HT3.out HP.out hlt
          rw [HX.out, HY.out, HK.out, ← HK1.out] at hf3
          obtain ⟨z0, z1, z2, z3, z4⟩ := hf3
          clear hb3
          dsimp only
          refine hK.out _ _ (by refine ⟨?_, ?_, ?_, ?_, ?_⟩ <;> assumption) (fun hHeld3 => ?_)
          clear hK
          try simp only [Act.put, List.setIfInBounds_toArray, List.set_cons_zero, List.set_cons_succ]
          refine takeD (i := 11) (v := ?_) 29 rfl rfl (by kernel_rfl) (by kernel_rfl) (by kernel_rfl) (fun _ _ _ h => h) (Or.inl ⟨by rfl, ?_⟩) (by assumption) ?_
          rotate_left 1
          · (intro w hSw; (try dsimp only at hSw); go_simp; (try with_reducible rfl))
          try simp only [Act.put, List.setIfInBounds_toArray, List.set_cons_zero, List.set_cons_succ]
          refine takeD (i := 12) (v := ?_) 30 rfl rfl (by kernel_rfl) (by kernel_rfl) (by kernel_rfl) (fun _ _ _ h => h) (Or.inl ⟨by rfl, ?_⟩) (by assumption) ?_
          rotate_left 1
          · (intro w hSw; (try dsimp only at hSw); go_simp; (try with_reducible rfl))
          try simp only [Act.put, List.setIfInBounds_toArray, List.set_cons_zero, List.set_cons_succ]
          refine takeD (i := 13) (v := undef) 31 rfl rfl (by kernel_rfl) (by kernel_rfl) (by kernel_rfl) (fun _ _ _ h => h) (Or.inr ⟨by kernel_rfl, rfl⟩) (by assumption) ?_
          try simp only [Act.put, List.setIfInBounds_toArray, List.set_cons_zero, List.set_cons_succ]
          refine takeD (i := 14) (v := undef) 32 rfl rfl (by kernel_rfl) (by kernel_rfl) (by kernel_rfl) (fun _ _ _ h => h) (Or.inr ⟨by kernel_rfl, rfl⟩) (by assumption) ?_
          try simp only [Act.put, List.setIfInBounds_toArray, List.set_cons_zero, List.set_cons_succ]
          refine takeD (i := 15) (v := undef) 33 rfl rfl (by kernel_rfl) (by kernel_rfl) (by kernel_rfl) (fun _ _ _ h => h) (Or.inr ⟨by kernel_rfl, rfl⟩) (by assumption) ?_
          try simp only [Act.put, List.setIfInBounds_toArray, List.set_cons_zero, List.set_cons_succ]
          refine takeD (i := 16) (v := undef) 34 rfl rfl (by kernel_rfl) (by kernel_rfl) (by kernel_rfl) (fun _ _ _ h => h) (Or.inr ⟨by kernel_rfl, rfl⟩) (by assumption) ?_
          try simp only [Act.put, List.setIfInBounds_toArray, List.set_cons_zero, List.set_cons_succ]
          refine takeD (i := 17) (v := undef) 35 rfl rfl (by kernel_rfl) (by kernel_rfl) (by kernel_rfl) (fun _ _ _ h => h) (Or.inr ⟨by kernel_rfl, rfl⟩) (by assumption) ?_
          try simp only [Act.put, List.setIfInBounds_toArray, List.set_cons_zero, List.set_cons_succ]
          refine takeD (i := 18) (v := undef) 36 rfl rfl (by kernel_rfl) (by kernel_rfl) (by kernel_rfl) (fun _ _ _ h => h) (Or.inr ⟨by kernel_rfl, rfl⟩) (by assumption) ?_
          try simp only [Act.put, List.setIfInBounds_toArray, List.set_cons_zero, List.set_cons_succ]
          refine takeD (i := 19) (v := undef) 37 rfl rfl (by kernel_rfl) (by kernel_rfl) (by kernel_rfl) (fun _ _ _ h => h) (Or.inr ⟨by kernel_rfl, rfl⟩) (by assumption) ?_
          try simp only [Act.put, List.setIfInBounds_toArray, List.set_cons_zero, List.set_cons_succ]
          refine takeD (i := 20) (v := undef) 38 rfl rfl (by kernel_rfl) (by kernel_rfl) (by kernel_rfl) (fun _ _ _ h => h) (Or.inr ⟨by kernel_rfl, rfl⟩) (by assumption) ?_
          try simp only [Act.put, List.setIfInBounds_toArray, List.set_cons_zero, List.set_cons_succ]
          refine takeD (i := 21) (v := undef) 39 rfl rfl (by kernel_rfl) (by kernel_rfl) (by kernel_rfl) (fun _ _ _ h => h) (Or.inr ⟨by kernel_rfl, rfl⟩) (by assumption) ?_
          try simp only [Act.put, List.setIfInBounds_toArray, List.set_cons_zero, List.set_cons_succ]
          refine takeD (i := 22) (v := undef) 40 rfl rfl (by kernel_rfl) (by kernel_rfl) (by kernel_rfl) (fun _ _ _ h => h) (Or.inr ⟨by kernel_rfl, rfl⟩) (by assumption) ?_
          try simp only [Act.put, List.setIfInBounds_toArray, List.set_cons_zero, List.set_cons_succ]
          refine takeD (i := 23) (v := undef) 41 rfl rfl (by kernel_rfl) (by kernel_rfl) (by kernel_rfl) (fun _ _ _ h => h) (Or.inr ⟨by kernel_rfl, rfl⟩) (by assumption) ?_
          try simp only [Act.put, List.setIfInBounds_toArray, List.set_cons_zero, List.set_cons_succ]
          refine takeD (i := 24) (v := undef) 42 rfl rfl (by kernel_rfl) (by kernel_rfl) (by kernel_rfl) (fun _ _ _ h => h) (Or.inr ⟨by kernel_rfl, rfl⟩) (by assumption) ?_
          try simp only [Act.put, List.setIfInBounds_toArray, List.set_cons_zero, List.set_cons_succ]
          refine takeD (i := 25) (v := undef) 43 rfl rfl (by kernel_rfl) (by kernel_rfl) (by kernel_rfl) (fun _ _ _ h => h) (Or.inr ⟨by kernel_rfl, rfl⟩) (by assumption) ?_
          try simp only [Act.put, List.setIfInBounds_toArray, List.set_cons_zero, List.set_cons_succ]
          refine takeD (i := 26) (v := undef) 44 rfl rfl (by kernel_rfl) (by kernel_rfl) (by kernel_rfl) (fun _ _ _ h => h) (Or.inr ⟨by kernel_rfl, rfl⟩) (by assumption) ?_
          try simp only [Act.put, List.setIfInBounds_toArray, List.set_cons_zero, List.set_cons_succ]
          refine takeD (i := 27) (v := undef) 45 rfl rfl (by kernel_rfl) (by kernel_rfl) (by kernel_rfl) (fun _ _ _ h => h) (Or.inr ⟨by kernel_rfl, rfl⟩) (by assumption) ?_
          try simp only [Act.put, List.setIfInBounds_toArray, List.set_cons_zero, List.set_cons_succ]
          refine takeD (i := 28) (v := undef) 46 rfl rfl (by kernel_rfl) (by kernel_rfl) (by kernel_rfl) (fun _ _ _ h => h) (Or.inr ⟨by kernel_rfl, rfl⟩) (by assumption) ?_
          try simp only [Act.put, List.setIfInBounds_toArray, List.set_cons_zero, List.set_cons_succ]
          refine takeD (i := 29) (v := undef) 47 rfl rfl (by kernel_rfl) (by kernel_rfl) (by kernel_rfl) (fun _ _ _ h => h) (Or.inr ⟨by kernel_rfl, rfl⟩) (by assumption) ?_
          try simp only [Act.put, List.setIfInBounds_toArray, List.set_cons_zero, List.set_cons_succ]
          refine takeD (i := 30) (v := undef) 48 rfl rfl (by kernel_rfl) (by kernel_rfl) (by kernel_rfl) (fun _ _ _ h => h) (Or.inr ⟨by kernel_rfl, rfl⟩) (by assumption) ?_
          try simp only [Act.put, List.setIfInBounds_toArray, List.set_cons_zero, List.set_cons_succ]
          refine takeD (i := 31) (v := ?_) 49 rfl rfl (by kernel_rfl) (by kernel_rfl) (by kernel_rfl) (fun _ _ _ h => h) (Or.inl ⟨by rfl, ?_⟩) (by assumption) ?_
          rotate_left 1
          · (intro w hSw; (try dsimp only at hSw); go_simp; (try with_reducible rfl))
          try simp only [Act.put, List.setIfInBounds_toArray, List.set_cons_zero, List.set_cons_succ]
          refine wpAnyH_done (by kernel_rfl) ?_ _
          go_wp2
          go_returns
          exact ⟨ret_bool HR.out.symm, HT3.out.2.2.2.2⟩
        · have HIN := hide hin
          rw [inL_eq HG.out.grid, Bool.and_eq_true, decide_eq_true_eq, decide_eq_true_eq] at hin
          have hcell := cellI_inG HG.out (j := j) (k := m) (by omega) (by omega)
          generalize hc : cellI (splitP l) (j : Int) (m : Int) = c at hcell
          have HC := hide hc
          clear hc
          have hpk : m * W ≤ 6 * 7 := Nat.mul_le_mul (by omega) W1
          have hltn := (List.getElem?_eq_some_iff.1 hcell).1
          rw [HG.out.2.2.2] at hltn
          have hcb := HT.out.2.2.1.cell hcell
          have HCELL := hide hcell
          generalize hp : m * W = p at hcell hpk hltn hcb HCELL
          generalize hq : p + j = q at hcell hltn hcb HCELL
          have hp2 : IntKind.i64.wrap ((m : Int) * (W : Int)) = (p : Int) := by
            rw [show ((m : Int) * (W : Int)) = (p : Int) from by rw [← hp]; simp]
            exact IntWalk.i64_in _ (by omega)
          have hq2 : IntKind.i64.wrap ((p : Int) + (j : Int)) = (q : Int) := by rw [IntWalk.i64_in _ (by omega)]; omega
          have hql : (q : Int) < (n : Int) := by omega
          clear hcell hp hq hin hltn hpk
          by_cases h35 : (c.toNat : Int) = 35
          · have HR := hide (good_cell HP.out hlt (by
              rw [HX.out, HY.out, HC.out]
              apply UInt8.toNat_inj.1
              have : c.toNat = 35 := by omega
              rw [this]; rfl))
            obtain ⟨t1, t2⟩ := byte_eq h35
            clear h35
            go_upto_region 7 with (fail)
            first
              | go_region_held3 (fun w' => w'.cell? ⟨w.heap.size, 0, none⟩ = some (.int .i64 (W : Int)) ∧ w'.cell? ⟨w.heap.size, 1, none⟩ = some (.int .i64 (H : Int)) ∧ w'.cell? ⟨w.heap.size, 2, none⟩ = some (.slice (some ⟨g, 0, none⟩) n cap) ∧ w'.cell? ⟨kk, k, none⟩ = some (.int .i64 (j : Int)) ∧ w'.cell? ⟨kk, k1, none⟩ = some (.int .i64 (m : Int)) ∧ w'.cell? ⟨g, q, none⟩ = some (.int .u8 (c.toNat : Int))) (first | (refine ⟨?_, ?_, ?_, ?_, ?_, ?_⟩ <;> assumption))
                  (first
                    | (go_at_call 60; (with_reducible refine (boCell_any (ungl l) W H n HG.out.grid g cap (j : Int) (m : Int) _).mono ?_); rintro e w3 ⟨rfl, hb3⟩; rw [HIN.out]; have HT3 := hide (goodI_to hb3 HT.out rfl rfl rfl rfl); have hf3 := goodI_facts HT3.out HP.out hlt; rw [HX.out, HY.out, HK.out, ← HK1.out] at hf3; obtain ⟨z0, z1, z2, z3, z4⟩ := hf3; have z5 := HT3.out.2.2.1.cell HCELL.out; clear hb3))
              | fail "region"
            go_wp2
            go_returns
            exact ⟨ret_bool HR.out.symm, HT3.out.2.2.2.2⟩
          · obtain ⟨t1, t2⟩ := byte_ne h35
            have HNX := hide (show ∀ r', r' < r + 1 → cellI (splitP l) (cX b r') (cY b r') ≠ 35 from by
              intro r' hr'
              by_cases he : r' = r
              · subst he
                rw [HX.out, HY.out, HC.out]
                intro h
                apply h35
                rw [h]; rfl
              · exact HALL.out r' (by omega))
            clear h35
            go_upto_region 7 with (fail)
            first
              | go_region_held3 (fun w' => w'.cell? ⟨w.heap.size, 0, none⟩ = some (.int .i64 (W : Int)) ∧ w'.cell? ⟨w.heap.size, 1, none⟩ = some (.int .i64 (H : Int)) ∧ w'.cell? ⟨w.heap.size, 2, none⟩ = some (.slice (some ⟨g, 0, none⟩) n cap) ∧ w'.cell? ⟨kk, k, none⟩ = some (.int .i64 (j : Int)) ∧ w'.cell? ⟨kk, k1, none⟩ = some (.int .i64 (m : Int)) ∧ w'.cell? ⟨g, q, none⟩ = some (.int .u8 (c.toNat : Int))) (first | (refine ⟨?_, ?_, ?_, ?_, ?_, ?_⟩ <;> assumption))
                  (first
                    | (go_at_call 60; (with_reducible refine (boCell_any (ungl l) W H n HG.out.grid g cap (j : Int) (m : Int) _).mono ?_); rintro e w3 ⟨rfl, hb3⟩; rw [HIN.out]; have HT3 := hide (goodI_to hb3 HT.out rfl rfl rfl rfl); have hf3 := goodI_facts HT3.out HP.out hlt; rw [HX.out, HY.out, HK.out, ← HK1.out] at hf3; obtain ⟨z0, z1, z2, z3, z4⟩ := hf3; have z5 := HT3.out.2.2.1.cell HCELL.out; clear hb3))
              | fail "region"
            go_wp2
            go_roundw
            case rel => exact ⟨r + 1, by omega, by rw [← HK.out]; go_num, HT3.out, HNX.out⟩
            case measure => have := HK.out; simp [intOf] <;> omega
      · obtain rfl : r = cN b := by omega
        have HV := hide (good_all HP.out HALL.out)
        rw [← HLEN.out]
        obtain ⟨_, ⟨y0, y1, y2⟩, -⟩ := T.2.1.all
        obtain ⟨_, ⟨z0, z1, z2⟩, -⟩ := T.1.all
        have Q := hide T.2.2.2.2
        by_cases h0 : b.p = 0
        · have hlt : 0 < cN b := by unfold cN; split <;> omega
          obtain ⟨u0, u1, v0, v1⟩ := HBND.out 0 hlt
          have h35 := HALL.out 0 hlt
          have hX : cX b 0 = b.x := rfl
          have hY : cY b 0 = b.y := rfl
          rw [hX, hY] at h35
          rw [hX] at u0 u1
          rw [hY] at v0 v1
          have hcb0 := cellI_bd hgd h35
          rw [HG.out.2.1, HG.out.2.2.1] at hcb0
          obtain ⟨i0, i1, i2, i3⟩ := hcb0
          obtain ⟨j, hj⟩ : ∃ j : Nat, b.x = (j : Int) := ⟨b.x.toNat, by omega⟩
          obtain ⟨m, hm⟩ : ∃ m : Nat, b.y = (m : Int) := ⟨b.y.toNat, by omega⟩
          rw [hj] at y0 i0 i1
          rw [hm] at y1 i2 i3
          have hcell := cellI_inG HG.out (j := j) (k := m) (by omega) (by omega)
          have HV2 := HV.out
          rw [hj, hm, byte45, decide_eq_false (show ¬ b.p ≠ 0 from fun h => h h0)] at HV2
          generalize cellI (splitP l) (j : Int) (m : Int) = c at hcell HV2
          have HV3 := hide HV2
          have p1 : (b.p != 0) = false := by rw [h0]; rfl
          have p2 : (b.p == 0) = true := by rw [h0]; rfl
          have hpk : m * W ≤ 6 * 7 := Nat.mul_le_mul (by omega) W1
          have hltn := (List.getElem?_eq_some_iff.1 hcell).1
          rw [HG.out.2.2.2] at hltn
          have hcb := T.2.2.1.cell hcell
          generalize hp : m * W = p at hcell hpk hltn hcb
          generalize hq : p + j = q at hcell hltn hcb
          have hp2 : (m : Int) * (W : Int) = (p : Int) := by rw [← hp]; simp
          have hq2 : (p : Int) + (j : Int) = (q : Int) := by omega
          have hql : (q : Int) < (n : Int) := by omega
          clear hcell hp hq hltn T HV2 hj hm h0 h35 u0 u1 v0 v1 hX hY
          by_cases h45 : (c.toNat : Int) = 45
          · have HR := hide (show goodX (splitP l) b = false from by rw [HV3.out, decide_eq_true h45]; rfl)
            obtain ⟨t1, t2⟩ := byte_eq h45
            clear h45
            go_wp2
            go_returns
            exact ⟨ret_bool HR.out.symm, Q.out⟩
          · have HR := hide (show goodX (splitP l) b = true from by rw [HV3.out, decide_eq_false h45]; rfl)
            obtain ⟨t1, t2⟩ := byte_ne h45
            clear h45
            go_wp2
            go_returns
            exact ⟨ret_bool HR.out.symm, Q.out⟩
        · have p1 : (b.p != 0) = true := bne_iff_ne.2 h0
          have p2 : (b.p == 0) = false := beq_eq_false_iff_ne.2 h0
          have HR := hide (show goodX (splitP l) b = true from by rw [HV.out, decide_eq_true h0]; rfl)
          clear h0 T
          go_wp2
          go_returns
          exact ⟨ret_bool HR.out.symm, Q.out⟩
end Go.Proofs.YtoojoghgbmpbpaaDoor
