/- The law of AreSameDie. -/
import Derived.Test.YtkknjokacinlaaaNeJ
import Derived.Test.YtkknjokacinlaaaNetI
import Derived.Test.YtkknjokacinlaaaWalksG
namespace Go.Proofs.Ytkknjokacinlaaa
set_option maxRecDepth 100000
set_option linter.all false
open Go.RowKit Go.Maps

theorem faceF_bd {l : List UInt8} (h : sixB l = true) : ∀ k i, 0 ≤ faceF l k i ∧ faceF l k i ≤ 9
  | 0, _ => ⟨Int.le_refl 0, by show (0 : Int) ≤ 9; omega⟩
  | k + 1, i => by
    have ih := faceF_bd h k i
    show 0 ≤ (match (digs l)[k]? with
    | some d => if (i : Int) = botI (width l) (lgs l) d then (((flatL l).getD d 0).toNat : Int) - 48 else faceF l k i
    | none => faceF l k i) ∧ (match (digs l)[k]? with
    | some d => if (i : Int) = botI (width l) (lgs l) d then (((flatL l).getD d 0).toNat : Int) - 48 else faceF l k i
    | none => faceF l k i) ≤ 9
    cases hd : (digs l)[k]? with
    | none => exact ih
    | some d =>
      obtain ⟨-, ⟨c, -, hcd, hgc⟩, -⟩ := dig_says h hd
      obtain ⟨c1, c2⟩ := dig_of hcd
      show 0 ≤ (if (i : Int) = botI (width l) (lgs l) d then (((flatL l).getD d 0).toNat : Int) - 48 else faceF l k i) ∧ (if (i : Int) = botI (width l) (lgs l) d then (((flatL l).getD d 0).toNat : Int) - 48 else faceF l k i) ≤ 9
      rw [hgc]
      split
      · omega
      · exact ih
theorem fold_good {l : List UInt8} (h : sixB l = true) : goodB (foldD l) = true := by
  unfold goodB foldD
  rw [decide_eq_true_eq]
  have := faceF_bd h 6 0
  have := faceF_bd h 6 1
  have := faceF_bd h 6 2
  have := faceF_bd h 6 3
  have := faceF_bd h 6 4
  have := faceF_bd h 6 5
  simp only
  omega
theorem specSame_no (s t : ByteArray) (w : World) (h : (netB s.data.toList && netB t.data.toList) = false) : Calls Try.prog 7 #[.string s, .string t] w fun e w' => e = .returned (.tuple #[.bool false, .bool false]) ∧ Below w.heap.size w w' := by
  have H := hide h
  clear h
  go_enter Try.func7, Try.ntmps7
  go_wp2_with fail
  refine (neNet_any s _).mono ?_
  rintro e w1 (⟨h1, g1, c1, o1, rfl, -, -, -, -, hb1⟩ | ⟨h1, x1, y1, a1, m1, c1, u1, rfl, hb1⟩)
  · generalize width s.data.toList = W1
    generalize (splitP s.data.toList).length = V1
    generalize (flatL s.data.toList).length = n1
    have q1 := hb1.alloc hb1.size (.cells #[.int .i64 (W1 : Int), .int .i64 (V1 : Int), .slice (some ⟨g1, 0, none⟩) n1 c1] 30)
    have H1 := hide h1
    clear hb1 h1
    go_wp2_with fail
    refine (neNet_any t _).mono ?_
    rintro e w2 (⟨h2, -⟩ | ⟨-, x2, y2, a2, m2, c2, u2, rfl, hb2⟩)
    · have h3 := H.out
      rw [H1.out, h2] at h3
      cases h3
    · have q2 := below_after q1 hb2 q1.size
      clear q1 hb2
      go_wp2
      go_returns
      exact ⟨rfl, q2.alloc q2.size _⟩
  · have q1 := hb1.alloc hb1.size (.cells #[.int .i64 x1, .int .i64 y1, .slice a1 m1 c1] 30)
    clear hb1 h1
    go_wp2_with fail
    refine (neNet_any t _).mono ?_
    rintro e w2 (⟨-, g2, c2, o2, rfl, -, -, -, -, hb2⟩ | ⟨-, x2, y2, a2, m2, c2, u2, rfl, hb2⟩)
    · have q2 := below_after q1 hb2 q1.size
      generalize width t.data.toList = W1
      generalize (splitP t.data.toList).length = V1
      generalize (flatL t.data.toList).length = n1
      clear q1 hb2
      go_wp2
      go_returns
      exact ⟨rfl, q2.alloc q2.size _⟩
    · have q2 := below_after q1 hb2 q1.size
      clear q1 hb2
      go_wp2
      go_returns
      exact ⟨rfl, q2.alloc q2.size _⟩
set_option maxHeartbeats 6400000 in
theorem specSame_yes (s t : ByteArray) (w : World) (h1 : netB s.data.toList = true) (h2 : netB t.data.toList = true) : Calls Try.prog 7 #[.string s, .string t] w fun e w' => e = .returned (.tuple #[.bool (known (bfs (foldD s.data.toList)) (foldD t.data.toList)), .bool true]) ∧ Below w.heap.size w w' := by
  have N1 := fun wx => neNet_any s wx
  have N2 := fun wx => neNet_any t wx
  obtain ⟨l1, hl1⟩ : ∃ l1, l1 = s.data.toList := ⟨_, rfl⟩
  obtain ⟨l2, hl2⟩ : ∃ l2, l2 = t.data.toList := ⟨_, rfl⟩
  simp only [← hl1] at N1 h1 ⊢
  simp only [← hl2] at N2 h2 ⊢
  have N1 := hide N1
  have N2 := hide N2
  have H1 := hide h1
  have H2 := hide h2
  obtain ⟨W1, hW1⟩ : ∃ W1, W1 = width l1 := ⟨_, rfl⟩
  obtain ⟨V1, hV1⟩ : ∃ V1, V1 = (splitP l1).length := ⟨_, rfl⟩
  obtain ⟨n1, hn1⟩ : ∃ n1, n1 = (flatL l1).length := ⟨_, rfl⟩
  obtain ⟨W2, hW2⟩ : ∃ W2, W2 = width l2 := ⟨_, rfl⟩
  obtain ⟨V2, hV2⟩ : ∃ V2, V2 = (splitP l2).length := ⟨_, rfl⟩
  obtain ⟨n2, hn2⟩ : ∃ n2, n2 = (flatL l2).length := ⟨_, rfl⟩
  obtain ⟨x1, hx1⟩ : ∃ x1, x1 = foldD l1 := ⟨_, rfl⟩
  obtain ⟨x2, hx2⟩ : ∃ x2, x2 = foldD l2 := ⟨_, rfl⟩
  rw [← hx1, ← hx2]
  have HX1 := hide hx1
  have HX2 := hide hx2
  clear hl1 hl2 h1 h2 hx1 hx2
  go_enter Try.func7, Try.ntmps7
  go_wp2_with fail
  refine (N1.out _).mono ?_
  rintro e w1 (⟨-, g1, k1, o1, rfl, -, -, A1, R1, hb1⟩ | ⟨hy, -⟩)
  rotate_left
  · rw [H1.out] at hy; cases hy
  rw [← hn1] at R1
  rw [← hW1, ← hV1, ← hn1]
  have q1 := hb1.alloc hb1.size (.cells #[.int .i64 (W1 : Int), .int .i64 (V1 : Int), .slice (some ⟨g1, 0, none⟩) n1 k1] 30)
  have A1' := byN_to (w1 := w1.alloc (.cells #[.int .i64 (W1 : Int), .int .i64 (V1 : Int), .slice (some ⟨g1, 0, none⟩) n1 k1] 30)) ((Below.refl _ _).alloc (Nat.le_refl _) _) A1 rfl
  have R1' := R1.alloc (.cells #[.int .i64 (W1 : Int), .int .i64 (V1 : Int), .slice (some ⟨g1, 0, none⟩) n1 k1] 30)
  have G1' := IsGN.new (w := w1) (x := (W1 : Int)) (y := (V1 : Int)) (v := .slice (some ⟨g1, 0, none⟩) n1 k1)
  have HW1 := hide hW1
  have HV1 := hide hV1
  have HN1 := hide hn1
  clear hb1 A1 R1 hW1 hV1 hn1
  go_wp2_with fail
  refine (N2.out _).mono ?_
  rintro e w2 (⟨-, g2, k2, o2, rfl, -, -, A2, R2, hb2⟩ | ⟨hy, -⟩)
  rotate_left
  · rw [H2.out] at hy; cases hy
  rw [← hn2] at R2
  rw [← hW2, ← hV2, ← hn2]
  have q2 := below_after q1 hb2 q1.size
  have A1 := byN_to (w1 := w2.alloc (.cells #[.int .i64 (W2 : Int), .int .i64 (V2 : Int), .slice (some ⟨g2, 0, none⟩) n2 k2] 30)) ((Below.refl _ _).alloc (Nat.le_refl _) _) (byN_to hb2 A1' rfl) rfl
  have R1 := (rowIs_to hb2 R1' rfl).alloc (.cells #[.int .i64 (W2 : Int), .int .i64 (V2 : Int), .slice (some ⟨g2, 0, none⟩) n2 k2] 30)
  have G1 := (isGN_to hb2 G1' rfl).alloc (.cells #[.int .i64 (W2 : Int), .int .i64 (V2 : Int), .slice (some ⟨g2, 0, none⟩) n2 k2] 30)
  have A2' := byN_to (w1 := w2.alloc (.cells #[.int .i64 (W2 : Int), .int .i64 (V2 : Int), .slice (some ⟨g2, 0, none⟩) n2 k2] 30)) ((Below.refl _ _).alloc (Nat.le_refl _) _) A2 rfl
  have R2' := R2.alloc (.cells #[.int .i64 (W2 : Int), .int .i64 (V2 : Int), .slice (some ⟨g2, 0, none⟩) n2 k2] 30)
  have G2 := IsGN.new (w := w2) (x := (W2 : Int)) (y := (V2 : Int)) (v := .slice (some ⟨g2, 0, none⟩) n2 k2)
  have q3 := q2.alloc q2.size (.cells #[.int .i64 (W2 : Int), .int .i64 (V2 : Int), .slice (some ⟨g2, 0, none⟩) n2 k2] 30)
  have HW2 := hide hW2
  have HV2 := hide hV2
  have HN2 := hide hn2
  obtain ⟨b1, hbb1⟩ : ∃ b1, b1 = w1.heap.size := ⟨_, rfl⟩
  obtain ⟨b2, hbb2⟩ : ∃ b2, b2 = w2.heap.size := ⟨_, rfl⟩
  clear hb2 A2 R2 hW2 hV2 hn2 A1' R1' G1' q1 q2
  go_upto_region 5 with (fail)
  rw [← hbb1] at G1 ⊢
  rw [← hbb2] at G2 ⊢
  clear hbb1 hbb2
  generalize w2.alloc (.cells #[.int .i64 (W2 : Int), .int .i64 (V2 : Int), .slice (some ⟨g2, 0, none⟩) n2 k2] 30) = W0 at A1 R1 G1 A2' R2' G2 q3 ⊢
  have HF1 := hide (fun wx (hx : Below W0.heap.size W0 wx) => neFold_any l1 W1 V1 n1 g1 k1 o1 (net_is_six H1.out) HN1.out wx (byN_to hx A1 rfl) (rowIs_to hx R1 rfl))
  have HF2 := hide (fun wx (hx : Below W0.heap.size W0 wx) => neFold_any l2 W2 V2 n2 g2 k2 o2 (net_is_six H2.out) HN2.out wx (byN_to hx A2' rfl) (rowIs_to hx R2' rfl))
  rw [← HX1.out] at HF1
  rw [← HX2.out] at HF2
  obtain ⟨p1, ⟨a0, a1, a2⟩, -⟩ := G1.all
  obtain ⟨p2, ⟨e0, e1, e2⟩, -⟩ := G2.all
  have d0 : W0.drew.cell? ⟨b1, 0, none⟩ = some (.int .i64 (W1 : Int)) := a0
  have d1 : W0.drew.cell? ⟨b1, 1, none⟩ = some (.int .i64 (V1 : Int)) := a1
  have d2 : W0.drew.cell? ⟨b1, 2, none⟩ = some (.slice (some ⟨g1, 0, none⟩) n1 k1) := a2
  have d3 : W0.drew.cell? ⟨b2, 0, none⟩ = some (.int .i64 (W2 : Int)) := e0
  have d4 : W0.drew.cell? ⟨b2, 1, none⟩ = some (.int .i64 (V2 : Int)) := e1
  have d5 : W0.drew.cell? ⟨b2, 2, none⟩ = some (.slice (some ⟨g2, 0, none⟩) n2 k2) := e2
  have Q3 := hide q3
  clear A1 R1 G1 A2' R2' G2 q3
  go_region_held3 (fun w' => w'.cell? ⟨b1, 0, none⟩ = some (.int .i64 (W1 : Int)) ∧ w'.cell? ⟨b1, 1, none⟩ = some (.int .i64 (V1 : Int)) ∧ w'.cell? ⟨b1, 2, none⟩ = some (.slice (some ⟨g1, 0, none⟩) n1 k1) ∧ w'.cell? ⟨b2, 0, none⟩ = some (.int .i64 (W2 : Int)) ∧ w'.cell? ⟨b2, 1, none⟩ = some (.int .i64 (V2 : Int)) ∧ w'.cell? ⟨b2, 2, none⟩ = some (.slice (some ⟨g2, 0, none⟩) n2 k2)) (first | (refine ⟨?_, ?_, ?_, ?_, ?_, ?_⟩ <;> with_reducible assumption) | (trace_state; fail))
    (first
      | (go_at_call 15; (with_reducible refine (HF1.out _ ?_).mono ?_); (exact (Below.refl _ _).drew); rintro e w4 ⟨rfl, hb4⟩; have HQ4 := hide (show Below W0.heap.size W0 w4 from below_to hb4 (Below.refl _ _) (Nat.le_refl _) rfl rfl rfl rfl); have f0 := (hb4.cell (p := ⟨b1, 0, none⟩) p1).trans a0; have f1 := (hb4.cell (p := ⟨b1, 1, none⟩) p1).trans a1; have f2 := (hb4.cell (p := ⟨b1, 2, none⟩) p1).trans a2; have f3 := (hb4.cell (p := ⟨b2, 0, none⟩) p2).trans e0; have f4 := (hb4.cell (p := ⟨b2, 1, none⟩) p2).trans e1; have f5 := (hb4.cell (p := ⟨b2, 2, none⟩) p2).trans e2; clear hb4)
      | (go_at_call 15; (with_reducible refine (HF2.out _ HQ4.out).mono ?_); rintro e w5 ⟨rfl, hb5⟩; have HQ5 := hide (below_after HQ4.out hb5 HQ4.out.size); have i0 := (HQ5.out.cell (p := ⟨b1, 0, none⟩) p1).trans a0; have i1 := (HQ5.out.cell (p := ⟨b1, 1, none⟩) p1).trans a1; have i2 := (HQ5.out.cell (p := ⟨b1, 2, none⟩) p1).trans a2; have i3 := (HQ5.out.cell (p := ⟨b2, 0, none⟩) p2).trans e0; have i4 := (HQ5.out.cell (p := ⟨b2, 1, none⟩) p2).trans e1; have i5 := (HQ5.out.cell (p := ⟨b2, 2, none⟩) p2).trans e2; clear hb5)
      | (go_at_call 14; (refine (diWordTo_any x1 x2 _).mono ?_); rintro e w6 ⟨rfl, hb6⟩; have HQ6 := hide (below_after HQ5.out hb6 HQ5.out.size); have j0 := (HQ6.out.cell (p := ⟨b1, 0, none⟩) p1).trans a0; have j1 := (HQ6.out.cell (p := ⟨b1, 1, none⟩) p1).trans a1; have j2 := (HQ6.out.cell (p := ⟨b1, 2, none⟩) p1).trans a2; have j3 := (HQ6.out.cell (p := ⟨b2, 0, none⟩) p2).trans e0; have j4 := (HQ6.out.cell (p := ⟨b2, 1, none⟩) p2).trans e1; have j5 := (HQ6.out.cell (p := ⟨b2, 2, none⟩) p2).trans e2; clear hb6))
  all_goals
    go_wp2
    go_returns
    exact ⟨rfl, below_after Q3.out HQ6.out Q3.out.size⟩
theorem implSame_no (s t : ByteArray) (w : World) (hs : s.size ≤ 1048576) (ht : t.size ≤ 1048576) (h : (netB s.data.toList && netB t.data.toList) = false) : Calls Try.prog 8 #[.string s, .string t] w fun e w' => e = .returned (.tuple #[.bool false, .bool false]) ∧ Below w.heap.size w w' := by
  have key : ∀ (x y : D) (a b : Bool), (a && b) = false → Hid (∀ wx, Calls Try.prog 16 #[.string s] wx fun e w' => e = .returned (.tuple #[D.v x, .bool a]) ∧ Below wx.heap.size wx w') → Hid (∀ wx, Calls Try.prog 16 #[.string t] wx fun e w' => e = .returned (.tuple #[D.v y, .bool b]) ∧ Below wx.heap.size wx w') → Calls Try.prog 8 #[.string s, .string t] w fun e w' => e = .returned (.tuple #[.bool false, .bool false]) ∧ Below w.heap.size w w' := by
    intro x y a b hab F1 F2
    have HAB := hide hab
    clear hab h hs ht
    go_enter Try.func8, Try.ntmps8
    go_wp2_with fail
    refine (F1.out _).mono ?_
    rintro e w1 ⟨rfl, hb1⟩
    have q1 := hb1.alloc hb1.size (.cells #[.int .i64 x.t, .int .i64 x.n, .int .i64 x.e, .int .i64 x.s, .int .i64 x.w, .int .i64 x.b] 39)
    clear hb1
    go_wp2_with fail
    refine (F2.out _).mono ?_
    rintro e w2 ⟨rfl, hb2⟩
    have q2 := below_after q1 hb2 q1.size
    clear q1 hb2
    cases a
    · go_wp2
      go_returns
      exact ⟨rfl, q2.alloc q2.size _⟩
    · obtain rfl : b = false := HAB.out
      go_wp2
      go_returns
      exact ⟨rfl, q2.alloc q2.size _⟩
  cases h1 : netB s.data.toList
  · cases h2 : netB t.data.toList
    · exact key _ _ _ _ rfl (hide (fun wx => implFoldNet_no s wx hs h1)) (hide (fun wx => implFoldNet_no t wx ht h2))
    · exact key _ _ _ _ rfl (hide (fun wx => implFoldNet_no s wx hs h1)) (hide (fun wx => implFoldNet_yes t wx ht h2))
  · cases h2 : netB t.data.toList
    · exact key _ _ _ _ rfl (hide (fun wx => implFoldNet_yes s wx hs h1)) (hide (fun wx => implFoldNet_no t wx ht h2))
    · rw [h1, h2] at h; cases h
theorem implSame_yes (s t : ByteArray) (w : World) (hs : s.size ≤ 1048576) (ht : t.size ≤ 1048576) (h1 : netB s.data.toList = true) (h2 : netB t.data.toList = true) : Calls Try.prog 8 #[.string s, .string t] w fun e w' => e = .returned (.tuple #[.bool (known (bfs (foldD s.data.toList)) (foldD t.data.toList)), .bool true]) ∧ Below w.heap.size w w' := by
  have F1 := hide (fun wx => implFoldNet_yes s wx hs h1)
  have F2 := hide (fun wx => implFoldNet_yes t wx ht h2)
  have HT := hide (fun wx => implIsTurned_yes (foldD s.data.toList) (foldD t.data.toList) wx (fold_good (net_is_six h1)) (fold_good (net_is_six h2)))
  generalize foldD s.data.toList = x at F1 HT ⊢
  generalize foldD t.data.toList = y at F2 HT ⊢
  clear h1 h2 hs ht
  go_enter Try.func8, Try.ntmps8
  go_wp2_with fail
  refine (F1.out _).mono ?_
  rintro e w1 ⟨rfl, hb1⟩
  have q1 := hb1.alloc hb1.size (.cells #[.int .i64 x.t, .int .i64 x.n, .int .i64 x.e, .int .i64 x.s, .int .i64 x.w, .int .i64 x.b] 39)
  have g1 := IsD.new (w := w1) (d := x) (ty := 39)
  clear hb1
  go_wp2_with fail
  refine (F2.out _).mono ?_
  rintro e w2 ⟨rfl, hb2⟩
  have q2 := below_after q1 hb2 q1.size
  have q3 := q2.alloc q2.size (.cells #[.int .i64 y.t, .int .i64 y.n, .int .i64 y.e, .int .i64 y.s, .int .i64 y.w, .int .i64 y.b] 39)
  have g2 := (isD_to hb2 g1 rfl).alloc (.cells #[.int .i64 y.t, .int .i64 y.n, .int .i64 y.e, .int .i64 y.s, .int .i64 y.w, .int .i64 y.b] 39)
  have g3 := IsD.new (w := w2) (d := y) (ty := 39)
  obtain ⟨p1, ⟨a0, a1, a2, a3, a4, a5⟩, -⟩ := g2.all
  obtain ⟨p2, ⟨e0, e1, e2, e3, e4, e5⟩, -⟩ := g3.all
  have Q3 := hide q3
  clear q1 q2 q3 hb2 g1 g2 g3
  go_wp2_with (go_at_call 17; (refine (HT.out _).mono ?_); rintro e w4 ⟨rfl, hb4⟩; have HQ4 := hide (below_after Q3.out hb4 Q3.out.size))
  go_returns
  exact ⟨rfl, HQ4.out⟩
set_option maxHeartbeats 800000 in
theorem walk_AreSameDie (s : ByteArray) (hs : s.size ≤ maxLen) (t : ByteArray) (ht : t.size ≤ maxLen) (w : World) : Calls Try.prog 4 #[.string s, .string t] w fun e w' => e = .returned (.bool true) ∧ Below w.heap.size w w' := by
  by_cases h1 : s.size ≤ 1048576
  · by_cases h2 : t.size ≤ 1048576
    · have h1i : (s.size : Int) ≤ 1048576 := by omega
      have h2i : (t.size : Int) ≤ 1048576 := by omega
      have key : ∀ (x ok : Bool), Hid (∀ wx, Calls Try.prog 7 #[.string s, .string t] wx fun e w' => e = .returned (.tuple #[.bool x, .bool ok]) ∧ Below wx.heap.size wx w') → Hid (∀ wx, Calls Try.prog 8 #[.string s, .string t] wx fun e w' => e = .returned (.tuple #[.bool x, .bool ok]) ∧ Below wx.heap.size wx w') → Calls Try.prog 4 #[.string s, .string t] w fun e w' => e = .returned (.bool true) ∧ Below w.heap.size w w' := by
        intro x ok HS HP
        have e1 : (ok != ok) = false := by simp
        have e2 : (x != x) = false := by simp
        go_enter Try.func4, Try.ntmps4
        go_wp2_with fail
        refine (HS.out _).mono ?_
        rintro e w1 ⟨rfl, hb1⟩
        go_wp2_with fail
        refine (HP.out _).mono ?_
        rintro e w2 ⟨rfl, hb2⟩
        go_wp2
        go_returns
        exact ⟨rfl, below_after hb1 hb2 hb1.size⟩
      cases n1 : netB s.data.toList
      · exact key _ _ (hide (fun wx => specSame_no s t wx (by rw [n1]; rfl))) (hide (fun wx => implSame_no s t wx h1 h2 (by rw [n1]; rfl)))
      · cases n2 : netB t.data.toList
        · exact key _ _ (hide (fun wx => specSame_no s t wx (by rw [n1, n2]; rfl))) (hide (fun wx => implSame_no s t wx h1 h2 (by rw [n1, n2]; rfl)))
        · exact key _ _ (hide (fun wx => specSame_yes s t wx n1 n2)) (hide (fun wx => implSame_yes s t wx h1 h2 n1 n2))
    · have h1i : (s.size : Int) ≤ 1048576 := by omega
      have h2i : (1048576 : Int) < (t.size : Int) := by omega
      clear h1 h2
      go_enter Try.func4, Try.ntmps4
      go_wp2
      go_returns
      exact ⟨rfl, Below.refl _ _⟩
  · have h1i : (1048576 : Int) < (s.size : Int) := by omega
    clear h1
    go_enter Try.func4, Try.ntmps4
    go_wp2
    go_returns
    exact ⟨rfl, Below.refl _ _⟩
end Go.Proofs.Ytkknjokacinlaaa
