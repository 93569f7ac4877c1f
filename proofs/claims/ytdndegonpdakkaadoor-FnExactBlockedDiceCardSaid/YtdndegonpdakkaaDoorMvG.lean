/- Moves of groups: the contract of the closure that moveOn makes. -/
import Derived.Test.YtdndegonpdakkaaDoorGrpO
import Derived.Test.YtdndegonpdakkaaDoorRolls
import Derived.Test.YtdndegonpdakkaaDoorTake
import Derived.Deep.RegionHeld3
namespace Go.Proofs.YtdndegonpdakkaaDoor
set_option maxRecDepth 100000
set_option linter.all false
open Go.RowKit
attribute [local go_sem ↓] Go.wp_at_zero Go.wp_at_succ

/-- The rows of a board in a closure's box. -/
def RowsBox (w : World) (Br gR : Nat) (s : ByteArray) : Prop := Br < w.heap.size ∧ w.cell? ⟨Br, 0, none⟩ = some (.slice (some ⟨gR, 0, none⟩) (rowsB s).length (rowsB s).length) ∧ RowsAt w gR (rowsB s)
theorem rowsBox_to {w w0 w1 : World} {Br gR : Nat} {s : ByteArray} (hb : Below w0.heap.size w0 w1) (h : RowsBox w Br gR s) (e : w0.heap = w.heap) : RowsBox w1 Br gR s := by
  have hs := hb.size
  refine ⟨by rw [e] at hs; have := h.1; omega, ?_, rowsAt_to hb h.2.2 e⟩
  rw [hb.cell (p := ⟨Br, _, none⟩) (by rw [e]; exact h.1)]
  have h5 : w0.heap[(⟨Br, 0, none⟩ : Addr).block]? = w.heap[(⟨Br, 0, none⟩ : Addr).block]? := by rw [e]
  rw [World.cell?_of_block h5]
  exact h.2.1
theorem moveOn_any (s : ByteArray) (gR : Nat) (w : World) (hR : RowsAt w gR (rowsB s)) : Calls Tryd.prog 48 #[.slice (some ⟨gR, 0, none⟩) (rowsB s).length (rowsB s).length] w fun e w' => ∃ Br, e = .returned (.func (.func 72) #[] #[.pointer (some ⟨Br, 0, none⟩)]) ∧ RowsBox w' Br gR s ∧ Below w.heap.size w w' := by
  have q : Below w.heap.size w (w.alloc (.cells #[.slice (some ⟨gR, 0, none⟩) (rowsB s).length (rowsB s).length] 30)) := (Below.refl _ _).alloc (Nat.le_refl _) _
  have R := rowsAt_to (w0 := w) q hR rfl
  go_enter Tryd.func48, Tryd.ntmps48
  go_wp2
  go_returns
  exact ⟨_, rfl, ⟨by simp, by simp [World.cell?_alloc_mark], R⟩, q⟩
/-- What holds within a move. -/
def MvI (w wx : World) (Br gR : Nat) (s : ByteArray) (a b c : St) : Prop := IsP wx w.heap.size a b c ∧ IsP wx (w.heap.size + 1) ⟨0, 0, ⟨0, 0, 0, 0, 0, 0⟩⟩ ⟨0, 0, ⟨0, 0, 0, 0, 0, 0⟩⟩ ⟨0, 0, ⟨0, 0, 0, 0, 0, 0⟩⟩ ∧ RowsBox wx Br gR s ∧ Below w.heap.size w wx
theorem mvI_to {w wx w0 w1 : World} {Br gR : Nat} {s : ByteArray} {a b c : St} (hb : Below w0.heap.size w0 w1) (h : MvI w wx Br gR s a b c) (e : w0.heap = wx.heap) (e2 : w0.os = wx.os) (e3 : w0.tape = wx.tape) (e4 : w0.output = wx.output) : MvI w w1 Br gR s a b c :=
  ⟨isP_to hb h.1 e, isP_to hb h.2.1 e, rowsBox_to hb h.2.2.1 e, below_to hb h.2.2.2 h.2.2.2.size e e2 e3 e4⟩
/-- Can a die be moved? -/
def okM (l : List UInt8) (a b c g : St) (d : Int) : Bool := floorL l (rollT g d).x (rollT g d).y && !inAny [a, b, c] (rollT g d).x (rollT g d).y

set_option maxHeartbeats 3200000 in
theorem mvNo_0 (a b c : St) (d : UInt8) (Br gR : Nat) (s : ByteArray) (w : World) (hs : s.size ≤ 1048576) (hb : isBd s.data.toList = true) (hd : 0 ≤ dirIx d.toNat) (hx : -100000 ≤ a.x ∧ a.x ≤ 100000) (hy : -100000 ≤ a.y ∧ a.y ≤ 100000) (hR : RowsBox w Br gR s) (hf : floorL s.data.toList (rollT a (dirIx d.toNat)).x (rollT a (dirIx d.toNat)).y = false) : Calls Tryd.prog 72 #[gV a b c, .string ⟨#[48, d]⟩, .pointer (some ⟨Br, 0, none⟩)] w fun e w' => e = .returned (.tuple #[gV ⟨0, 0, ⟨0, 0, 0, 0, 0, 0⟩⟩ ⟨0, 0, ⟨0, 0, 0, 0, 0, 0⟩⟩ ⟨0, 0, ⟨0, 0, 0, 0, 0, 0⟩⟩, .bool false]) ∧ Below w.heap.size w w' := by
  have HF := hide hf
  clear hf
  have q0 : Below w.heap.size w ((w.alloc (.cells #[.int .i64 a.x, .int .i64 a.y, .int .i64 a.d.t, .int .i64 a.d.n, .int .i64 a.d.e, .int .i64 a.d.s, .int .i64 a.d.w, .int .i64 a.d.b, .int .i64 b.x, .int .i64 b.y, .int .i64 b.d.t, .int .i64 b.d.n, .int .i64 b.d.e, .int .i64 b.d.s, .int .i64 b.d.w, .int .i64 b.d.b, .int .i64 c.x, .int .i64 c.y, .int .i64 c.d.t, .int .i64 c.d.n, .int .i64 c.d.e, .int .i64 c.d.s, .int .i64 c.d.w, .int .i64 c.d.b] 70)).alloc (.cells #[.int .i64 0, .int .i64 0, .int .i64 0, .int .i64 0, .int .i64 0, .int .i64 0, .int .i64 0, .int .i64 0, .int .i64 0, .int .i64 0, .int .i64 0, .int .i64 0, .int .i64 0, .int .i64 0, .int .i64 0, .int .i64 0, .int .i64 0, .int .i64 0, .int .i64 0, .int .i64 0, .int .i64 0, .int .i64 0, .int .i64 0, .int .i64 0] 70)) := by go_grown
  have T0 : MvI w ((w.alloc (.cells #[.int .i64 a.x, .int .i64 a.y, .int .i64 a.d.t, .int .i64 a.d.n, .int .i64 a.d.e, .int .i64 a.d.s, .int .i64 a.d.w, .int .i64 a.d.b, .int .i64 b.x, .int .i64 b.y, .int .i64 b.d.t, .int .i64 b.d.n, .int .i64 b.d.e, .int .i64 b.d.s, .int .i64 b.d.w, .int .i64 b.d.b, .int .i64 c.x, .int .i64 c.y, .int .i64 c.d.t, .int .i64 c.d.n, .int .i64 c.d.e, .int .i64 c.d.s, .int .i64 c.d.w, .int .i64 c.d.b] 70)).alloc (.cells #[.int .i64 0, .int .i64 0, .int .i64 0, .int .i64 0, .int .i64 0, .int .i64 0, .int .i64 0, .int .i64 0, .int .i64 0, .int .i64 0, .int .i64 0, .int .i64 0, .int .i64 0, .int .i64 0, .int .i64 0, .int .i64 0, .int .i64 0, .int .i64 0, .int .i64 0, .int .i64 0, .int .i64 0, .int .i64 0, .int .i64 0, .int .i64 0] 70)) Br gR s a b c := ⟨(IsP.new (w := w) (a := a) (b := b) (c := c)).alloc (.cells #[.int .i64 0, .int .i64 0, .int .i64 0, .int .i64 0, .int .i64 0, .int .i64 0, .int .i64 0, .int .i64 0, .int .i64 0, .int .i64 0, .int .i64 0, .int .i64 0, .int .i64 0, .int .i64 0, .int .i64 0, .int .i64 0, .int .i64 0, .int .i64 0, .int .i64 0, .int .i64 0, .int .i64 0, .int .i64 0, .int .i64 0, .int .i64 0] 70), IsP.new2 (w := w) (o := (.cells #[.int .i64 a.x, .int .i64 a.y, .int .i64 a.d.t, .int .i64 a.d.n, .int .i64 a.d.e, .int .i64 a.d.s, .int .i64 a.d.w, .int .i64 a.d.b, .int .i64 b.x, .int .i64 b.y, .int .i64 b.d.t, .int .i64 b.d.n, .int .i64 b.d.e, .int .i64 b.d.s, .int .i64 b.d.w, .int .i64 b.d.b, .int .i64 c.x, .int .i64 c.y, .int .i64 c.d.t, .int .i64 c.d.n, .int .i64 c.d.e, .int .i64 c.d.s, .int .i64 c.d.w, .int .i64 c.d.b] 70)) (a := ⟨0, 0, ⟨0, 0, 0, 0, 0, 0⟩⟩) (b := ⟨0, 0, ⟨0, 0, 0, 0, 0, 0⟩⟩) (c := ⟨0, 0, ⟨0, 0, 0, 0, 0, 0⟩⟩), rowsBox_to (w0 := w) q0 hR rfl, q0⟩
  generalize hW : (w.alloc (.cells #[.int .i64 a.x, .int .i64 a.y, .int .i64 a.d.t, .int .i64 a.d.n, .int .i64 a.d.e, .int .i64 a.d.s, .int .i64 a.d.w, .int .i64 a.d.b, .int .i64 b.x, .int .i64 b.y, .int .i64 b.d.t, .int .i64 b.d.n, .int .i64 b.d.e, .int .i64 b.d.s, .int .i64 b.d.w, .int .i64 b.d.b, .int .i64 c.x, .int .i64 c.y, .int .i64 c.d.t, .int .i64 c.d.n, .int .i64 c.d.e, .int .i64 c.d.s, .int .i64 c.d.w, .int .i64 c.d.b] 70)).alloc (.cells #[.int .i64 0, .int .i64 0, .int .i64 0, .int .i64 0, .int .i64 0, .int .i64 0, .int .i64 0, .int .i64 0, .int .i64 0, .int .i64 0, .int .i64 0, .int .i64 0, .int .i64 0, .int .i64 0, .int .i64 0, .int .i64 0, .int .i64 0, .int .i64 0, .int .i64 0, .int .i64 0, .int .i64 0, .int .i64 0, .int .i64 0, .int .i64 0] 70) = W0 at T0
  have HW := hide hW
  clear hW q0 hR
  obtain ⟨r, hr⟩ : ∃ r, r = rollT a (dirIx d.toNat) := ⟨_, rfl⟩
  have HR := hide hr
  have HX := hide hx
  have HY := hide hy
  have HD := hide hd
  have HCA := hide (fun (wx : World) (x y : Int) (ha : RowsAt wx gR (rowsB s)) => cellAtL_any s gR x y wx hs hb ha)
  have HIX := hide (show ∀ wx : World, Calls Tryd.prog 73 #[.string ⟨#[48, 49, 50]⟩, .int .u8 48] wx fun e w' => e = .returned (.int .i64 0) ∧ wx = w' from fun wx => (indexIn_any ⟨#[48, 49, 50]⟩ 48 wx).mono fun e w' h => ⟨h.1.trans (congrArg (fun x => Ending.returned (.int .i64 x)) (by decide)), h.2⟩)
  clear hr hx hy hd hb hs
  have HT0 := hide T0
  obtain ⟨c0, c1, c2, c3, c4, c5, c6, c7, c8, c9, c10, c11, c12, c13, c14, c15, c16, c17, c18, c19, c20, c21, c22, c23⟩ := T0.1.all
  clear T0 c8 c9 c10 c11 c12 c13 c14 c15 c16 c17 c18 c19 c20 c21 c22 c23
  go_enter Tryd.func72, Tryd.ntmps72
  go_upto_region 1 with (fail)
  rw [HW.out]
  go_upto_region 2 with (go_at_call 73; refine (HIX.out _).mono ?_; rintro e w' ⟨rfl, rfl⟩)
  have em : (⟨#[48, d]⟩ : ByteArray)[1]'(by show 1 < 2; omega) = d := rfl
  have hl0 := HT0.out.1.lt
  have HRA := hide (IsS.new (w := W0) (s := ⟨0, 0, ⟨0, 0, 0, 0, 0, 0⟩⟩) (ty := 57))
  have HTA := hide (show MvI w (W0.alloc (.cells #[.int .i64 0, .int .i64 0, .int .i64 0, .int .i64 0, .int .i64 0, .int .i64 0, .int .i64 0, .int .i64 0] 57)) Br gR s a b c from mvI_to (w0 := W0) ((Below.refl _ _).alloc (Nat.le_refl _) _) HT0.out rfl rfl rfl rfl)
  have HRS := hide (fun wx => rolledState_any d a wx HD.out HX.out HY.out)
  go_cut [8] from 12 to 18 (fun t8 wx => ∃ B8, t8 = .pointer (some ⟨B8, 0, none⟩) ∧ IsS wx B8 r 57 ∧ MvI w wx Br gR s a b c)
  case first =>
    refine wp_region_held_drew (S := (fun w' => w'.cell? ⟨w.heap.size, 0, none⟩ = some (.int .i64 a.x) ∧ w'.cell? ⟨w.heap.size, 1, none⟩ = some (.int .i64 a.y) ∧ w'.cell? ⟨w.heap.size, 2, none⟩ = some (.int .i64 a.d.t) ∧ w'.cell? ⟨w.heap.size, 3, none⟩ = some (.int .i64 a.d.n) ∧ w'.cell? ⟨w.heap.size, 4, none⟩ = some (.int .i64 a.d.e) ∧ w'.cell? ⟨w.heap.size, 5, none⟩ = some (.int .i64 a.d.s) ∧ w'.cell? ⟨w.heap.size, 6, none⟩ = some (.int .i64 a.d.w) ∧ w'.cell? ⟨w.heap.size, 7, none⟩ = some (.int .i64 a.d.b))) (by kernel_rfl) (by refine ⟨?_, ?_, ?_, ?_, ?_, ?_, ?_, ?_⟩ <;> first | with_reducible assumption | assumption) (fun hHeld => ?_)
    refine takeD (i := 0) (v := ?_) 12 rfl rfl (by kernel_rfl) (by kernel_rfl) (by kernel_rfl) (fun _ _ _ h => h) (Or.inl ⟨by rfl, ?_⟩) (by assumption) ?_
    rotate_left 1
    · (intro w hSw; (try dsimp only at hSw); go_simp; (try with_reducible rfl))
    try simp only [Act.put, List.setIfInBounds_toArray, List.set_cons_zero, List.set_cons_succ]
    refine takeD (i := 1) (v := ?_) 13 rfl rfl (by kernel_rfl) (by kernel_rfl) (by kernel_rfl) (fun _ _ _ h => h) (Or.inl ⟨by rfl, ?_⟩) (by assumption) ?_
    rotate_left 1
    · (intro w hSw; (try dsimp only at hSw); go_simp; (try with_reducible rfl))
    try simp only [Act.put, List.setIfInBounds_toArray, List.set_cons_zero, List.set_cons_succ]
    refine takeD (i := 2) (v := ?_) 14 rfl rfl (by kernel_rfl) (by kernel_rfl) (by kernel_rfl) (fun _ _ _ h => h) (Or.inl ⟨by rfl, ?_⟩) (by assumption) ?_
    rotate_left 1
    · (intro w hSw; (try dsimp only at hSw); go_simp; (try with_reducible rfl))
    try simp only [Act.put, List.setIfInBounds_toArray, List.set_cons_zero, List.set_cons_succ]
    refine takeD (i := 3) (v := ?_) 15 rfl rfl (by kernel_rfl) (by kernel_rfl) (by kernel_rfl) (fun _ _ _ h => h) (Or.inl ⟨by rfl, ?_⟩) (by assumption) ?_
    rotate_left 1
    · (intro w hSw; (try dsimp only at hSw); go_simp; (try with_reducible rfl))
    try simp only [Act.put, List.setIfInBounds_toArray, List.set_cons_zero, List.set_cons_succ]
    refine takeD (i := 4) (v := ?_) 16 rfl rfl (by kernel_rfl) (by kernel_rfl) (by kernel_rfl) (fun _ _ _ h => h) (Or.inl ⟨by rfl, ?_⟩) (by assumption) ?_
    rotate_left 1
    · (intro w hSw; (try dsimp only at hSw); go_simp; (try with_reducible rfl))
    try simp only [Act.put, List.setIfInBounds_toArray, List.set_cons_zero, List.set_cons_succ]
    refine wpAnyH_ready (rs := [5, 6]) (by kernel_rfl) (by simp) ?_
    refine AllReadyH.cons (o := _) rfl (fun K hK => ?_) (AllReadyH.cons (o := _) rfl (fun K hK => ?_) AllReadyH.nil)
    · go_simp
      go_at_call 74
      (with_reducible refine (HRS.out _).mono ?_)
      rintro e w2 ⟨rfl, hb2⟩
      rw [← HR.out]
      have T2 := mvI_to hb2 HT0.out rfl rfl rfl rfl
      obtain ⟨x0, x1, x2, x3, x4, x5, x6, x7, -, -, -, -, -, -, -, -, -, -, -, -, -, -, -, -⟩ := T2.1.all
      have hl2 := T2.1.lt
      dsimp only
      refine hK.out _ _ (by refine ⟨?_, ?_, ?_, ?_, ?_, ?_, ?_, ?_⟩ <;> first | with_reducible assumption | assumption) (fun hHeld1 => ?_)
      clear hK
      try simp only [Act.put, List.setIfInBounds_toArray, List.set_cons_zero, List.set_cons_succ]
      refine wpAnyH_ready (rs := [6]) (by kernel_rfl) (by simp) ?_
      refine AllReadyH.cons (o := _) rfl (fun K hK => ?_) AllReadyH.nil
      go_simp
      have TA := mvI_to (w0 := w2) ((Below.refl _ _).alloc (Nat.le_refl _) (.cells #[.int .i64 0, .int .i64 0, .int .i64 0, .int .i64 0, .int .i64 0, .int .i64 0, .int .i64 0, .int .i64 0] 57)) T2 rfl rfl rfl rfl
      obtain ⟨y0, y1, y2, y3, y4, y5, y6, y7, -, -, -, -, -, -, -, -, -, -, -, -, -, -, -, -⟩ := TA.1.all
      refine hK.out _ _ (by refine ⟨?_, ?_, ?_, ?_, ?_, ?_, ?_, ?_⟩ <;> first | with_reducible assumption | assumption) (fun hHeld2 => ?_)
      clear hK
      try simp only [Act.put, List.setIfInBounds_toArray, List.set_cons_zero, List.set_cons_succ]
      refine wpAnyH_ready (rs := [7]) (by kernel_rfl) (by simp) ?_
      refine AllReadyH.cons (o := _) rfl (fun K hK => ?_) AllReadyH.nil
      go_simp
      have SF := IsS.new (w := w2) (s := r) (ty := 57)
      have TF := mvI_to (w0 := w2) ((Below.refl _ _).alloc (Nat.le_refl _) (.cells #[.int .i64 r.x, .int .i64 r.y, .int .i64 r.d.t, .int .i64 r.d.n, .int .i64 r.d.e, .int .i64 r.d.s, .int .i64 r.d.w, .int .i64 r.d.b] 57)) T2 rfl rfl rfl rfl
      obtain ⟨z0, z1, z2, z3, z4, z5, z6, z7, -, -, -, -, -, -, -, -, -, -, -, -, -, -, -, -⟩ := TF.1.all
      refine hK.out _ _ (by refine ⟨?_, ?_, ?_, ?_, ?_, ?_, ?_, ?_⟩ <;> first | with_reducible assumption | assumption) (fun hHeld3 => ?_)
      clear hK
      try simp only [Act.put, List.setIfInBounds_toArray, List.set_cons_zero, List.set_cons_succ]
      refine wpAnyH_done (by kernel_rfl) ?_ _
      go_wp2_with fail
      go_meet
      exact ⟨_, rfl, SF, TF⟩
    · go_simp
      obtain ⟨y0, y1, y2, y3, y4, y5, y6, y7, -, -, -, -, -, -, -, -, -, -, -, -, -, -, -, -⟩ := HTA.out.1.all
      refine hK.out _ _ (by refine ⟨?_, ?_, ?_, ?_, ?_, ?_, ?_, ?_⟩ <;> first | with_reducible assumption | assumption) (fun hHeld1 => ?_)
      clear hK
      try simp only [Act.put, List.setIfInBounds_toArray, List.set_cons_zero, List.set_cons_succ]
      refine wpAnyH_ready (rs := [5]) (by kernel_rfl) (by simp) ?_
      refine AllReadyH.cons (o := _) rfl (fun K hK => ?_) AllReadyH.nil
      go_simp
      go_at_call 74
      (with_reducible refine (HRS.out _).mono ?_)
      rintro e w2 ⟨rfl, hb2⟩
      rw [← HR.out]
      have T2 := mvI_to hb2 HTA.out rfl rfl rfl rfl
      have R2 := isS_to hb2 HRA.out rfl
      have hb02 : Below W0.heap.size W0 w2 := below_to hb2 ((Below.refl W0.heap.size W0).alloc (Nat.le_refl _) (.cells #[.int .i64 0, .int .i64 0, .int .i64 0, .int .i64 0, .int .i64 0, .int .i64 0, .int .i64 0, .int .i64 0] 57)) (by simp) rfl rfl rfl rfl
      clear hb2
      obtain ⟨x0, x1, x2, x3, x4, x5, x6, x7, -, -, -, -, -, -, -, -, -, -, -, -, -, -, -, -⟩ := T2.1.all
      dsimp only
      refine hK.out _ _ (by refine ⟨?_, ?_, ?_, ?_, ?_, ?_, ?_, ?_⟩ <;> first | with_reducible assumption | assumption) (fun hHeld2 => ?_)
      clear hK
      try simp only [Act.put, List.setIfInBounds_toArray, List.set_cons_zero, List.set_cons_succ]
      obtain ⟨lr, ⟨r0, r1, r2, r3, r4, r5, r6, r7⟩, e0, e1, e2, e3, e4, e5, e6, e7⟩ := R2.all
      refine wpAnyH_ready (rs := [7]) (by kernel_rfl) (by simp) ?_
      refine AllReadyH.cons (o := _) rfl (fun K hK => ?_) AllReadyH.nil
      go_simp
      have SF := R2.set8 r
      have TF := mvI_to (w0 := W0) (below_set8 hb02 (Nat.le_refl _) r) HT0.out rfl rfl rfl rfl
      clear r0 r1 r2 r3 r4 r5 r6 r7
      obtain ⟨z0, z1, z2, z3, z4, z5, z6, z7, -, -, -, -, -, -, -, -, -, -, -, -, -, -, -, -⟩ := TF.1.all
      refine hK.out _ _ (by refine ⟨?_, ?_, ?_, ?_, ?_, ?_, ?_, ?_⟩ <;> first | with_reducible assumption | assumption) (fun hHeld3 => ?_)
      clear hK
      try simp only [Act.put, List.setIfInBounds_toArray, List.set_cons_zero, List.set_cons_succ]
      refine wpAnyH_done (by kernel_rfl) ?_ _
      go_wp2_with fail
      go_meet
      exact ⟨_, rfl, SF, TF⟩
  obtain ⟨B8, rfl, SF, TF⟩ := hcut
  have hlB : B8 < wc.heap.size := SF.lt
  have HSF := hide SF
  have HTF := hide TF
  have hbx := TF.2.2.1.2.1
  obtain ⟨_, ⟨s0, s1, s2, s3, s4, s5, s6, s7⟩, -⟩ := SF.all
  have HRB := hide (show RowsAt wc.drew gR (rowsB s) from TF.2.2.1.2.2)
  obtain ⟨cc, hcc⟩ : ∃ cc, cc = cellI (splitP s.data.toList) r.x r.y := ⟨_, rfl⟩
  have HCC := hide hcc
  have hq0 : decide ((cc.toNat : Int) = 46) = false := by
    have := HF.out
    unfold floorL at this
    rw [← HR.out, ← hcc] at this
    exact this
  have hq1 := eq46' hq0
  have hq2 : (((cc.toNat : Nat) : Int) != 46) = true := by rw [bne, hq1]; rfl
  clear hcc hq0 SF TF
  go_upto_region 3 with (fail)
  refine wp_region_held_drew (S := (fun w' => w'.cell? ⟨Br, 0, none⟩ = some (.slice (some ⟨gR, 0, none⟩) (rowsB s).length (rowsB s).length) ∧ w'.cell? ⟨B8, 0, none⟩ = some (.int .i64 r.x) ∧ w'.cell? ⟨B8, 1, none⟩ = some (.int .i64 r.y) ∧ w'.cell? ⟨B8, 2, none⟩ = some (.int .i64 r.d.t) ∧ w'.cell? ⟨B8, 3, none⟩ = some (.int .i64 r.d.n) ∧ w'.cell? ⟨B8, 4, none⟩ = some (.int .i64 r.d.e) ∧ w'.cell? ⟨B8, 5, none⟩ = some (.int .i64 r.d.s) ∧ w'.cell? ⟨B8, 6, none⟩ = some (.int .i64 r.d.w) ∧ w'.cell? ⟨B8, 7, none⟩ = some (.int .i64 r.d.b))) (by kernel_rfl) (by refine ⟨?_, ?_, ?_, ?_, ?_, ?_, ?_, ?_, ?_⟩ <;> assumption) (fun hHeld => ?_)
  refine takeD (i := 0) (v := ?_) 18 rfl rfl (by kernel_rfl) (by kernel_rfl) (by kernel_rfl) (fun _ _ _ h => h) (Or.inl ⟨by rfl, ?_⟩) (by assumption) ?_
  rotate_left 1
  · (intro w hSw; (try dsimp only at hSw); go_simp; (try with_reducible rfl))
  try simp only [Act.put, List.setIfInBounds_toArray, List.set_cons_zero, List.set_cons_succ]
  refine takeD (i := 1) (v := ?_) 19 rfl rfl (by kernel_rfl) (by kernel_rfl) (by kernel_rfl) (fun _ _ _ h => h) (Or.inl ⟨by rfl, ?_⟩) (by assumption) ?_
  rotate_left 1
  · (intro w hSw; (try dsimp only at hSw); go_simp; (try with_reducible rfl))
  try simp only [Act.put, List.setIfInBounds_toArray, List.set_cons_zero, List.set_cons_succ]
  refine takeD (i := 2) (v := ?_) 20 rfl rfl (by kernel_rfl) (by kernel_rfl) (by kernel_rfl) (fun _ _ _ h => h) (Or.inl ⟨by rfl, ?_⟩) (by assumption) ?_
  rotate_left 1
  · (intro w hSw; (try dsimp only at hSw); go_simp; (try with_reducible rfl))
  try simp only [Act.put, List.setIfInBounds_toArray, List.set_cons_zero, List.set_cons_succ]
  refine takeD (i := 3) (v := ?_) 21 rfl rfl (by kernel_rfl) (by kernel_rfl) (by kernel_rfl) (fun _ _ _ h => h) (Or.inl ⟨by rfl, ?_⟩) (by assumption) ?_
  rotate_left 1
  · (intro w hSw; (try dsimp only at hSw); go_simp; (try with_reducible rfl))
  try simp only [Act.put, List.setIfInBounds_toArray, List.set_cons_zero, List.set_cons_succ]
  refine takeD (i := 4) (v := ?_) 22 rfl rfl (by kernel_rfl) (by kernel_rfl) (by kernel_rfl) (fun _ _ _ h => h) (Or.inl ⟨by rfl, ?_⟩) (by assumption) ?_
  rotate_left 1
  · (intro w hSw; (try dsimp only at hSw); go_simp; (try with_reducible rfl))
  try simp only [Act.put, List.setIfInBounds_toArray, List.set_cons_zero, List.set_cons_succ]
  refine wpAnyH_ready (rs := [5]) (by kernel_rfl) (by simp) ?_
  refine AllReadyH.cons (o := _) rfl (fun K hK => ?_) AllReadyH.nil
  go_simp
  go_at_call 75
  (with_reducible refine (HCA.out _ r.x r.y HRB.out).mono ?_)
  rintro e w3 ⟨rfl, rfl⟩
  rw [← HCC.out]
  dsimp only
  refine hK.out _ _ (by refine ⟨?_, ?_, ?_, ?_, ?_, ?_, ?_, ?_, ?_⟩ <;> assumption) (fun hHeld_1 => ?_)
  clear hK
  try simp only [Act.put, List.setIfInBounds_toArray, List.set_cons_zero, List.set_cons_succ]
  refine takeD (i := 6) (v := ?_) 24 rfl rfl (by kernel_rfl) (by kernel_rfl) (by kernel_rfl) (fun _ _ _ h => h) (Or.inl ⟨by rfl, ?_⟩) (by assumption) ?_
  rotate_left 1
  · (intro w hSw; (try dsimp only at hSw); go_simp; (try with_reducible rfl))
  try simp only [Act.put, List.setIfInBounds_toArray, List.set_cons_zero, List.set_cons_succ]
  refine takeD (i := 7) (v := ?_) 25 rfl rfl (by kernel_rfl) (by kernel_rfl) (by kernel_rfl) (fun _ _ _ h => h) (Or.inl ⟨by rfl, ?_⟩) (by assumption) ?_
  rotate_left 1
  · (intro w hSw; (try dsimp only at hSw); go_simp; (try with_reducible rfl))
  try simp only [Act.put, List.setIfInBounds_toArray, List.set_cons_zero, List.set_cons_succ]
  refine takeD (i := 8) (v := undef) 26 rfl rfl (by kernel_rfl) (by kernel_rfl) (by kernel_rfl) (fun _ _ _ h => h) (Or.inr ⟨by kernel_rfl, rfl⟩) (by assumption) ?_
  try simp only [Act.put, List.setIfInBounds_toArray, List.set_cons_zero, List.set_cons_succ]
  refine takeD (i := 9) (v := undef) 27 rfl rfl (by kernel_rfl) (by kernel_rfl) (by kernel_rfl) (fun _ _ _ h => h) (Or.inr ⟨by kernel_rfl, rfl⟩) (by assumption) ?_
  try simp only [Act.put, List.setIfInBounds_toArray, List.set_cons_zero, List.set_cons_succ]
  refine takeD (i := 10) (v := undef) 28 rfl rfl (by kernel_rfl) (by kernel_rfl) (by kernel_rfl) (fun _ _ _ h => h) (Or.inr ⟨by kernel_rfl, rfl⟩) (by assumption) ?_
  try simp only [Act.put, List.setIfInBounds_toArray, List.set_cons_zero, List.set_cons_succ]
  refine takeD (i := 11) (v := undef) 29 rfl rfl (by kernel_rfl) (by kernel_rfl) (by kernel_rfl) (fun _ _ _ h => h) (Or.inr ⟨by kernel_rfl, rfl⟩) (by assumption) ?_
  try simp only [Act.put, List.setIfInBounds_toArray, List.set_cons_zero, List.set_cons_succ]
  refine takeD (i := 12) (v := ?_) 30 rfl rfl (by kernel_rfl) (by kernel_rfl) (by kernel_rfl) (fun _ _ _ h => h) (Or.inl ⟨by rfl, ?_⟩) (by assumption) ?_
  rotate_left 1
  · (intro w hSw; (try dsimp only at hSw); go_simp; (try with_reducible rfl))
  try simp only [Act.put, List.setIfInBounds_toArray, List.set_cons_zero, List.set_cons_succ]
  refine wpAnyH_done (by kernel_rfl) ?_ _

  have HZ := hide HTF.out.2.1
  have R1 := hide (show IsP (wc.drew.setRow (w.heap.size + 1) #[.int .i64 0, .int .i64 0, .int .i64 0, .int .i64 0, .int .i64 0, .int .i64 0, .int .i64 0, .int .i64 0, .int .i64 0, .int .i64 0, .int .i64 0, .int .i64 0, .int .i64 0, .int .i64 0, .int .i64 0, .int .i64 0, .int .i64 0, .int .i64 0, .int .i64 0, .int .i64 0, .int .i64 0, .int .i64 0, .int .i64 0, .int .i64 0]) (w.heap.size + 1) ⟨0, 0, ⟨0, 0, 0, 0, 0, 0⟩⟩ ⟨0, 0, ⟨0, 0, 0, 0, 0, 0⟩⟩ ⟨0, 0, ⟨0, 0, 0, 0, 0, 0⟩⟩ from setRow_heap wc.drew _ _ _ _ _ HTF.out.2.1)
  have q1 := below_setRow HTF.out.2.2.2.drew (show w.heap.size ≤ w.heap.size + 1 by omega) #[.int .i64 0, .int .i64 0, .int .i64 0, .int .i64 0, .int .i64 0, .int .i64 0, .int .i64 0, .int .i64 0, .int .i64 0, .int .i64 0, .int .i64 0, .int .i64 0, .int .i64 0, .int .i64 0, .int .i64 0, .int .i64 0, .int .i64 0, .int .i64 0, .int .i64 0, .int .i64 0, .int .i64 0, .int .i64 0, .int .i64 0, .int .i64 0]
  go_wp2_with (refine wpList_store_row rfl 70 (.tmp 5) (.tmp 31) rfl (w.heap.size + 1) #[.int .i64 0, .int .i64 0, .int .i64 0, .int .i64 0, .int .i64 0, .int .i64 0, .int .i64 0, .int .i64 0, .int .i64 0, .int .i64 0, .int .i64 0, .int .i64 0, .int .i64 0, .int .i64 0, .int .i64 0, .int .i64 0, .int .i64 0, .int .i64 0, .int .i64 0, .int .i64 0, .int .i64 0, .int .i64 0, .int .i64 0, .int .i64 0] rfl rfl _ _ HZ.out (by kernel_rfl) (by kernel_rfl) (by kernel_rfl) ?_)
  exact bodyPost_ret (ret_group2 Tryd.results72 rfl rfl R1.out) rfl ⟨rfl, q1⟩
set_option maxHeartbeats 3200000 in
theorem mvIn_0 (a b c : St) (d : UInt8) (Br gR : Nat) (s : ByteArray) (w : World) (hs : s.size ≤ 1048576) (hb : isBd s.data.toList = true) (hd : 0 ≤ dirIx d.toNat) (hx : -100000 ≤ a.x ∧ a.x ≤ 100000) (hy : -100000 ≤ a.y ∧ a.y ≤ 100000) (hR : RowsBox w Br gR s) (hf : floorL s.data.toList (rollT a (dirIx d.toNat)).x (rollT a (dirIx d.toNat)).y = true) (hin : inAny [a, b, c] (rollT a (dirIx d.toNat)).x (rollT a (dirIx d.toNat)).y = true) : Calls Tryd.prog 72 #[gV a b c, .string ⟨#[48, d]⟩, .pointer (some ⟨Br, 0, none⟩)] w fun e w' => e = .returned (.tuple #[gV ⟨0, 0, ⟨0, 0, 0, 0, 0, 0⟩⟩ ⟨0, 0, ⟨0, 0, 0, 0, 0, 0⟩⟩ ⟨0, 0, ⟨0, 0, 0, 0, 0, 0⟩⟩, .bool false]) ∧ Below w.heap.size w w' := by
  have HF := hide hf
  have hin2 := hin
  clear hf
  have q0 : Below w.heap.size w ((w.alloc (.cells #[.int .i64 a.x, .int .i64 a.y, .int .i64 a.d.t, .int .i64 a.d.n, .int .i64 a.d.e, .int .i64 a.d.s, .int .i64 a.d.w, .int .i64 a.d.b, .int .i64 b.x, .int .i64 b.y, .int .i64 b.d.t, .int .i64 b.d.n, .int .i64 b.d.e, .int .i64 b.d.s, .int .i64 b.d.w, .int .i64 b.d.b, .int .i64 c.x, .int .i64 c.y, .int .i64 c.d.t, .int .i64 c.d.n, .int .i64 c.d.e, .int .i64 c.d.s, .int .i64 c.d.w, .int .i64 c.d.b] 70)).alloc (.cells #[.int .i64 0, .int .i64 0, .int .i64 0, .int .i64 0, .int .i64 0, .int .i64 0, .int .i64 0, .int .i64 0, .int .i64 0, .int .i64 0, .int .i64 0, .int .i64 0, .int .i64 0, .int .i64 0, .int .i64 0, .int .i64 0, .int .i64 0, .int .i64 0, .int .i64 0, .int .i64 0, .int .i64 0, .int .i64 0, .int .i64 0, .int .i64 0] 70)) := by go_grown
  have T0 : MvI w ((w.alloc (.cells #[.int .i64 a.x, .int .i64 a.y, .int .i64 a.d.t, .int .i64 a.d.n, .int .i64 a.d.e, .int .i64 a.d.s, .int .i64 a.d.w, .int .i64 a.d.b, .int .i64 b.x, .int .i64 b.y, .int .i64 b.d.t, .int .i64 b.d.n, .int .i64 b.d.e, .int .i64 b.d.s, .int .i64 b.d.w, .int .i64 b.d.b, .int .i64 c.x, .int .i64 c.y, .int .i64 c.d.t, .int .i64 c.d.n, .int .i64 c.d.e, .int .i64 c.d.s, .int .i64 c.d.w, .int .i64 c.d.b] 70)).alloc (.cells #[.int .i64 0, .int .i64 0, .int .i64 0, .int .i64 0, .int .i64 0, .int .i64 0, .int .i64 0, .int .i64 0, .int .i64 0, .int .i64 0, .int .i64 0, .int .i64 0, .int .i64 0, .int .i64 0, .int .i64 0, .int .i64 0, .int .i64 0, .int .i64 0, .int .i64 0, .int .i64 0, .int .i64 0, .int .i64 0, .int .i64 0, .int .i64 0] 70)) Br gR s a b c := ⟨(IsP.new (w := w) (a := a) (b := b) (c := c)).alloc (.cells #[.int .i64 0, .int .i64 0, .int .i64 0, .int .i64 0, .int .i64 0, .int .i64 0, .int .i64 0, .int .i64 0, .int .i64 0, .int .i64 0, .int .i64 0, .int .i64 0, .int .i64 0, .int .i64 0, .int .i64 0, .int .i64 0, .int .i64 0, .int .i64 0, .int .i64 0, .int .i64 0, .int .i64 0, .int .i64 0, .int .i64 0, .int .i64 0] 70), IsP.new2 (w := w) (o := (.cells #[.int .i64 a.x, .int .i64 a.y, .int .i64 a.d.t, .int .i64 a.d.n, .int .i64 a.d.e, .int .i64 a.d.s, .int .i64 a.d.w, .int .i64 a.d.b, .int .i64 b.x, .int .i64 b.y, .int .i64 b.d.t, .int .i64 b.d.n, .int .i64 b.d.e, .int .i64 b.d.s, .int .i64 b.d.w, .int .i64 b.d.b, .int .i64 c.x, .int .i64 c.y, .int .i64 c.d.t, .int .i64 c.d.n, .int .i64 c.d.e, .int .i64 c.d.s, .int .i64 c.d.w, .int .i64 c.d.b] 70)) (a := ⟨0, 0, ⟨0, 0, 0, 0, 0, 0⟩⟩) (b := ⟨0, 0, ⟨0, 0, 0, 0, 0, 0⟩⟩) (c := ⟨0, 0, ⟨0, 0, 0, 0, 0, 0⟩⟩), rowsBox_to (w0 := w) q0 hR rfl, q0⟩
  generalize hW : (w.alloc (.cells #[.int .i64 a.x, .int .i64 a.y, .int .i64 a.d.t, .int .i64 a.d.n, .int .i64 a.d.e, .int .i64 a.d.s, .int .i64 a.d.w, .int .i64 a.d.b, .int .i64 b.x, .int .i64 b.y, .int .i64 b.d.t, .int .i64 b.d.n, .int .i64 b.d.e, .int .i64 b.d.s, .int .i64 b.d.w, .int .i64 b.d.b, .int .i64 c.x, .int .i64 c.y, .int .i64 c.d.t, .int .i64 c.d.n, .int .i64 c.d.e, .int .i64 c.d.s, .int .i64 c.d.w, .int .i64 c.d.b] 70)).alloc (.cells #[.int .i64 0, .int .i64 0, .int .i64 0, .int .i64 0, .int .i64 0, .int .i64 0, .int .i64 0, .int .i64 0, .int .i64 0, .int .i64 0, .int .i64 0, .int .i64 0, .int .i64 0, .int .i64 0, .int .i64 0, .int .i64 0, .int .i64 0, .int .i64 0, .int .i64 0, .int .i64 0, .int .i64 0, .int .i64 0, .int .i64 0, .int .i64 0] 70) = W0 at T0
  have HW := hide hW
  clear hW q0 hR
  obtain ⟨r, hr⟩ : ∃ r, r = rollT a (dirIx d.toNat) := ⟨_, rfl⟩
  have HR := hide hr
  have HX := hide hx
  have HY := hide hy
  have HD := hide hd
  have HCA := hide (fun (wx : World) (x y : Int) (ha : RowsAt wx gR (rowsB s)) => cellAtL_any s gR x y wx hs hb ha)
  have HIX := hide (show ∀ wx : World, Calls Tryd.prog 73 #[.string ⟨#[48, 49, 50]⟩, .int .u8 48] wx fun e w' => e = .returned (.int .i64 0) ∧ wx = w' from fun wx => (indexIn_any ⟨#[48, 49, 50]⟩ 48 wx).mono fun e w' h => ⟨h.1.trans (congrArg (fun x => Ending.returned (.int .i64 x)) (by decide)), h.2⟩)
  clear hr hx hy hd hb hs
  have HT0 := hide T0
  obtain ⟨c0, c1, c2, c3, c4, c5, c6, c7, c8, c9, c10, c11, c12, c13, c14, c15, c16, c17, c18, c19, c20, c21, c22, c23⟩ := T0.1.all
  clear T0 c8 c9 c10 c11 c12 c13 c14 c15 c16 c17 c18 c19 c20 c21 c22 c23
  go_enter Tryd.func72, Tryd.ntmps72
  go_upto_region 1 with (fail)
  rw [HW.out]
  go_upto_region 2 with (go_at_call 73; refine (HIX.out _).mono ?_; rintro e w' ⟨rfl, rfl⟩)
  have em : (⟨#[48, d]⟩ : ByteArray)[1]'(by show 1 < 2; omega) = d := rfl
  have hl0 := HT0.out.1.lt
  have HRA := hide (IsS.new (w := W0) (s := ⟨0, 0, ⟨0, 0, 0, 0, 0, 0⟩⟩) (ty := 57))
  have HTA := hide (show MvI w (W0.alloc (.cells #[.int .i64 0, .int .i64 0, .int .i64 0, .int .i64 0, .int .i64 0, .int .i64 0, .int .i64 0, .int .i64 0] 57)) Br gR s a b c from mvI_to (w0 := W0) ((Below.refl _ _).alloc (Nat.le_refl _) _) HT0.out rfl rfl rfl rfl)
  have HRS := hide (fun wx => rolledState_any d a wx HD.out HX.out HY.out)
  go_cut [8] from 12 to 18 (fun t8 wx => ∃ B8, t8 = .pointer (some ⟨B8, 0, none⟩) ∧ IsS wx B8 r 57 ∧ MvI w wx Br gR s a b c)
  case first =>
    refine wp_region_held_drew (S := (fun w' => w'.cell? ⟨w.heap.size, 0, none⟩ = some (.int .i64 a.x) ∧ w'.cell? ⟨w.heap.size, 1, none⟩ = some (.int .i64 a.y) ∧ w'.cell? ⟨w.heap.size, 2, none⟩ = some (.int .i64 a.d.t) ∧ w'.cell? ⟨w.heap.size, 3, none⟩ = some (.int .i64 a.d.n) ∧ w'.cell? ⟨w.heap.size, 4, none⟩ = some (.int .i64 a.d.e) ∧ w'.cell? ⟨w.heap.size, 5, none⟩ = some (.int .i64 a.d.s) ∧ w'.cell? ⟨w.heap.size, 6, none⟩ = some (.int .i64 a.d.w) ∧ w'.cell? ⟨w.heap.size, 7, none⟩ = some (.int .i64 a.d.b))) (by kernel_rfl) (by refine ⟨?_, ?_, ?_, ?_, ?_, ?_, ?_, ?_⟩ <;> first | with_reducible assumption | assumption) (fun hHeld => ?_)
    refine takeD (i := 0) (v := ?_) 12 rfl rfl (by kernel_rfl) (by kernel_rfl) (by kernel_rfl) (fun _ _ _ h => h) (Or.inl ⟨by rfl, ?_⟩) (by assumption) ?_
    rotate_left 1
    · (intro w hSw; (try dsimp only at hSw); go_simp; (try with_reducible rfl))
    try simp only [Act.put, List.setIfInBounds_toArray, List.set_cons_zero, List.set_cons_succ]
    refine takeD (i := 1) (v := ?_) 13 rfl rfl (by kernel_rfl) (by kernel_rfl) (by kernel_rfl) (fun _ _ _ h => h) (Or.inl ⟨by rfl, ?_⟩) (by assumption) ?_
    rotate_left 1
    · (intro w hSw; (try dsimp only at hSw); go_simp; (try with_reducible rfl))
    try simp only [Act.put, List.setIfInBounds_toArray, List.set_cons_zero, List.set_cons_succ]
    refine takeD (i := 2) (v := ?_) 14 rfl rfl (by kernel_rfl) (by kernel_rfl) (by kernel_rfl) (fun _ _ _ h => h) (Or.inl ⟨by rfl, ?_⟩) (by assumption) ?_
    rotate_left 1
    · (intro w hSw; (try dsimp only at hSw); go_simp; (try with_reducible rfl))
    try simp only [Act.put, List.setIfInBounds_toArray, List.set_cons_zero, List.set_cons_succ]
    refine takeD (i := 3) (v := ?_) 15 rfl rfl (by kernel_rfl) (by kernel_rfl) (by kernel_rfl) (fun _ _ _ h => h) (Or.inl ⟨by rfl, ?_⟩) (by assumption) ?_
    rotate_left 1
    · (intro w hSw; (try dsimp only at hSw); go_simp; (try with_reducible rfl))
    try simp only [Act.put, List.setIfInBounds_toArray, List.set_cons_zero, List.set_cons_succ]
    refine takeD (i := 4) (v := ?_) 16 rfl rfl (by kernel_rfl) (by kernel_rfl) (by kernel_rfl) (fun _ _ _ h => h) (Or.inl ⟨by rfl, ?_⟩) (by assumption) ?_
    rotate_left 1
    · (intro w hSw; (try dsimp only at hSw); go_simp; (try with_reducible rfl))
    try simp only [Act.put, List.setIfInBounds_toArray, List.set_cons_zero, List.set_cons_succ]
    refine wpAnyH_ready (rs := [5, 6]) (by kernel_rfl) (by simp) ?_
    refine AllReadyH.cons (o := _) rfl (fun K hK => ?_) (AllReadyH.cons (o := _) rfl (fun K hK => ?_) AllReadyH.nil)
    · go_simp
      go_at_call 74
      (with_reducible refine (HRS.out _).mono ?_)
      rintro e w2 ⟨rfl, hb2⟩
      rw [← HR.out]
      have T2 := mvI_to hb2 HT0.out rfl rfl rfl rfl
      obtain ⟨x0, x1, x2, x3, x4, x5, x6, x7, -, -, -, -, -, -, -, -, -, -, -, -, -, -, -, -⟩ := T2.1.all
      have hl2 := T2.1.lt
      dsimp only
      refine hK.out _ _ (by refine ⟨?_, ?_, ?_, ?_, ?_, ?_, ?_, ?_⟩ <;> first | with_reducible assumption | assumption) (fun hHeld1 => ?_)
      clear hK
      try simp only [Act.put, List.setIfInBounds_toArray, List.set_cons_zero, List.set_cons_succ]
      refine wpAnyH_ready (rs := [6]) (by kernel_rfl) (by simp) ?_
      refine AllReadyH.cons (o := _) rfl (fun K hK => ?_) AllReadyH.nil
      go_simp
      have TA := mvI_to (w0 := w2) ((Below.refl _ _).alloc (Nat.le_refl _) (.cells #[.int .i64 0, .int .i64 0, .int .i64 0, .int .i64 0, .int .i64 0, .int .i64 0, .int .i64 0, .int .i64 0] 57)) T2 rfl rfl rfl rfl
      obtain ⟨y0, y1, y2, y3, y4, y5, y6, y7, -, -, -, -, -, -, -, -, -, -, -, -, -, -, -, -⟩ := TA.1.all
      refine hK.out _ _ (by refine ⟨?_, ?_, ?_, ?_, ?_, ?_, ?_, ?_⟩ <;> first | with_reducible assumption | assumption) (fun hHeld2 => ?_)
      clear hK
      try simp only [Act.put, List.setIfInBounds_toArray, List.set_cons_zero, List.set_cons_succ]
      refine wpAnyH_ready (rs := [7]) (by kernel_rfl) (by simp) ?_
      refine AllReadyH.cons (o := _) rfl (fun K hK => ?_) AllReadyH.nil
      go_simp
      have SF := IsS.new (w := w2) (s := r) (ty := 57)
      have TF := mvI_to (w0 := w2) ((Below.refl _ _).alloc (Nat.le_refl _) (.cells #[.int .i64 r.x, .int .i64 r.y, .int .i64 r.d.t, .int .i64 r.d.n, .int .i64 r.d.e, .int .i64 r.d.s, .int .i64 r.d.w, .int .i64 r.d.b] 57)) T2 rfl rfl rfl rfl
      obtain ⟨z0, z1, z2, z3, z4, z5, z6, z7, -, -, -, -, -, -, -, -, -, -, -, -, -, -, -, -⟩ := TF.1.all
      refine hK.out _ _ (by refine ⟨?_, ?_, ?_, ?_, ?_, ?_, ?_, ?_⟩ <;> first | with_reducible assumption | assumption) (fun hHeld3 => ?_)
      clear hK
      try simp only [Act.put, List.setIfInBounds_toArray, List.set_cons_zero, List.set_cons_succ]
      refine wpAnyH_done (by kernel_rfl) ?_ _
      go_wp2_with fail
      go_meet
      exact ⟨_, rfl, SF, TF⟩
    · go_simp
      obtain ⟨y0, y1, y2, y3, y4, y5, y6, y7, -, -, -, -, -, -, -, -, -, -, -, -, -, -, -, -⟩ := HTA.out.1.all
      refine hK.out _ _ (by refine ⟨?_, ?_, ?_, ?_, ?_, ?_, ?_, ?_⟩ <;> first | with_reducible assumption | assumption) (fun hHeld1 => ?_)
      clear hK
      try simp only [Act.put, List.setIfInBounds_toArray, List.set_cons_zero, List.set_cons_succ]
      refine wpAnyH_ready (rs := [5]) (by kernel_rfl) (by simp) ?_
      refine AllReadyH.cons (o := _) rfl (fun K hK => ?_) AllReadyH.nil
      go_simp
      go_at_call 74
      (with_reducible refine (HRS.out _).mono ?_)
      rintro e w2 ⟨rfl, hb2⟩
      rw [← HR.out]
      have T2 := mvI_to hb2 HTA.out rfl rfl rfl rfl
      have R2 := isS_to hb2 HRA.out rfl
      have hb02 : Below W0.heap.size W0 w2 := below_to hb2 ((Below.refl W0.heap.size W0).alloc (Nat.le_refl _) (.cells #[.int .i64 0, .int .i64 0, .int .i64 0, .int .i64 0, .int .i64 0, .int .i64 0, .int .i64 0, .int .i64 0] 57)) (by simp) rfl rfl rfl rfl
      clear hb2
      obtain ⟨x0, x1, x2, x3, x4, x5, x6, x7, -, -, -, -, -, -, -, -, -, -, -, -, -, -, -, -⟩ := T2.1.all
      dsimp only
      refine hK.out _ _ (by refine ⟨?_, ?_, ?_, ?_, ?_, ?_, ?_, ?_⟩ <;> first | with_reducible assumption | assumption) (fun hHeld2 => ?_)
      clear hK
      try simp only [Act.put, List.setIfInBounds_toArray, List.set_cons_zero, List.set_cons_succ]
      obtain ⟨lr, ⟨r0, r1, r2, r3, r4, r5, r6, r7⟩, e0, e1, e2, e3, e4, e5, e6, e7⟩ := R2.all
      refine wpAnyH_ready (rs := [7]) (by kernel_rfl) (by simp) ?_
      refine AllReadyH.cons (o := _) rfl (fun K hK => ?_) AllReadyH.nil
      go_simp
      have SF := R2.set8 r
      have TF := mvI_to (w0 := W0) (below_set8 hb02 (Nat.le_refl _) r) HT0.out rfl rfl rfl rfl
      clear r0 r1 r2 r3 r4 r5 r6 r7
      obtain ⟨z0, z1, z2, z3, z4, z5, z6, z7, -, -, -, -, -, -, -, -, -, -, -, -, -, -, -, -⟩ := TF.1.all
      refine hK.out _ _ (by refine ⟨?_, ?_, ?_, ?_, ?_, ?_, ?_, ?_⟩ <;> first | with_reducible assumption | assumption) (fun hHeld3 => ?_)
      clear hK
      try simp only [Act.put, List.setIfInBounds_toArray, List.set_cons_zero, List.set_cons_succ]
      refine wpAnyH_done (by kernel_rfl) ?_ _
      go_wp2_with fail
      go_meet
      exact ⟨_, rfl, SF, TF⟩
  obtain ⟨B8, rfl, SF, TF⟩ := hcut
  have hlB : B8 < wc.heap.size := SF.lt
  have HSF := hide SF
  have HTF := hide TF
  have hbx := TF.2.2.1.2.1
  obtain ⟨_, ⟨s0, s1, s2, s3, s4, s5, s6, s7⟩, -⟩ := SF.all
  have HRB := hide (show RowsAt wc.drew gR (rowsB s) from TF.2.2.1.2.2)
  obtain ⟨cc, hcc⟩ : ∃ cc, cc = cellI (splitP s.data.toList) r.x r.y := ⟨_, rfl⟩
  have HCC := hide hcc
  have hq0 : decide ((cc.toNat : Int) = 46) = true := by
    have := HF.out
    unfold floorL at this
    rw [← HR.out, ← hcc] at this
    exact this
  have hq1 := eq46' hq0
  have hq2 : (((cc.toNat : Nat) : Int) != 46) = false := by rw [bne, hq1]; rfl
  clear hcc hq0 SF TF
  have HIN := hide (show inAny [a, b, c] r.x r.y = true from by rw [HR.out]; exact hin2)
  clear hin hin2
  go_upto_region 3 with (fail)
  refine wp_region_held_drew (S := (fun w' => w'.cell? ⟨Br, 0, none⟩ = some (.slice (some ⟨gR, 0, none⟩) (rowsB s).length (rowsB s).length) ∧ w'.cell? ⟨B8, 0, none⟩ = some (.int .i64 r.x) ∧ w'.cell? ⟨B8, 1, none⟩ = some (.int .i64 r.y) ∧ w'.cell? ⟨B8, 2, none⟩ = some (.int .i64 r.d.t) ∧ w'.cell? ⟨B8, 3, none⟩ = some (.int .i64 r.d.n) ∧ w'.cell? ⟨B8, 4, none⟩ = some (.int .i64 r.d.e) ∧ w'.cell? ⟨B8, 5, none⟩ = some (.int .i64 r.d.s) ∧ w'.cell? ⟨B8, 6, none⟩ = some (.int .i64 r.d.w) ∧ w'.cell? ⟨B8, 7, none⟩ = some (.int .i64 r.d.b))) (by kernel_rfl) (by refine ⟨?_, ?_, ?_, ?_, ?_, ?_, ?_, ?_, ?_⟩ <;> assumption) (fun hHeld => ?_)
  refine takeD (i := 0) (v := ?_) 18 rfl rfl (by kernel_rfl) (by kernel_rfl) (by kernel_rfl) (fun _ _ _ h => h) (Or.inl ⟨by rfl, ?_⟩) (by assumption) ?_
  rotate_left 1
  · (intro w hSw; (try dsimp only at hSw); go_simp; (try with_reducible rfl))
  try simp only [Act.put, List.setIfInBounds_toArray, List.set_cons_zero, List.set_cons_succ]
  refine takeD (i := 1) (v := ?_) 19 rfl rfl (by kernel_rfl) (by kernel_rfl) (by kernel_rfl) (fun _ _ _ h => h) (Or.inl ⟨by rfl, ?_⟩) (by assumption) ?_
  rotate_left 1
  · (intro w hSw; (try dsimp only at hSw); go_simp; (try with_reducible rfl))
  try simp only [Act.put, List.setIfInBounds_toArray, List.set_cons_zero, List.set_cons_succ]
  refine takeD (i := 2) (v := ?_) 20 rfl rfl (by kernel_rfl) (by kernel_rfl) (by kernel_rfl) (fun _ _ _ h => h) (Or.inl ⟨by rfl, ?_⟩) (by assumption) ?_
  rotate_left 1
  · (intro w hSw; (try dsimp only at hSw); go_simp; (try with_reducible rfl))
  try simp only [Act.put, List.setIfInBounds_toArray, List.set_cons_zero, List.set_cons_succ]
  refine takeD (i := 3) (v := ?_) 21 rfl rfl (by kernel_rfl) (by kernel_rfl) (by kernel_rfl) (fun _ _ _ h => h) (Or.inl ⟨by rfl, ?_⟩) (by assumption) ?_
  rotate_left 1
  · (intro w hSw; (try dsimp only at hSw); go_simp; (try with_reducible rfl))
  try simp only [Act.put, List.setIfInBounds_toArray, List.set_cons_zero, List.set_cons_succ]
  refine takeD (i := 4) (v := ?_) 22 rfl rfl (by kernel_rfl) (by kernel_rfl) (by kernel_rfl) (fun _ _ _ h => h) (Or.inl ⟨by rfl, ?_⟩) (by assumption) ?_
  rotate_left 1
  · (intro w hSw; (try dsimp only at hSw); go_simp; (try with_reducible rfl))
  try simp only [Act.put, List.setIfInBounds_toArray, List.set_cons_zero, List.set_cons_succ]
  refine wpAnyH_ready (rs := [5]) (by kernel_rfl) (by simp) ?_
  refine AllReadyH.cons (o := _) rfl (fun K hK => ?_) AllReadyH.nil
  go_simp
  go_at_call 75
  (with_reducible refine (HCA.out _ r.x r.y HRB.out).mono ?_)
  rintro e w3 ⟨rfl, rfl⟩
  rw [← HCC.out]
  dsimp only
  refine hK.out _ _ (by refine ⟨?_, ?_, ?_, ?_, ?_, ?_, ?_, ?_, ?_⟩ <;> assumption) (fun hHeld_1 => ?_)
  clear hK
  try simp only [Act.put, List.setIfInBounds_toArray, List.set_cons_zero, List.set_cons_succ]
  refine takeD (i := 6) (v := ?_) 24 rfl rfl (by kernel_rfl) (by kernel_rfl) (by kernel_rfl) (fun _ _ _ h => h) (Or.inl ⟨by rfl, ?_⟩) (by assumption) ?_
  rotate_left 1
  · (intro w hSw; (try dsimp only at hSw); go_simp; (try with_reducible rfl))
  try simp only [Act.put, List.setIfInBounds_toArray, List.set_cons_zero, List.set_cons_succ]
  refine takeD (i := 7) (v := ?_) 25 rfl rfl (by kernel_rfl) (by kernel_rfl) (by kernel_rfl) (fun _ _ _ h => h) (Or.inl ⟨by rfl, ?_⟩) (by assumption) ?_
  rotate_left 1
  · (intro w hSw; (try dsimp only at hSw); go_simp; (try with_reducible rfl))
  try simp only [Act.put, List.setIfInBounds_toArray, List.set_cons_zero, List.set_cons_succ]
  refine takeD (i := 8) (v := ?_) 26 rfl rfl (by kernel_rfl) (by kernel_rfl) (by kernel_rfl) (fun _ _ _ h => h) (Or.inl ⟨by rfl, ?_⟩) (by assumption) ?_
  rotate_left 1
  · (intro w hSw; (try dsimp only at hSw); go_simp; (try with_reducible rfl))
  try simp only [Act.put, List.setIfInBounds_toArray, List.set_cons_zero, List.set_cons_succ]
  refine takeD (i := 9) (v := ?_) 27 rfl rfl (by kernel_rfl) (by kernel_rfl) (by kernel_rfl) (fun _ _ _ h => h) (Or.inl ⟨by rfl, ?_⟩) (by assumption) ?_
  rotate_left 1
  · (intro w hSw; (try dsimp only at hSw); go_simp; (try with_reducible rfl))
  try simp only [Act.put, List.setIfInBounds_toArray, List.set_cons_zero, List.set_cons_succ]
  refine wpAnyH_ready (rs := [10]) (by kernel_rfl) (by simp) ?_
  refine AllReadyH.cons (o := _) rfl (fun K hK => ?_) AllReadyH.nil
  go_simp
  go_at_call 65
  (with_reducible refine (inCellOf_any r _).mono ?_)
  rintro e w4 ⟨B2, rfl, hC4, hb4⟩
  have HC4 := hide hC4
  have HT4 := hide (mvI_to hb4 HTF.out rfl rfl rfl rfl)
  have HS4 := hide (isS_to hb4 HSF.out rfl)
  have HD4 := hide (stAt_p HT4.out.1)
  have hbx4 := HT4.out.2.2.1.2.1
  clear hb4 hC4
  obtain ⟨_, ⟨y0, y1, y2, y3, y4, y5, y6, y7⟩, -⟩ := HS4.out.all
  dsimp only
  refine hK.out _ _ (by refine ⟨?_, ?_, ?_, ?_, ?_, ?_, ?_, ?_, ?_⟩ <;> assumption) (fun hHeld_2 => ?_)
  clear hK
  try simp only [Act.put, List.setIfInBounds_toArray, List.set_cons_zero, List.set_cons_succ]
  refine wpAnyH_ready (rs := [11]) (by kernel_rfl) (by simp) ?_
  refine AllReadyH.cons (o := _) rfl (fun K hK => ?_) AllReadyH.nil
  go_simp
  go_at_call 64
  (with_reducible refine (hasIn_any [a, b, c] 3 w.heap.size 3 B2 r _ rfl (by omega) HD4.out HC4.out).mono ?_)
  rintro e w5 ⟨rfl, hb5⟩
  rw [HIN.out]
  have HT5 := hide (mvI_to hb5 HT4.out rfl rfl rfl rfl)
  have HS5 := hide (isS_to hb5 HS4.out rfl)
  have hbx5 := HT5.out.2.2.1.2.1
  clear hb5
  obtain ⟨_, ⟨t0, t1, t2, t3, t4, t5, t6, t7⟩, -⟩ := HS5.out.all
  dsimp only
  refine hK.out _ _ (by refine ⟨?_, ?_, ?_, ?_, ?_, ?_, ?_, ?_, ?_⟩ <;> assumption) (fun hHeld_3 => ?_)
  clear hK
  try simp only [Act.put, List.setIfInBounds_toArray, List.set_cons_zero, List.set_cons_succ]
  refine takeD (i := 12) (v := ?_) 30 rfl rfl (by kernel_rfl) (by kernel_rfl) (by kernel_rfl) (fun _ _ _ h => h) (Or.inl ⟨by rfl, ?_⟩) (by assumption) ?_
  rotate_left 1
  · (intro w hSw; (try dsimp only at hSw); go_simp; (try with_reducible rfl))
  try simp only [Act.put, List.setIfInBounds_toArray, List.set_cons_zero, List.set_cons_succ]
  refine wpAnyH_done (by kernel_rfl) ?_ _

  have HZ := hide HT5.out.2.1
  have R1 := hide (show IsP (w5.setRow (w.heap.size + 1) #[.int .i64 0, .int .i64 0, .int .i64 0, .int .i64 0, .int .i64 0, .int .i64 0, .int .i64 0, .int .i64 0, .int .i64 0, .int .i64 0, .int .i64 0, .int .i64 0, .int .i64 0, .int .i64 0, .int .i64 0, .int .i64 0, .int .i64 0, .int .i64 0, .int .i64 0, .int .i64 0, .int .i64 0, .int .i64 0, .int .i64 0, .int .i64 0]) (w.heap.size + 1) ⟨0, 0, ⟨0, 0, 0, 0, 0, 0⟩⟩ ⟨0, 0, ⟨0, 0, 0, 0, 0, 0⟩⟩ ⟨0, 0, ⟨0, 0, 0, 0, 0, 0⟩⟩ from setRow_heap w5 _ _ _ _ _ HT5.out.2.1)
  have q1 := below_setRow HT5.out.2.2.2 (show w.heap.size ≤ w.heap.size + 1 by omega) #[.int .i64 0, .int .i64 0, .int .i64 0, .int .i64 0, .int .i64 0, .int .i64 0, .int .i64 0, .int .i64 0, .int .i64 0, .int .i64 0, .int .i64 0, .int .i64 0, .int .i64 0, .int .i64 0, .int .i64 0, .int .i64 0, .int .i64 0, .int .i64 0, .int .i64 0, .int .i64 0, .int .i64 0, .int .i64 0, .int .i64 0, .int .i64 0]
  go_wp2_with (refine wpList_store_row rfl 70 (.tmp 5) (.tmp 31) rfl (w.heap.size + 1) #[.int .i64 0, .int .i64 0, .int .i64 0, .int .i64 0, .int .i64 0, .int .i64 0, .int .i64 0, .int .i64 0, .int .i64 0, .int .i64 0, .int .i64 0, .int .i64 0, .int .i64 0, .int .i64 0, .int .i64 0, .int .i64 0, .int .i64 0, .int .i64 0, .int .i64 0, .int .i64 0, .int .i64 0, .int .i64 0, .int .i64 0, .int .i64 0] rfl rfl _ _ HZ.out (by kernel_rfl) (by kernel_rfl) (by kernel_rfl) ?_)
  exact bodyPost_ret (ret_group2 Tryd.results72 rfl rfl R1.out) rfl ⟨rfl, q1⟩
set_option maxHeartbeats 3200000 in
theorem mvOk_0 (a b c : St) (d : UInt8) (Br gR : Nat) (s : ByteArray) (w : World) (hs : s.size ≤ 1048576) (hb : isBd s.data.toList = true) (hd : 0 ≤ dirIx d.toNat) (hx : -100000 ≤ a.x ∧ a.x ≤ 100000) (hy : -100000 ≤ a.y ∧ a.y ≤ 100000) (hR : RowsBox w Br gR s) (hf : floorL s.data.toList (rollT a (dirIx d.toNat)).x (rollT a (dirIx d.toNat)).y = true) (hin : inAny [a, b, c] (rollT a (dirIx d.toNat)).x (rollT a (dirIx d.toNat)).y = false) : Calls Tryd.prog 72 #[gV a b c, .string ⟨#[48, d]⟩, .pointer (some ⟨Br, 0, none⟩)] w fun e w' => e = .returned (.tuple #[gV (rollT a (dirIx d.toNat)) b c, .bool true]) ∧ Below w.heap.size w w' := by
  have HF := hide hf
  have hin2 := hin
  clear hf
  have q0 : Below w.heap.size w ((w.alloc (.cells #[.int .i64 a.x, .int .i64 a.y, .int .i64 a.d.t, .int .i64 a.d.n, .int .i64 a.d.e, .int .i64 a.d.s, .int .i64 a.d.w, .int .i64 a.d.b, .int .i64 b.x, .int .i64 b.y, .int .i64 b.d.t, .int .i64 b.d.n, .int .i64 b.d.e, .int .i64 b.d.s, .int .i64 b.d.w, .int .i64 b.d.b, .int .i64 c.x, .int .i64 c.y, .int .i64 c.d.t, .int .i64 c.d.n, .int .i64 c.d.e, .int .i64 c.d.s, .int .i64 c.d.w, .int .i64 c.d.b] 70)).alloc (.cells #[.int .i64 0, .int .i64 0, .int .i64 0, .int .i64 0, .int .i64 0, .int .i64 0, .int .i64 0, .int .i64 0, .int .i64 0, .int .i64 0, .int .i64 0, .int .i64 0, .int .i64 0, .int .i64 0, .int .i64 0, .int .i64 0, .int .i64 0, .int .i64 0, .int .i64 0, .int .i64 0, .int .i64 0, .int .i64 0, .int .i64 0, .int .i64 0] 70)) := by go_grown
  have T0 : MvI w ((w.alloc (.cells #[.int .i64 a.x, .int .i64 a.y, .int .i64 a.d.t, .int .i64 a.d.n, .int .i64 a.d.e, .int .i64 a.d.s, .int .i64 a.d.w, .int .i64 a.d.b, .int .i64 b.x, .int .i64 b.y, .int .i64 b.d.t, .int .i64 b.d.n, .int .i64 b.d.e, .int .i64 b.d.s, .int .i64 b.d.w, .int .i64 b.d.b, .int .i64 c.x, .int .i64 c.y, .int .i64 c.d.t, .int .i64 c.d.n, .int .i64 c.d.e, .int .i64 c.d.s, .int .i64 c.d.w, .int .i64 c.d.b] 70)).alloc (.cells #[.int .i64 0, .int .i64 0, .int .i64 0, .int .i64 0, .int .i64 0, .int .i64 0, .int .i64 0, .int .i64 0, .int .i64 0, .int .i64 0, .int .i64 0, .int .i64 0, .int .i64 0, .int .i64 0, .int .i64 0, .int .i64 0, .int .i64 0, .int .i64 0, .int .i64 0, .int .i64 0, .int .i64 0, .int .i64 0, .int .i64 0, .int .i64 0] 70)) Br gR s a b c := ⟨(IsP.new (w := w) (a := a) (b := b) (c := c)).alloc (.cells #[.int .i64 0, .int .i64 0, .int .i64 0, .int .i64 0, .int .i64 0, .int .i64 0, .int .i64 0, .int .i64 0, .int .i64 0, .int .i64 0, .int .i64 0, .int .i64 0, .int .i64 0, .int .i64 0, .int .i64 0, .int .i64 0, .int .i64 0, .int .i64 0, .int .i64 0, .int .i64 0, .int .i64 0, .int .i64 0, .int .i64 0, .int .i64 0] 70), IsP.new2 (w := w) (o := (.cells #[.int .i64 a.x, .int .i64 a.y, .int .i64 a.d.t, .int .i64 a.d.n, .int .i64 a.d.e, .int .i64 a.d.s, .int .i64 a.d.w, .int .i64 a.d.b, .int .i64 b.x, .int .i64 b.y, .int .i64 b.d.t, .int .i64 b.d.n, .int .i64 b.d.e, .int .i64 b.d.s, .int .i64 b.d.w, .int .i64 b.d.b, .int .i64 c.x, .int .i64 c.y, .int .i64 c.d.t, .int .i64 c.d.n, .int .i64 c.d.e, .int .i64 c.d.s, .int .i64 c.d.w, .int .i64 c.d.b] 70)) (a := ⟨0, 0, ⟨0, 0, 0, 0, 0, 0⟩⟩) (b := ⟨0, 0, ⟨0, 0, 0, 0, 0, 0⟩⟩) (c := ⟨0, 0, ⟨0, 0, 0, 0, 0, 0⟩⟩), rowsBox_to (w0 := w) q0 hR rfl, q0⟩
  generalize hW : (w.alloc (.cells #[.int .i64 a.x, .int .i64 a.y, .int .i64 a.d.t, .int .i64 a.d.n, .int .i64 a.d.e, .int .i64 a.d.s, .int .i64 a.d.w, .int .i64 a.d.b, .int .i64 b.x, .int .i64 b.y, .int .i64 b.d.t, .int .i64 b.d.n, .int .i64 b.d.e, .int .i64 b.d.s, .int .i64 b.d.w, .int .i64 b.d.b, .int .i64 c.x, .int .i64 c.y, .int .i64 c.d.t, .int .i64 c.d.n, .int .i64 c.d.e, .int .i64 c.d.s, .int .i64 c.d.w, .int .i64 c.d.b] 70)).alloc (.cells #[.int .i64 0, .int .i64 0, .int .i64 0, .int .i64 0, .int .i64 0, .int .i64 0, .int .i64 0, .int .i64 0, .int .i64 0, .int .i64 0, .int .i64 0, .int .i64 0, .int .i64 0, .int .i64 0, .int .i64 0, .int .i64 0, .int .i64 0, .int .i64 0, .int .i64 0, .int .i64 0, .int .i64 0, .int .i64 0, .int .i64 0, .int .i64 0] 70) = W0 at T0
  have HW := hide hW
  clear hW q0 hR
  obtain ⟨r, hr⟩ : ∃ r, r = rollT a (dirIx d.toNat) := ⟨_, rfl⟩
  have HR := hide hr
  have HX := hide hx
  have HY := hide hy
  have HD := hide hd
  have HCA := hide (fun (wx : World) (x y : Int) (ha : RowsAt wx gR (rowsB s)) => cellAtL_any s gR x y wx hs hb ha)
  have HIX := hide (show ∀ wx : World, Calls Tryd.prog 73 #[.string ⟨#[48, 49, 50]⟩, .int .u8 48] wx fun e w' => e = .returned (.int .i64 0) ∧ wx = w' from fun wx => (indexIn_any ⟨#[48, 49, 50]⟩ 48 wx).mono fun e w' h => ⟨h.1.trans (congrArg (fun x => Ending.returned (.int .i64 x)) (by decide)), h.2⟩)
  clear hr hx hy hd hb hs
  have HT0 := hide T0
  obtain ⟨c0, c1, c2, c3, c4, c5, c6, c7, c8, c9, c10, c11, c12, c13, c14, c15, c16, c17, c18, c19, c20, c21, c22, c23⟩ := T0.1.all
  clear T0 c8 c9 c10 c11 c12 c13 c14 c15 c16 c17 c18 c19 c20 c21 c22 c23
  go_enter Tryd.func72, Tryd.ntmps72
  go_upto_region 1 with (fail)
  rw [HW.out]
  go_upto_region 2 with (go_at_call 73; refine (HIX.out _).mono ?_; rintro e w' ⟨rfl, rfl⟩)
  have em : (⟨#[48, d]⟩ : ByteArray)[1]'(by show 1 < 2; omega) = d := rfl
  have hl0 := HT0.out.1.lt
  have HRA := hide (IsS.new (w := W0) (s := ⟨0, 0, ⟨0, 0, 0, 0, 0, 0⟩⟩) (ty := 57))
  have HTA := hide (show MvI w (W0.alloc (.cells #[.int .i64 0, .int .i64 0, .int .i64 0, .int .i64 0, .int .i64 0, .int .i64 0, .int .i64 0, .int .i64 0] 57)) Br gR s a b c from mvI_to (w0 := W0) ((Below.refl _ _).alloc (Nat.le_refl _) _) HT0.out rfl rfl rfl rfl)
  have HRS := hide (fun wx => rolledState_any d a wx HD.out HX.out HY.out)
  go_cut [8] from 12 to 18 (fun t8 wx => ∃ B8, t8 = .pointer (some ⟨B8, 0, none⟩) ∧ IsS wx B8 r 57 ∧ MvI w wx Br gR s a b c)
  case first =>
    refine wp_region_held_drew (S := (fun w' => w'.cell? ⟨w.heap.size, 0, none⟩ = some (.int .i64 a.x) ∧ w'.cell? ⟨w.heap.size, 1, none⟩ = some (.int .i64 a.y) ∧ w'.cell? ⟨w.heap.size, 2, none⟩ = some (.int .i64 a.d.t) ∧ w'.cell? ⟨w.heap.size, 3, none⟩ = some (.int .i64 a.d.n) ∧ w'.cell? ⟨w.heap.size, 4, none⟩ = some (.int .i64 a.d.e) ∧ w'.cell? ⟨w.heap.size, 5, none⟩ = some (.int .i64 a.d.s) ∧ w'.cell? ⟨w.heap.size, 6, none⟩ = some (.int .i64 a.d.w) ∧ w'.cell? ⟨w.heap.size, 7, none⟩ = some (.int .i64 a.d.b))) (by kernel_rfl) (by refine ⟨?_, ?_, ?_, ?_, ?_, ?_, ?_, ?_⟩ <;> first | with_reducible assumption | assumption) (fun hHeld => ?_)
    refine takeD (i := 0) (v := ?_) 12 rfl rfl (by kernel_rfl) (by kernel_rfl) (by kernel_rfl) (fun _ _ _ h => h) (Or.inl ⟨by rfl, ?_⟩) (by assumption) ?_
    rotate_left 1
    · (intro w hSw; (try dsimp only at hSw); go_simp; (try with_reducible rfl))
    try simp only [Act.put, List.setIfInBounds_toArray, List.set_cons_zero, List.set_cons_succ]
    refine takeD (i := 1) (v := ?_) 13 rfl rfl (by kernel_rfl) (by kernel_rfl) (by kernel_rfl) (fun _ _ _ h => h) (Or.inl ⟨by rfl, ?_⟩) (by assumption) ?_
    rotate_left 1
    · (intro w hSw; (try dsimp only at hSw); go_simp; (try with_reducible rfl))
    try simp only [Act.put, List.setIfInBounds_toArray, List.set_cons_zero, List.set_cons_succ]
    refine takeD (i := 2) (v := ?_) 14 rfl rfl (by kernel_rfl) (by kernel_rfl) (by kernel_rfl) (fun _ _ _ h => h) (Or.inl ⟨by rfl, ?_⟩) (by assumption) ?_
    rotate_left 1
    · (intro w hSw; (try dsimp only at hSw); go_simp; (try with_reducible rfl))
    try simp only [Act.put, List.setIfInBounds_toArray, List.set_cons_zero, List.set_cons_succ]
    refine takeD (i := 3) (v := ?_) 15 rfl rfl (by kernel_rfl) (by kernel_rfl) (by kernel_rfl) (fun _ _ _ h => h) (Or.inl ⟨by rfl, ?_⟩) (by assumption) ?_
    rotate_left 1
    · (intro w hSw; (try dsimp only at hSw); go_simp; (try with_reducible rfl))
    try simp only [Act.put, List.setIfInBounds_toArray, List.set_cons_zero, List.set_cons_succ]
    refine takeD (i := 4) (v := ?_) 16 rfl rfl (by kernel_rfl) (by kernel_rfl) (by kernel_rfl) (fun _ _ _ h => h) (Or.inl ⟨by rfl, ?_⟩) (by assumption) ?_
    rotate_left 1
    · (intro w hSw; (try dsimp only at hSw); go_simp; (try with_reducible rfl))
    try simp only [Act.put, List.setIfInBounds_toArray, List.set_cons_zero, List.set_cons_succ]
    refine wpAnyH_ready (rs := [5, 6]) (by kernel_rfl) (by simp) ?_
    refine AllReadyH.cons (o := _) rfl (fun K hK => ?_) (AllReadyH.cons (o := _) rfl (fun K hK => ?_) AllReadyH.nil)
    · go_simp
      go_at_call 74
      (with_reducible refine (HRS.out _).mono ?_)
      rintro e w2 ⟨rfl, hb2⟩
      rw [← HR.out]
      have T2 := mvI_to hb2 HT0.out rfl rfl rfl rfl
      obtain ⟨x0, x1, x2, x3, x4, x5, x6, x7, -, -, -, -, -, -, -, -, -, -, -, -, -, -, -, -⟩ := T2.1.all
      have hl2 := T2.1.lt
      dsimp only
      refine hK.out _ _ (by refine ⟨?_, ?_, ?_, ?_, ?_, ?_, ?_, ?_⟩ <;> first | with_reducible assumption | assumption) (fun hHeld1 => ?_)
      clear hK
      try simp only [Act.put, List.setIfInBounds_toArray, List.set_cons_zero, List.set_cons_succ]
      refine wpAnyH_ready (rs := [6]) (by kernel_rfl) (by simp) ?_
      refine AllReadyH.cons (o := _) rfl (fun K hK => ?_) AllReadyH.nil
      go_simp
      have TA := mvI_to (w0 := w2) ((Below.refl _ _).alloc (Nat.le_refl _) (.cells #[.int .i64 0, .int .i64 0, .int .i64 0, .int .i64 0, .int .i64 0, .int .i64 0, .int .i64 0, .int .i64 0] 57)) T2 rfl rfl rfl rfl
      obtain ⟨y0, y1, y2, y3, y4, y5, y6, y7, -, -, -, -, -, -, -, -, -, -, -, -, -, -, -, -⟩ := TA.1.all
      refine hK.out _ _ (by refine ⟨?_, ?_, ?_, ?_, ?_, ?_, ?_, ?_⟩ <;> first | with_reducible assumption | assumption) (fun hHeld2 => ?_)
      clear hK
      try simp only [Act.put, List.setIfInBounds_toArray, List.set_cons_zero, List.set_cons_succ]
      refine wpAnyH_ready (rs := [7]) (by kernel_rfl) (by simp) ?_
      refine AllReadyH.cons (o := _) rfl (fun K hK => ?_) AllReadyH.nil
      go_simp
      have SF := IsS.new (w := w2) (s := r) (ty := 57)
      have TF := mvI_to (w0 := w2) ((Below.refl _ _).alloc (Nat.le_refl _) (.cells #[.int .i64 r.x, .int .i64 r.y, .int .i64 r.d.t, .int .i64 r.d.n, .int .i64 r.d.e, .int .i64 r.d.s, .int .i64 r.d.w, .int .i64 r.d.b] 57)) T2 rfl rfl rfl rfl
      obtain ⟨z0, z1, z2, z3, z4, z5, z6, z7, -, -, -, -, -, -, -, -, -, -, -, -, -, -, -, -⟩ := TF.1.all
      refine hK.out _ _ (by refine ⟨?_, ?_, ?_, ?_, ?_, ?_, ?_, ?_⟩ <;> first | with_reducible assumption | assumption) (fun hHeld3 => ?_)
      clear hK
      try simp only [Act.put, List.setIfInBounds_toArray, List.set_cons_zero, List.set_cons_succ]
      refine wpAnyH_done (by kernel_rfl) ?_ _
      go_wp2_with fail
      go_meet
      exact ⟨_, rfl, SF, TF⟩
    · go_simp
      obtain ⟨y0, y1, y2, y3, y4, y5, y6, y7, -, -, -, -, -, -, -, -, -, -, -, -, -, -, -, -⟩ := HTA.out.1.all
      refine hK.out _ _ (by refine ⟨?_, ?_, ?_, ?_, ?_, ?_, ?_, ?_⟩ <;> first | with_reducible assumption | assumption) (fun hHeld1 => ?_)
      clear hK
      try simp only [Act.put, List.setIfInBounds_toArray, List.set_cons_zero, List.set_cons_succ]
      refine wpAnyH_ready (rs := [5]) (by kernel_rfl) (by simp) ?_
      refine AllReadyH.cons (o := _) rfl (fun K hK => ?_) AllReadyH.nil
      go_simp
      go_at_call 74
      (with_reducible refine (HRS.out _).mono ?_)
      rintro e w2 ⟨rfl, hb2⟩
      rw [← HR.out]
      have T2 := mvI_to hb2 HTA.out rfl rfl rfl rfl
      have R2 := isS_to hb2 HRA.out rfl
      have hb02 : Below W0.heap.size W0 w2 := below_to hb2 ((Below.refl W0.heap.size W0).alloc (Nat.le_refl _) (.cells #[.int .i64 0, .int .i64 0, .int .i64 0, .int .i64 0, .int .i64 0, .int .i64 0, .int .i64 0, .int .i64 0] 57)) (by simp) rfl rfl rfl rfl
      clear hb2
      obtain ⟨x0, x1, x2, x3, x4, x5, x6, x7, -, -, -, -, -, -, -, -, -, -, -, -, -, -, -, -⟩ := T2.1.all
      dsimp only
      refine hK.out _ _ (by refine ⟨?_, ?_, ?_, ?_, ?_, ?_, ?_, ?_⟩ <;> first | with_reducible assumption | assumption) (fun hHeld2 => ?_)
      clear hK
      try simp only [Act.put, List.setIfInBounds_toArray, List.set_cons_zero, List.set_cons_succ]
      obtain ⟨lr, ⟨r0, r1, r2, r3, r4, r5, r6, r7⟩, e0, e1, e2, e3, e4, e5, e6, e7⟩ := R2.all
      refine wpAnyH_ready (rs := [7]) (by kernel_rfl) (by simp) ?_
      refine AllReadyH.cons (o := _) rfl (fun K hK => ?_) AllReadyH.nil
      go_simp
      have SF := R2.set8 r
      have TF := mvI_to (w0 := W0) (below_set8 hb02 (Nat.le_refl _) r) HT0.out rfl rfl rfl rfl
      clear r0 r1 r2 r3 r4 r5 r6 r7
      obtain ⟨z0, z1, z2, z3, z4, z5, z6, z7, -, -, -, -, -, -, -, -, -, -, -, -, -, -, -, -⟩ := TF.1.all
      refine hK.out _ _ (by refine ⟨?_, ?_, ?_, ?_, ?_, ?_, ?_, ?_⟩ <;> first | with_reducible assumption | assumption) (fun hHeld3 => ?_)
      clear hK
      try simp only [Act.put, List.setIfInBounds_toArray, List.set_cons_zero, List.set_cons_succ]
      refine wpAnyH_done (by kernel_rfl) ?_ _
      go_wp2_with fail
      go_meet
      exact ⟨_, rfl, SF, TF⟩
  obtain ⟨B8, rfl, SF, TF⟩ := hcut
  have hlB : B8 < wc.heap.size := SF.lt
  have HSF := hide SF
  have HTF := hide TF
  have hbx := TF.2.2.1.2.1
  obtain ⟨_, ⟨s0, s1, s2, s3, s4, s5, s6, s7⟩, -⟩ := SF.all
  have HRB := hide (show RowsAt wc.drew gR (rowsB s) from TF.2.2.1.2.2)
  obtain ⟨cc, hcc⟩ : ∃ cc, cc = cellI (splitP s.data.toList) r.x r.y := ⟨_, rfl⟩
  have HCC := hide hcc
  have hq0 : decide ((cc.toNat : Int) = 46) = true := by
    have := HF.out
    unfold floorL at this
    rw [← HR.out, ← hcc] at this
    exact this
  have hq1 := eq46' hq0
  have hq2 : (((cc.toNat : Nat) : Int) != 46) = false := by rw [bne, hq1]; rfl
  clear hcc hq0 SF TF
  have HIN := hide (show inAny [a, b, c] r.x r.y = false from by rw [HR.out]; exact hin2)
  clear hin hin2
  go_upto_region 3 with (fail)
  refine wp_region_held_drew (S := (fun w' => w'.cell? ⟨Br, 0, none⟩ = some (.slice (some ⟨gR, 0, none⟩) (rowsB s).length (rowsB s).length) ∧ w'.cell? ⟨B8, 0, none⟩ = some (.int .i64 r.x) ∧ w'.cell? ⟨B8, 1, none⟩ = some (.int .i64 r.y) ∧ w'.cell? ⟨B8, 2, none⟩ = some (.int .i64 r.d.t) ∧ w'.cell? ⟨B8, 3, none⟩ = some (.int .i64 r.d.n) ∧ w'.cell? ⟨B8, 4, none⟩ = some (.int .i64 r.d.e) ∧ w'.cell? ⟨B8, 5, none⟩ = some (.int .i64 r.d.s) ∧ w'.cell? ⟨B8, 6, none⟩ = some (.int .i64 r.d.w) ∧ w'.cell? ⟨B8, 7, none⟩ = some (.int .i64 r.d.b))) (by kernel_rfl) (by refine ⟨?_, ?_, ?_, ?_, ?_, ?_, ?_, ?_, ?_⟩ <;> assumption) (fun hHeld => ?_)
  refine takeD (i := 0) (v := ?_) 18 rfl rfl (by kernel_rfl) (by kernel_rfl) (by kernel_rfl) (fun _ _ _ h => h) (Or.inl ⟨by rfl, ?_⟩) (by assumption) ?_
  rotate_left 1
  · (intro w hSw; (try dsimp only at hSw); go_simp; (try with_reducible rfl))
  try simp only [Act.put, List.setIfInBounds_toArray, List.set_cons_zero, List.set_cons_succ]
  refine takeD (i := 1) (v := ?_) 19 rfl rfl (by kernel_rfl) (by kernel_rfl) (by kernel_rfl) (fun _ _ _ h => h) (Or.inl ⟨by rfl, ?_⟩) (by assumption) ?_
  rotate_left 1
  · (intro w hSw; (try dsimp only at hSw); go_simp; (try with_reducible rfl))
  try simp only [Act.put, List.setIfInBounds_toArray, List.set_cons_zero, List.set_cons_succ]
  refine takeD (i := 2) (v := ?_) 20 rfl rfl (by kernel_rfl) (by kernel_rfl) (by kernel_rfl) (fun _ _ _ h => h) (Or.inl ⟨by rfl, ?_⟩) (by assumption) ?_
  rotate_left 1
  · (intro w hSw; (try dsimp only at hSw); go_simp; (try with_reducible rfl))
  try simp only [Act.put, List.setIfInBounds_toArray, List.set_cons_zero, List.set_cons_succ]
  refine takeD (i := 3) (v := ?_) 21 rfl rfl (by kernel_rfl) (by kernel_rfl) (by kernel_rfl) (fun _ _ _ h => h) (Or.inl ⟨by rfl, ?_⟩) (by assumption) ?_
  rotate_left 1
  · (intro w hSw; (try dsimp only at hSw); go_simp; (try with_reducible rfl))
  try simp only [Act.put, List.setIfInBounds_toArray, List.set_cons_zero, List.set_cons_succ]
  refine takeD (i := 4) (v := ?_) 22 rfl rfl (by kernel_rfl) (by kernel_rfl) (by kernel_rfl) (fun _ _ _ h => h) (Or.inl ⟨by rfl, ?_⟩) (by assumption) ?_
  rotate_left 1
  · (intro w hSw; (try dsimp only at hSw); go_simp; (try with_reducible rfl))
  try simp only [Act.put, List.setIfInBounds_toArray, List.set_cons_zero, List.set_cons_succ]
  refine wpAnyH_ready (rs := [5]) (by kernel_rfl) (by simp) ?_
  refine AllReadyH.cons (o := _) rfl (fun K hK => ?_) AllReadyH.nil
  go_simp
  go_at_call 75
  (with_reducible refine (HCA.out _ r.x r.y HRB.out).mono ?_)
  rintro e w3 ⟨rfl, rfl⟩
  rw [← HCC.out]
  dsimp only
  refine hK.out _ _ (by refine ⟨?_, ?_, ?_, ?_, ?_, ?_, ?_, ?_, ?_⟩ <;> assumption) (fun hHeld_1 => ?_)
  clear hK
  try simp only [Act.put, List.setIfInBounds_toArray, List.set_cons_zero, List.set_cons_succ]
  refine takeD (i := 6) (v := ?_) 24 rfl rfl (by kernel_rfl) (by kernel_rfl) (by kernel_rfl) (fun _ _ _ h => h) (Or.inl ⟨by rfl, ?_⟩) (by assumption) ?_
  rotate_left 1
  · (intro w hSw; (try dsimp only at hSw); go_simp; (try with_reducible rfl))
  try simp only [Act.put, List.setIfInBounds_toArray, List.set_cons_zero, List.set_cons_succ]
  refine takeD (i := 7) (v := ?_) 25 rfl rfl (by kernel_rfl) (by kernel_rfl) (by kernel_rfl) (fun _ _ _ h => h) (Or.inl ⟨by rfl, ?_⟩) (by assumption) ?_
  rotate_left 1
  · (intro w hSw; (try dsimp only at hSw); go_simp; (try with_reducible rfl))
  try simp only [Act.put, List.setIfInBounds_toArray, List.set_cons_zero, List.set_cons_succ]
  refine takeD (i := 8) (v := ?_) 26 rfl rfl (by kernel_rfl) (by kernel_rfl) (by kernel_rfl) (fun _ _ _ h => h) (Or.inl ⟨by rfl, ?_⟩) (by assumption) ?_
  rotate_left 1
  · (intro w hSw; (try dsimp only at hSw); go_simp; (try with_reducible rfl))
  try simp only [Act.put, List.setIfInBounds_toArray, List.set_cons_zero, List.set_cons_succ]
  refine takeD (i := 9) (v := ?_) 27 rfl rfl (by kernel_rfl) (by kernel_rfl) (by kernel_rfl) (fun _ _ _ h => h) (Or.inl ⟨by rfl, ?_⟩) (by assumption) ?_
  rotate_left 1
  · (intro w hSw; (try dsimp only at hSw); go_simp; (try with_reducible rfl))
  try simp only [Act.put, List.setIfInBounds_toArray, List.set_cons_zero, List.set_cons_succ]
  refine wpAnyH_ready (rs := [10]) (by kernel_rfl) (by simp) ?_
  refine AllReadyH.cons (o := _) rfl (fun K hK => ?_) AllReadyH.nil
  go_simp
  go_at_call 65
  (with_reducible refine (inCellOf_any r _).mono ?_)
  rintro e w4 ⟨B2, rfl, hC4, hb4⟩
  have HC4 := hide hC4
  have HT4 := hide (mvI_to hb4 HTF.out rfl rfl rfl rfl)
  have HS4 := hide (isS_to hb4 HSF.out rfl)
  have HD4 := hide (stAt_p HT4.out.1)
  have hbx4 := HT4.out.2.2.1.2.1
  clear hb4 hC4
  obtain ⟨_, ⟨y0, y1, y2, y3, y4, y5, y6, y7⟩, -⟩ := HS4.out.all
  dsimp only
  refine hK.out _ _ (by refine ⟨?_, ?_, ?_, ?_, ?_, ?_, ?_, ?_, ?_⟩ <;> assumption) (fun hHeld_2 => ?_)
  clear hK
  try simp only [Act.put, List.setIfInBounds_toArray, List.set_cons_zero, List.set_cons_succ]
  refine wpAnyH_ready (rs := [11]) (by kernel_rfl) (by simp) ?_
  refine AllReadyH.cons (o := _) rfl (fun K hK => ?_) AllReadyH.nil
  go_simp
  go_at_call 64
  (with_reducible refine (hasIn_any [a, b, c] 3 w.heap.size 3 B2 r _ rfl (by omega) HD4.out HC4.out).mono ?_)
  rintro e w5 ⟨rfl, hb5⟩
  rw [HIN.out]
  have HT5 := hide (mvI_to hb5 HT4.out rfl rfl rfl rfl)
  have HS5 := hide (isS_to hb5 HS4.out rfl)
  have hbx5 := HT5.out.2.2.1.2.1
  clear hb5
  obtain ⟨_, ⟨t0, t1, t2, t3, t4, t5, t6, t7⟩, -⟩ := HS5.out.all
  dsimp only
  refine hK.out _ _ (by refine ⟨?_, ?_, ?_, ?_, ?_, ?_, ?_, ?_, ?_⟩ <;> assumption) (fun hHeld_3 => ?_)
  clear hK
  try simp only [Act.put, List.setIfInBounds_toArray, List.set_cons_zero, List.set_cons_succ]
  refine takeD (i := 12) (v := ?_) 30 rfl rfl (by kernel_rfl) (by kernel_rfl) (by kernel_rfl) (fun _ _ _ h => h) (Or.inl ⟨by rfl, ?_⟩) (by assumption) ?_
  rotate_left 1
  · (intro w hSw; (try dsimp only at hSw); go_simp; (try with_reducible rfl))
  try simp only [Act.put, List.setIfInBounds_toArray, List.set_cons_zero, List.set_cons_succ]
  refine wpAnyH_done (by kernel_rfl) ?_ _

  obtain ⟨p0, p1, p2, p3, p4, p5, p6, p7, -, -, -, -, -, -, -, -, -, -, -, -, -, -, -, -⟩ := HT5.out.1.all
  have hfr := HT5.out.1.free
  have f0 := hfr 0
  have f1 := hfr 1
  have f2 := hfr 2
  have f3 := hfr 3
  have f4 := hfr 4
  have f5 := hfr 5
  have f6 := hfr 6
  have f7 := hfr 7
  have P1 := HT5.out.1.put0 r
  have P2 : IsP _ (w.heap.size + 1) ⟨0, 0, ⟨0, 0, 0, 0, 0, 0⟩⟩ ⟨0, 0, ⟨0, 0, 0, 0, 0, 0⟩⟩ ⟨0, 0, ⟨0, 0, 0, 0, 0, 0⟩⟩ := ((((((((HT5.out.2.1.other (p := ⟨w.heap.size, 0, none⟩) (by simp) (.int .i64 r.x)).other (p := ⟨w.heap.size, 1, none⟩) (by simp) (.int .i64 r.y)).other (p := ⟨w.heap.size, 2, none⟩) (by simp) (.int .i64 r.d.t)).other (p := ⟨w.heap.size, 3, none⟩) (by simp) (.int .i64 r.d.n)).other (p := ⟨w.heap.size, 4, none⟩) (by simp) (.int .i64 r.d.e)).other (p := ⟨w.heap.size, 5, none⟩) (by simp) (.int .i64 r.d.s)).other (p := ⟨w.heap.size, 6, none⟩) (by simp) (.int .i64 r.d.w)).other (p := ⟨w.heap.size, 7, none⟩) (by simp) (.int .i64 r.d.b))
  have q1 := below_put HT5.out.2.2.2 (Nat.le_refl _) (.int .i64 r.x) (.int .i64 r.y) (.int .i64 r.d.t) (.int .i64 r.d.n) (.int .i64 r.d.e) (.int .i64 r.d.s) (.int .i64 r.d.w) (.int .i64 r.d.b) 0 1 2 3 4 5 6 7
  clear hfr
  go_upto_region 6 with (fail)
  have HP1 := hide P1
  have HP2 := hide P2
  have q2 := hide q1
  clear P1 P2 q1 p0 p1 p2 p3 p4 p5 p6 p7
  generalize ((((((((w5.setCell ⟨w.heap.size, 0, none⟩ (.int .i64 r.x)).setCell ⟨w.heap.size, 1, none⟩ (.int .i64 r.y)).setCell ⟨w.heap.size, 2, none⟩ (.int .i64 r.d.t)).setCell ⟨w.heap.size, 3, none⟩ (.int .i64 r.d.n)).setCell ⟨w.heap.size, 4, none⟩ (.int .i64 r.d.e)).setCell ⟨w.heap.size, 5, none⟩ (.int .i64 r.d.s)).setCell ⟨w.heap.size, 6, none⟩ (.int .i64 r.d.w)).setCell ⟨w.heap.size, 7, none⟩ (.int .i64 r.d.b)) = W6 at HP1 HP2 q2 ⊢
  have R1 := hide (show IsP (W6.setRow (w.heap.size + 1) #[.int .i64 r.x, .int .i64 r.y, .int .i64 r.d.t, .int .i64 r.d.n, .int .i64 r.d.e, .int .i64 r.d.s, .int .i64 r.d.w, .int .i64 r.d.b, .int .i64 b.x, .int .i64 b.y, .int .i64 b.d.t, .int .i64 b.d.n, .int .i64 b.d.e, .int .i64 b.d.s, .int .i64 b.d.w, .int .i64 b.d.b, .int .i64 c.x, .int .i64 c.y, .int .i64 c.d.t, .int .i64 c.d.n, .int .i64 c.d.e, .int .i64 c.d.s, .int .i64 c.d.w, .int .i64 c.d.b]) (w.heap.size + 1) r b c from setRow_heap W6 _ _ _ _ _ HP2.out)
  have q3 := hide (below_setRow q2.out (show w.heap.size ≤ w.heap.size + 1 by omega) #[.int .i64 r.x, .int .i64 r.y, .int .i64 r.d.t, .int .i64 r.d.n, .int .i64 r.d.e, .int .i64 r.d.s, .int .i64 r.d.w, .int .i64 r.d.b, .int .i64 b.x, .int .i64 b.y, .int .i64 b.d.t, .int .i64 b.d.n, .int .i64 b.d.e, .int .i64 b.d.s, .int .i64 b.d.w, .int .i64 b.d.b, .int .i64 c.x, .int .i64 c.y, .int .i64 c.d.t, .int .i64 c.d.n, .int .i64 c.d.e, .int .i64 c.d.s, .int .i64 c.d.w, .int .i64 c.d.b])
  go_wp2_with (first | (refine wpList_load_row rfl 70 (.tmp 3) rfl w.heap.size rfl _ _ _ _ HP1.out und_group rfl size_group ?_) | (refine wpList_store_row rfl 70 (.tmp 5) (.tmp 35) rfl (w.heap.size + 1) #[.int .i64 r.x, .int .i64 r.y, .int .i64 r.d.t, .int .i64 r.d.n, .int .i64 r.d.e, .int .i64 r.d.s, .int .i64 r.d.w, .int .i64 r.d.b, .int .i64 b.x, .int .i64 b.y, .int .i64 b.d.t, .int .i64 b.d.n, .int .i64 b.d.e, .int .i64 b.d.s, .int .i64 b.d.w, .int .i64 b.d.b, .int .i64 c.x, .int .i64 c.y, .int .i64 c.d.t, .int .i64 c.d.n, .int .i64 c.d.e, .int .i64 c.d.s, .int .i64 c.d.w, .int .i64 c.d.b] rfl rfl _ _ HP2.out (by kernel_rfl) (by kernel_rfl) (by kernel_rfl) ?_))
  exact bodyPost_ret (ret_group2 Tryd.results72 rfl rfl R1.out) rfl ⟨by rw [HR.out], q3.out⟩
set_option maxHeartbeats 3200000 in
theorem mvNo_1 (a b c : St) (d : UInt8) (Br gR : Nat) (s : ByteArray) (w : World) (hs : s.size ≤ 1048576) (hb : isBd s.data.toList = true) (hd : 0 ≤ dirIx d.toNat) (hx : -100000 ≤ b.x ∧ b.x ≤ 100000) (hy : -100000 ≤ b.y ∧ b.y ≤ 100000) (hR : RowsBox w Br gR s) (hf : floorL s.data.toList (rollT b (dirIx d.toNat)).x (rollT b (dirIx d.toNat)).y = false) : Calls Tryd.prog 72 #[gV a b c, .string ⟨#[49, d]⟩, .pointer (some ⟨Br, 0, none⟩)] w fun e w' => e = .returned (.tuple #[gV ⟨0, 0, ⟨0, 0, 0, 0, 0, 0⟩⟩ ⟨0, 0, ⟨0, 0, 0, 0, 0, 0⟩⟩ ⟨0, 0, ⟨0, 0, 0, 0, 0, 0⟩⟩, .bool false]) ∧ Below w.heap.size w w' := by
  have HF := hide hf
  clear hf
  have q0 : Below w.heap.size w ((w.alloc (.cells #[.int .i64 a.x, .int .i64 a.y, .int .i64 a.d.t, .int .i64 a.d.n, .int .i64 a.d.e, .int .i64 a.d.s, .int .i64 a.d.w, .int .i64 a.d.b, .int .i64 b.x, .int .i64 b.y, .int .i64 b.d.t, .int .i64 b.d.n, .int .i64 b.d.e, .int .i64 b.d.s, .int .i64 b.d.w, .int .i64 b.d.b, .int .i64 c.x, .int .i64 c.y, .int .i64 c.d.t, .int .i64 c.d.n, .int .i64 c.d.e, .int .i64 c.d.s, .int .i64 c.d.w, .int .i64 c.d.b] 70)).alloc (.cells #[.int .i64 0, .int .i64 0, .int .i64 0, .int .i64 0, .int .i64 0, .int .i64 0, .int .i64 0, .int .i64 0, .int .i64 0, .int .i64 0, .int .i64 0, .int .i64 0, .int .i64 0, .int .i64 0, .int .i64 0, .int .i64 0, .int .i64 0, .int .i64 0, .int .i64 0, .int .i64 0, .int .i64 0, .int .i64 0, .int .i64 0, .int .i64 0] 70)) := by go_grown
  have T0 : MvI w ((w.alloc (.cells #[.int .i64 a.x, .int .i64 a.y, .int .i64 a.d.t, .int .i64 a.d.n, .int .i64 a.d.e, .int .i64 a.d.s, .int .i64 a.d.w, .int .i64 a.d.b, .int .i64 b.x, .int .i64 b.y, .int .i64 b.d.t, .int .i64 b.d.n, .int .i64 b.d.e, .int .i64 b.d.s, .int .i64 b.d.w, .int .i64 b.d.b, .int .i64 c.x, .int .i64 c.y, .int .i64 c.d.t, .int .i64 c.d.n, .int .i64 c.d.e, .int .i64 c.d.s, .int .i64 c.d.w, .int .i64 c.d.b] 70)).alloc (.cells #[.int .i64 0, .int .i64 0, .int .i64 0, .int .i64 0, .int .i64 0, .int .i64 0, .int .i64 0, .int .i64 0, .int .i64 0, .int .i64 0, .int .i64 0, .int .i64 0, .int .i64 0, .int .i64 0, .int .i64 0, .int .i64 0, .int .i64 0, .int .i64 0, .int .i64 0, .int .i64 0, .int .i64 0, .int .i64 0, .int .i64 0, .int .i64 0] 70)) Br gR s a b c := ⟨(IsP.new (w := w) (a := a) (b := b) (c := c)).alloc (.cells #[.int .i64 0, .int .i64 0, .int .i64 0, .int .i64 0, .int .i64 0, .int .i64 0, .int .i64 0, .int .i64 0, .int .i64 0, .int .i64 0, .int .i64 0, .int .i64 0, .int .i64 0, .int .i64 0, .int .i64 0, .int .i64 0, .int .i64 0, .int .i64 0, .int .i64 0, .int .i64 0, .int .i64 0, .int .i64 0, .int .i64 0, .int .i64 0] 70), IsP.new2 (w := w) (o := (.cells #[.int .i64 a.x, .int .i64 a.y, .int .i64 a.d.t, .int .i64 a.d.n, .int .i64 a.d.e, .int .i64 a.d.s, .int .i64 a.d.w, .int .i64 a.d.b, .int .i64 b.x, .int .i64 b.y, .int .i64 b.d.t, .int .i64 b.d.n, .int .i64 b.d.e, .int .i64 b.d.s, .int .i64 b.d.w, .int .i64 b.d.b, .int .i64 c.x, .int .i64 c.y, .int .i64 c.d.t, .int .i64 c.d.n, .int .i64 c.d.e, .int .i64 c.d.s, .int .i64 c.d.w, .int .i64 c.d.b] 70)) (a := ⟨0, 0, ⟨0, 0, 0, 0, 0, 0⟩⟩) (b := ⟨0, 0, ⟨0, 0, 0, 0, 0, 0⟩⟩) (c := ⟨0, 0, ⟨0, 0, 0, 0, 0, 0⟩⟩), rowsBox_to (w0 := w) q0 hR rfl, q0⟩
  generalize hW : (w.alloc (.cells #[.int .i64 a.x, .int .i64 a.y, .int .i64 a.d.t, .int .i64 a.d.n, .int .i64 a.d.e, .int .i64 a.d.s, .int .i64 a.d.w, .int .i64 a.d.b, .int .i64 b.x, .int .i64 b.y, .int .i64 b.d.t, .int .i64 b.d.n, .int .i64 b.d.e, .int .i64 b.d.s, .int .i64 b.d.w, .int .i64 b.d.b, .int .i64 c.x, .int .i64 c.y, .int .i64 c.d.t, .int .i64 c.d.n, .int .i64 c.d.e, .int .i64 c.d.s, .int .i64 c.d.w, .int .i64 c.d.b] 70)).alloc (.cells #[.int .i64 0, .int .i64 0, .int .i64 0, .int .i64 0, .int .i64 0, .int .i64 0, .int .i64 0, .int .i64 0, .int .i64 0, .int .i64 0, .int .i64 0, .int .i64 0, .int .i64 0, .int .i64 0, .int .i64 0, .int .i64 0, .int .i64 0, .int .i64 0, .int .i64 0, .int .i64 0, .int .i64 0, .int .i64 0, .int .i64 0, .int .i64 0] 70) = W0 at T0
  have HW := hide hW
  clear hW q0 hR
  obtain ⟨r, hr⟩ : ∃ r, r = rollT b (dirIx d.toNat) := ⟨_, rfl⟩
  have HR := hide hr
  have HX := hide hx
  have HY := hide hy
  have HD := hide hd
  have HCA := hide (fun (wx : World) (x y : Int) (ha : RowsAt wx gR (rowsB s)) => cellAtL_any s gR x y wx hs hb ha)
  have HIX := hide (show ∀ wx : World, Calls Tryd.prog 73 #[.string ⟨#[48, 49, 50]⟩, .int .u8 49] wx fun e w' => e = .returned (.int .i64 1) ∧ wx = w' from fun wx => (indexIn_any ⟨#[48, 49, 50]⟩ 49 wx).mono fun e w' h => ⟨h.1.trans (congrArg (fun x => Ending.returned (.int .i64 x)) (by decide)), h.2⟩)
  clear hr hx hy hd hb hs
  have HT0 := hide T0
  obtain ⟨c0, c1, c2, c3, c4, c5, c6, c7, c8, c9, c10, c11, c12, c13, c14, c15, c16, c17, c18, c19, c20, c21, c22, c23⟩ := T0.1.all
  clear T0 c0 c1 c2 c3 c4 c5 c6 c7 c16 c17 c18 c19 c20 c21 c22 c23
  go_enter Tryd.func72, Tryd.ntmps72
  go_upto_region 1 with (fail)
  rw [HW.out]
  go_upto_region 2 with (go_at_call 73; refine (HIX.out _).mono ?_; rintro e w' ⟨rfl, rfl⟩)
  have em : (⟨#[49, d]⟩ : ByteArray)[1]'(by show 1 < 2; omega) = d := rfl
  have hl0 := HT0.out.1.lt
  have HRA := hide (IsS.new (w := W0) (s := ⟨0, 0, ⟨0, 0, 0, 0, 0, 0⟩⟩) (ty := 57))
  have HTA := hide (show MvI w (W0.alloc (.cells #[.int .i64 0, .int .i64 0, .int .i64 0, .int .i64 0, .int .i64 0, .int .i64 0, .int .i64 0, .int .i64 0] 57)) Br gR s a b c from mvI_to (w0 := W0) ((Below.refl _ _).alloc (Nat.le_refl _) _) HT0.out rfl rfl rfl rfl)
  have HRS := hide (fun wx => rolledState_any d b wx HD.out HX.out HY.out)
  go_cut [8] from 12 to 18 (fun t8 wx => ∃ B8, t8 = .pointer (some ⟨B8, 0, none⟩) ∧ IsS wx B8 r 57 ∧ MvI w wx Br gR s a b c)
  case first =>
    refine wp_region_held_drew (S := (fun w' => w'.cell? ⟨w.heap.size, 8, none⟩ = some (.int .i64 b.x) ∧ w'.cell? ⟨w.heap.size, 9, none⟩ = some (.int .i64 b.y) ∧ w'.cell? ⟨w.heap.size, 10, none⟩ = some (.int .i64 b.d.t) ∧ w'.cell? ⟨w.heap.size, 11, none⟩ = some (.int .i64 b.d.n) ∧ w'.cell? ⟨w.heap.size, 12, none⟩ = some (.int .i64 b.d.e) ∧ w'.cell? ⟨w.heap.size, 13, none⟩ = some (.int .i64 b.d.s) ∧ w'.cell? ⟨w.heap.size, 14, none⟩ = some (.int .i64 b.d.w) ∧ w'.cell? ⟨w.heap.size, 15, none⟩ = some (.int .i64 b.d.b))) (by kernel_rfl) (by refine ⟨?_, ?_, ?_, ?_, ?_, ?_, ?_, ?_⟩ <;> first | with_reducible assumption | assumption) (fun hHeld => ?_)
    refine takeD (i := 0) (v := ?_) 12 rfl rfl (by kernel_rfl) (by kernel_rfl) (by kernel_rfl) (fun _ _ _ h => h) (Or.inl ⟨by rfl, ?_⟩) (by assumption) ?_
    rotate_left 1
    · (intro w hSw; (try dsimp only at hSw); go_simp; (try with_reducible rfl))
    try simp only [Act.put, List.setIfInBounds_toArray, List.set_cons_zero, List.set_cons_succ]
    refine takeD (i := 1) (v := ?_) 13 rfl rfl (by kernel_rfl) (by kernel_rfl) (by kernel_rfl) (fun _ _ _ h => h) (Or.inl ⟨by rfl, ?_⟩) (by assumption) ?_
    rotate_left 1
    · (intro w hSw; (try dsimp only at hSw); go_simp; (try with_reducible rfl))
    try simp only [Act.put, List.setIfInBounds_toArray, List.set_cons_zero, List.set_cons_succ]
    refine takeD (i := 2) (v := ?_) 14 rfl rfl (by kernel_rfl) (by kernel_rfl) (by kernel_rfl) (fun _ _ _ h => h) (Or.inl ⟨by rfl, ?_⟩) (by assumption) ?_
    rotate_left 1
    · (intro w hSw; (try dsimp only at hSw); go_simp; (try with_reducible rfl))
    try simp only [Act.put, List.setIfInBounds_toArray, List.set_cons_zero, List.set_cons_succ]
    refine takeD (i := 3) (v := ?_) 15 rfl rfl (by kernel_rfl) (by kernel_rfl) (by kernel_rfl) (fun _ _ _ h => h) (Or.inl ⟨by rfl, ?_⟩) (by assumption) ?_
    rotate_left 1
    · (intro w hSw; (try dsimp only at hSw); go_simp; (try with_reducible rfl))
    try simp only [Act.put, List.setIfInBounds_toArray, List.set_cons_zero, List.set_cons_succ]
    refine takeD (i := 4) (v := ?_) 16 rfl rfl (by kernel_rfl) (by kernel_rfl) (by kernel_rfl) (fun _ _ _ h => h) (Or.inl ⟨by rfl, ?_⟩) (by assumption) ?_
    rotate_left 1
    · (intro w hSw; (try dsimp only at hSw); go_simp; (try with_reducible rfl))
    try simp only [Act.put, List.setIfInBounds_toArray, List.set_cons_zero, List.set_cons_succ]
    refine wpAnyH_ready (rs := [5, 6]) (by kernel_rfl) (by simp) ?_
    refine AllReadyH.cons (o := _) rfl (fun K hK => ?_) (AllReadyH.cons (o := _) rfl (fun K hK => ?_) AllReadyH.nil)
    · go_simp
      go_at_call 74
      (with_reducible refine (HRS.out _).mono ?_)
      rintro e w2 ⟨rfl, hb2⟩
      rw [← HR.out]
      have T2 := mvI_to hb2 HT0.out rfl rfl rfl rfl
      obtain ⟨-, -, -, -, -, -, -, -, x8, x9, x10, x11, x12, x13, x14, x15, -, -, -, -, -, -, -, -⟩ := T2.1.all
      have hl2 := T2.1.lt
      dsimp only
      refine hK.out _ _ (by refine ⟨?_, ?_, ?_, ?_, ?_, ?_, ?_, ?_⟩ <;> first | with_reducible assumption | assumption) (fun hHeld1 => ?_)
      clear hK
      try simp only [Act.put, List.setIfInBounds_toArray, List.set_cons_zero, List.set_cons_succ]
      refine wpAnyH_ready (rs := [6]) (by kernel_rfl) (by simp) ?_
      refine AllReadyH.cons (o := _) rfl (fun K hK => ?_) AllReadyH.nil
      go_simp
      have TA := mvI_to (w0 := w2) ((Below.refl _ _).alloc (Nat.le_refl _) (.cells #[.int .i64 0, .int .i64 0, .int .i64 0, .int .i64 0, .int .i64 0, .int .i64 0, .int .i64 0, .int .i64 0] 57)) T2 rfl rfl rfl rfl
      obtain ⟨-, -, -, -, -, -, -, -, y8, y9, y10, y11, y12, y13, y14, y15, -, -, -, -, -, -, -, -⟩ := TA.1.all
      refine hK.out _ _ (by refine ⟨?_, ?_, ?_, ?_, ?_, ?_, ?_, ?_⟩ <;> first | with_reducible assumption | assumption) (fun hHeld2 => ?_)
      clear hK
      try simp only [Act.put, List.setIfInBounds_toArray, List.set_cons_zero, List.set_cons_succ]
      refine wpAnyH_ready (rs := [7]) (by kernel_rfl) (by simp) ?_
      refine AllReadyH.cons (o := _) rfl (fun K hK => ?_) AllReadyH.nil
      go_simp
      have SF := IsS.new (w := w2) (s := r) (ty := 57)
      have TF := mvI_to (w0 := w2) ((Below.refl _ _).alloc (Nat.le_refl _) (.cells #[.int .i64 r.x, .int .i64 r.y, .int .i64 r.d.t, .int .i64 r.d.n, .int .i64 r.d.e, .int .i64 r.d.s, .int .i64 r.d.w, .int .i64 r.d.b] 57)) T2 rfl rfl rfl rfl
      obtain ⟨-, -, -, -, -, -, -, -, z8, z9, z10, z11, z12, z13, z14, z15, -, -, -, -, -, -, -, -⟩ := TF.1.all
      refine hK.out _ _ (by refine ⟨?_, ?_, ?_, ?_, ?_, ?_, ?_, ?_⟩ <;> first | with_reducible assumption | assumption) (fun hHeld3 => ?_)
      clear hK
      try simp only [Act.put, List.setIfInBounds_toArray, List.set_cons_zero, List.set_cons_succ]
      refine wpAnyH_done (by kernel_rfl) ?_ _
      go_wp2_with fail
      go_meet
      exact ⟨_, rfl, SF, TF⟩
    · go_simp
      obtain ⟨-, -, -, -, -, -, -, -, y8, y9, y10, y11, y12, y13, y14, y15, -, -, -, -, -, -, -, -⟩ := HTA.out.1.all
      refine hK.out _ _ (by refine ⟨?_, ?_, ?_, ?_, ?_, ?_, ?_, ?_⟩ <;> first | with_reducible assumption | assumption) (fun hHeld1 => ?_)
      clear hK
      try simp only [Act.put, List.setIfInBounds_toArray, List.set_cons_zero, List.set_cons_succ]
      refine wpAnyH_ready (rs := [5]) (by kernel_rfl) (by simp) ?_
      refine AllReadyH.cons (o := _) rfl (fun K hK => ?_) AllReadyH.nil
      go_simp
      go_at_call 74
      (with_reducible refine (HRS.out _).mono ?_)
      rintro e w2 ⟨rfl, hb2⟩
      rw [← HR.out]
      have T2 := mvI_to hb2 HTA.out rfl rfl rfl rfl
      have R2 := isS_to hb2 HRA.out rfl
      have hb02 : Below W0.heap.size W0 w2 := below_to hb2 ((Below.refl W0.heap.size W0).alloc (Nat.le_refl _) (.cells #[.int .i64 0, .int .i64 0, .int .i64 0, .int .i64 0, .int .i64 0, .int .i64 0, .int .i64 0, .int .i64 0] 57)) (by simp) rfl rfl rfl rfl
      clear hb2
      obtain ⟨-, -, -, -, -, -, -, -, x8, x9, x10, x11, x12, x13, x14, x15, -, -, -, -, -, -, -, -⟩ := T2.1.all
      dsimp only
      refine hK.out _ _ (by refine ⟨?_, ?_, ?_, ?_, ?_, ?_, ?_, ?_⟩ <;> first | with_reducible assumption | assumption) (fun hHeld2 => ?_)
      clear hK
      try simp only [Act.put, List.setIfInBounds_toArray, List.set_cons_zero, List.set_cons_succ]
      obtain ⟨lr, ⟨r0, r1, r2, r3, r4, r5, r6, r7⟩, e0, e1, e2, e3, e4, e5, e6, e7⟩ := R2.all
      refine wpAnyH_ready (rs := [7]) (by kernel_rfl) (by simp) ?_
      refine AllReadyH.cons (o := _) rfl (fun K hK => ?_) AllReadyH.nil
      go_simp
      have SF := R2.set8 r
      have TF := mvI_to (w0 := W0) (below_set8 hb02 (Nat.le_refl _) r) HT0.out rfl rfl rfl rfl
      clear r0 r1 r2 r3 r4 r5 r6 r7
      obtain ⟨-, -, -, -, -, -, -, -, z8, z9, z10, z11, z12, z13, z14, z15, -, -, -, -, -, -, -, -⟩ := TF.1.all
      refine hK.out _ _ (by refine ⟨?_, ?_, ?_, ?_, ?_, ?_, ?_, ?_⟩ <;> first | with_reducible assumption | assumption) (fun hHeld3 => ?_)
      clear hK
      try simp only [Act.put, List.setIfInBounds_toArray, List.set_cons_zero, List.set_cons_succ]
      refine wpAnyH_done (by kernel_rfl) ?_ _
      go_wp2_with fail
      go_meet
      exact ⟨_, rfl, SF, TF⟩
  obtain ⟨B8, rfl, SF, TF⟩ := hcut
  have hlB : B8 < wc.heap.size := SF.lt
  have HSF := hide SF
  have HTF := hide TF
  have hbx := TF.2.2.1.2.1
  obtain ⟨_, ⟨s0, s1, s2, s3, s4, s5, s6, s7⟩, -⟩ := SF.all
  have HRB := hide (show RowsAt wc.drew gR (rowsB s) from TF.2.2.1.2.2)
  obtain ⟨cc, hcc⟩ : ∃ cc, cc = cellI (splitP s.data.toList) r.x r.y := ⟨_, rfl⟩
  have HCC := hide hcc
  have hq0 : decide ((cc.toNat : Int) = 46) = false := by
    have := HF.out
    unfold floorL at this
    rw [← HR.out, ← hcc] at this
    exact this
  have hq1 := eq46' hq0
  have hq2 : (((cc.toNat : Nat) : Int) != 46) = true := by rw [bne, hq1]; rfl
  clear hcc hq0 SF TF
  go_upto_region 3 with (fail)
  refine wp_region_held_drew (S := (fun w' => w'.cell? ⟨Br, 0, none⟩ = some (.slice (some ⟨gR, 0, none⟩) (rowsB s).length (rowsB s).length) ∧ w'.cell? ⟨B8, 0, none⟩ = some (.int .i64 r.x) ∧ w'.cell? ⟨B8, 1, none⟩ = some (.int .i64 r.y) ∧ w'.cell? ⟨B8, 2, none⟩ = some (.int .i64 r.d.t) ∧ w'.cell? ⟨B8, 3, none⟩ = some (.int .i64 r.d.n) ∧ w'.cell? ⟨B8, 4, none⟩ = some (.int .i64 r.d.e) ∧ w'.cell? ⟨B8, 5, none⟩ = some (.int .i64 r.d.s) ∧ w'.cell? ⟨B8, 6, none⟩ = some (.int .i64 r.d.w) ∧ w'.cell? ⟨B8, 7, none⟩ = some (.int .i64 r.d.b))) (by kernel_rfl) (by refine ⟨?_, ?_, ?_, ?_, ?_, ?_, ?_, ?_, ?_⟩ <;> assumption) (fun hHeld => ?_)
  refine takeD (i := 0) (v := ?_) 18 rfl rfl (by kernel_rfl) (by kernel_rfl) (by kernel_rfl) (fun _ _ _ h => h) (Or.inl ⟨by rfl, ?_⟩) (by assumption) ?_
  rotate_left 1
  · (intro w hSw; (try dsimp only at hSw); go_simp; (try with_reducible rfl))
  try simp only [Act.put, List.setIfInBounds_toArray, List.set_cons_zero, List.set_cons_succ]
  refine takeD (i := 1) (v := ?_) 19 rfl rfl (by kernel_rfl) (by kernel_rfl) (by kernel_rfl) (fun _ _ _ h => h) (Or.inl ⟨by rfl, ?_⟩) (by assumption) ?_
  rotate_left 1
  · (intro w hSw; (try dsimp only at hSw); go_simp; (try with_reducible rfl))
  try simp only [Act.put, List.setIfInBounds_toArray, List.set_cons_zero, List.set_cons_succ]
  refine takeD (i := 2) (v := ?_) 20 rfl rfl (by kernel_rfl) (by kernel_rfl) (by kernel_rfl) (fun _ _ _ h => h) (Or.inl ⟨by rfl, ?_⟩) (by assumption) ?_
  rotate_left 1
  · (intro w hSw; (try dsimp only at hSw); go_simp; (try with_reducible rfl))
  try simp only [Act.put, List.setIfInBounds_toArray, List.set_cons_zero, List.set_cons_succ]
  refine takeD (i := 3) (v := ?_) 21 rfl rfl (by kernel_rfl) (by kernel_rfl) (by kernel_rfl) (fun _ _ _ h => h) (Or.inl ⟨by rfl, ?_⟩) (by assumption) ?_
  rotate_left 1
  · (intro w hSw; (try dsimp only at hSw); go_simp; (try with_reducible rfl))
  try simp only [Act.put, List.setIfInBounds_toArray, List.set_cons_zero, List.set_cons_succ]
  refine takeD (i := 4) (v := ?_) 22 rfl rfl (by kernel_rfl) (by kernel_rfl) (by kernel_rfl) (fun _ _ _ h => h) (Or.inl ⟨by rfl, ?_⟩) (by assumption) ?_
  rotate_left 1
  · (intro w hSw; (try dsimp only at hSw); go_simp; (try with_reducible rfl))
  try simp only [Act.put, List.setIfInBounds_toArray, List.set_cons_zero, List.set_cons_succ]
  refine wpAnyH_ready (rs := [5]) (by kernel_rfl) (by simp) ?_
  refine AllReadyH.cons (o := _) rfl (fun K hK => ?_) AllReadyH.nil
  go_simp
  go_at_call 75
  (with_reducible refine (HCA.out _ r.x r.y HRB.out).mono ?_)
  rintro e w3 ⟨rfl, rfl⟩
  rw [← HCC.out]
  dsimp only
  refine hK.out _ _ (by refine ⟨?_, ?_, ?_, ?_, ?_, ?_, ?_, ?_, ?_⟩ <;> assumption) (fun hHeld_1 => ?_)
  clear hK
  try simp only [Act.put, List.setIfInBounds_toArray, List.set_cons_zero, List.set_cons_succ]
  refine takeD (i := 6) (v := ?_) 24 rfl rfl (by kernel_rfl) (by kernel_rfl) (by kernel_rfl) (fun _ _ _ h => h) (Or.inl ⟨by rfl, ?_⟩) (by assumption) ?_
  rotate_left 1
  · (intro w hSw; (try dsimp only at hSw); go_simp; (try with_reducible rfl))
  try simp only [Act.put, List.setIfInBounds_toArray, List.set_cons_zero, List.set_cons_succ]
  refine takeD (i := 7) (v := ?_) 25 rfl rfl (by kernel_rfl) (by kernel_rfl) (by kernel_rfl) (fun _ _ _ h => h) (Or.inl ⟨by rfl, ?_⟩) (by assumption) ?_
  rotate_left 1
  · (intro w hSw; (try dsimp only at hSw); go_simp; (try with_reducible rfl))
  try simp only [Act.put, List.setIfInBounds_toArray, List.set_cons_zero, List.set_cons_succ]
  refine takeD (i := 8) (v := undef) 26 rfl rfl (by kernel_rfl) (by kernel_rfl) (by kernel_rfl) (fun _ _ _ h => h) (Or.inr ⟨by kernel_rfl, rfl⟩) (by assumption) ?_
  try simp only [Act.put, List.setIfInBounds_toArray, List.set_cons_zero, List.set_cons_succ]
  refine takeD (i := 9) (v := undef) 27 rfl rfl (by kernel_rfl) (by kernel_rfl) (by kernel_rfl) (fun _ _ _ h => h) (Or.inr ⟨by kernel_rfl, rfl⟩) (by assumption) ?_
  try simp only [Act.put, List.setIfInBounds_toArray, List.set_cons_zero, List.set_cons_succ]
  refine takeD (i := 10) (v := undef) 28 rfl rfl (by kernel_rfl) (by kernel_rfl) (by kernel_rfl) (fun _ _ _ h => h) (Or.inr ⟨by kernel_rfl, rfl⟩) (by assumption) ?_
  try simp only [Act.put, List.setIfInBounds_toArray, List.set_cons_zero, List.set_cons_succ]
  refine takeD (i := 11) (v := undef) 29 rfl rfl (by kernel_rfl) (by kernel_rfl) (by kernel_rfl) (fun _ _ _ h => h) (Or.inr ⟨by kernel_rfl, rfl⟩) (by assumption) ?_
  try simp only [Act.put, List.setIfInBounds_toArray, List.set_cons_zero, List.set_cons_succ]
  refine takeD (i := 12) (v := ?_) 30 rfl rfl (by kernel_rfl) (by kernel_rfl) (by kernel_rfl) (fun _ _ _ h => h) (Or.inl ⟨by rfl, ?_⟩) (by assumption) ?_
  rotate_left 1
  · (intro w hSw; (try dsimp only at hSw); go_simp; (try with_reducible rfl))
  try simp only [Act.put, List.setIfInBounds_toArray, List.set_cons_zero, List.set_cons_succ]
  refine wpAnyH_done (by kernel_rfl) ?_ _

  have HZ := hide HTF.out.2.1
  have R1 := hide (show IsP (wc.drew.setRow (w.heap.size + 1) #[.int .i64 0, .int .i64 0, .int .i64 0, .int .i64 0, .int .i64 0, .int .i64 0, .int .i64 0, .int .i64 0, .int .i64 0, .int .i64 0, .int .i64 0, .int .i64 0, .int .i64 0, .int .i64 0, .int .i64 0, .int .i64 0, .int .i64 0, .int .i64 0, .int .i64 0, .int .i64 0, .int .i64 0, .int .i64 0, .int .i64 0, .int .i64 0]) (w.heap.size + 1) ⟨0, 0, ⟨0, 0, 0, 0, 0, 0⟩⟩ ⟨0, 0, ⟨0, 0, 0, 0, 0, 0⟩⟩ ⟨0, 0, ⟨0, 0, 0, 0, 0, 0⟩⟩ from setRow_heap wc.drew _ _ _ _ _ HTF.out.2.1)
  have q1 := below_setRow HTF.out.2.2.2.drew (show w.heap.size ≤ w.heap.size + 1 by omega) #[.int .i64 0, .int .i64 0, .int .i64 0, .int .i64 0, .int .i64 0, .int .i64 0, .int .i64 0, .int .i64 0, .int .i64 0, .int .i64 0, .int .i64 0, .int .i64 0, .int .i64 0, .int .i64 0, .int .i64 0, .int .i64 0, .int .i64 0, .int .i64 0, .int .i64 0, .int .i64 0, .int .i64 0, .int .i64 0, .int .i64 0, .int .i64 0]
  go_wp2_with (refine wpList_store_row rfl 70 (.tmp 5) (.tmp 31) rfl (w.heap.size + 1) #[.int .i64 0, .int .i64 0, .int .i64 0, .int .i64 0, .int .i64 0, .int .i64 0, .int .i64 0, .int .i64 0, .int .i64 0, .int .i64 0, .int .i64 0, .int .i64 0, .int .i64 0, .int .i64 0, .int .i64 0, .int .i64 0, .int .i64 0, .int .i64 0, .int .i64 0, .int .i64 0, .int .i64 0, .int .i64 0, .int .i64 0, .int .i64 0] rfl rfl _ _ HZ.out (by kernel_rfl) (by kernel_rfl) (by kernel_rfl) ?_)
  exact bodyPost_ret (ret_group2 Tryd.results72 rfl rfl R1.out) rfl ⟨rfl, q1⟩
set_option maxHeartbeats 3200000 in
theorem mvIn_1 (a b c : St) (d : UInt8) (Br gR : Nat) (s : ByteArray) (w : World) (hs : s.size ≤ 1048576) (hb : isBd s.data.toList = true) (hd : 0 ≤ dirIx d.toNat) (hx : -100000 ≤ b.x ∧ b.x ≤ 100000) (hy : -100000 ≤ b.y ∧ b.y ≤ 100000) (hR : RowsBox w Br gR s) (hf : floorL s.data.toList (rollT b (dirIx d.toNat)).x (rollT b (dirIx d.toNat)).y = true) (hin : inAny [a, b, c] (rollT b (dirIx d.toNat)).x (rollT b (dirIx d.toNat)).y = true) : Calls Tryd.prog 72 #[gV a b c, .string ⟨#[49, d]⟩, .pointer (some ⟨Br, 0, none⟩)] w fun e w' => e = .returned (.tuple #[gV ⟨0, 0, ⟨0, 0, 0, 0, 0, 0⟩⟩ ⟨0, 0, ⟨0, 0, 0, 0, 0, 0⟩⟩ ⟨0, 0, ⟨0, 0, 0, 0, 0, 0⟩⟩, .bool false]) ∧ Below w.heap.size w w' := by
  have HF := hide hf
  have hin2 := hin
  clear hf
  have q0 : Below w.heap.size w ((w.alloc (.cells #[.int .i64 a.x, .int .i64 a.y, .int .i64 a.d.t, .int .i64 a.d.n, .int .i64 a.d.e, .int .i64 a.d.s, .int .i64 a.d.w, .int .i64 a.d.b, .int .i64 b.x, .int .i64 b.y, .int .i64 b.d.t, .int .i64 b.d.n, .int .i64 b.d.e, .int .i64 b.d.s, .int .i64 b.d.w, .int .i64 b.d.b, .int .i64 c.x, .int .i64 c.y, .int .i64 c.d.t, .int .i64 c.d.n, .int .i64 c.d.e, .int .i64 c.d.s, .int .i64 c.d.w, .int .i64 c.d.b] 70)).alloc (.cells #[.int .i64 0, .int .i64 0, .int .i64 0, .int .i64 0, .int .i64 0, .int .i64 0, .int .i64 0, .int .i64 0, .int .i64 0, .int .i64 0, .int .i64 0, .int .i64 0, .int .i64 0, .int .i64 0, .int .i64 0, .int .i64 0, .int .i64 0, .int .i64 0, .int .i64 0, .int .i64 0, .int .i64 0, .int .i64 0, .int .i64 0, .int .i64 0] 70)) := by go_grown
  have T0 : MvI w ((w.alloc (.cells #[.int .i64 a.x, .int .i64 a.y, .int .i64 a.d.t, .int .i64 a.d.n, .int .i64 a.d.e, .int .i64 a.d.s, .int .i64 a.d.w, .int .i64 a.d.b, .int .i64 b.x, .int .i64 b.y, .int .i64 b.d.t, .int .i64 b.d.n, .int .i64 b.d.e, .int .i64 b.d.s, .int .i64 b.d.w, .int .i64 b.d.b, .int .i64 c.x, .int .i64 c.y, .int .i64 c.d.t, .int .i64 c.d.n, .int .i64 c.d.e, .int .i64 c.d.s, .int .i64 c.d.w, .int .i64 c.d.b] 70)).alloc (.cells #[.int .i64 0, .int .i64 0, .int .i64 0, .int .i64 0, .int .i64 0, .int .i64 0, .int .i64 0, .int .i64 0, .int .i64 0, .int .i64 0, .int .i64 0, .int .i64 0, .int .i64 0, .int .i64 0, .int .i64 0, .int .i64 0, .int .i64 0, .int .i64 0, .int .i64 0, .int .i64 0, .int .i64 0, .int .i64 0, .int .i64 0, .int .i64 0] 70)) Br gR s a b c := ⟨(IsP.new (w := w) (a := a) (b := b) (c := c)).alloc (.cells #[.int .i64 0, .int .i64 0, .int .i64 0, .int .i64 0, .int .i64 0, .int .i64 0, .int .i64 0, .int .i64 0, .int .i64 0, .int .i64 0, .int .i64 0, .int .i64 0, .int .i64 0, .int .i64 0, .int .i64 0, .int .i64 0, .int .i64 0, .int .i64 0, .int .i64 0, .int .i64 0, .int .i64 0, .int .i64 0, .int .i64 0, .int .i64 0] 70), IsP.new2 (w := w) (o := (.cells #[.int .i64 a.x, .int .i64 a.y, .int .i64 a.d.t, .int .i64 a.d.n, .int .i64 a.d.e, .int .i64 a.d.s, .int .i64 a.d.w, .int .i64 a.d.b, .int .i64 b.x, .int .i64 b.y, .int .i64 b.d.t, .int .i64 b.d.n, .int .i64 b.d.e, .int .i64 b.d.s, .int .i64 b.d.w, .int .i64 b.d.b, .int .i64 c.x, .int .i64 c.y, .int .i64 c.d.t, .int .i64 c.d.n, .int .i64 c.d.e, .int .i64 c.d.s, .int .i64 c.d.w, .int .i64 c.d.b] 70)) (a := ⟨0, 0, ⟨0, 0, 0, 0, 0, 0⟩⟩) (b := ⟨0, 0, ⟨0, 0, 0, 0, 0, 0⟩⟩) (c := ⟨0, 0, ⟨0, 0, 0, 0, 0, 0⟩⟩), rowsBox_to (w0 := w) q0 hR rfl, q0⟩
  generalize hW : (w.alloc (.cells #[.int .i64 a.x, .int .i64 a.y, .int .i64 a.d.t, .int .i64 a.d.n, .int .i64 a.d.e, .int .i64 a.d.s, .int .i64 a.d.w, .int .i64 a.d.b, .int .i64 b.x, .int .i64 b.y, .int .i64 b.d.t, .int .i64 b.d.n, .int .i64 b.d.e, .int .i64 b.d.s, .int .i64 b.d.w, .int .i64 b.d.b, .int .i64 c.x, .int .i64 c.y, .int .i64 c.d.t, .int .i64 c.d.n, .int .i64 c.d.e, .int .i64 c.d.s, .int .i64 c.d.w, .int .i64 c.d.b] 70)).alloc (.cells #[.int .i64 0, .int .i64 0, .int .i64 0, .int .i64 0, .int .i64 0, .int .i64 0, .int .i64 0, .int .i64 0, .int .i64 0, .int .i64 0, .int .i64 0, .int .i64 0, .int .i64 0, .int .i64 0, .int .i64 0, .int .i64 0, .int .i64 0, .int .i64 0, .int .i64 0, .int .i64 0, .int .i64 0, .int .i64 0, .int .i64 0, .int .i64 0] 70) = W0 at T0
  have HW := hide hW
  clear hW q0 hR
  obtain ⟨r, hr⟩ : ∃ r, r = rollT b (dirIx d.toNat) := ⟨_, rfl⟩
  have HR := hide hr
  have HX := hide hx
  have HY := hide hy
  have HD := hide hd
  have HCA := hide (fun (wx : World) (x y : Int) (ha : RowsAt wx gR (rowsB s)) => cellAtL_any s gR x y wx hs hb ha)
  have HIX := hide (show ∀ wx : World, Calls Tryd.prog 73 #[.string ⟨#[48, 49, 50]⟩, .int .u8 49] wx fun e w' => e = .returned (.int .i64 1) ∧ wx = w' from fun wx => (indexIn_any ⟨#[48, 49, 50]⟩ 49 wx).mono fun e w' h => ⟨h.1.trans (congrArg (fun x => Ending.returned (.int .i64 x)) (by decide)), h.2⟩)
  clear hr hx hy hd hb hs
  have HT0 := hide T0
  obtain ⟨c0, c1, c2, c3, c4, c5, c6, c7, c8, c9, c10, c11, c12, c13, c14, c15, c16, c17, c18, c19, c20, c21, c22, c23⟩ := T0.1.all
  clear T0 c0 c1 c2 c3 c4 c5 c6 c7 c16 c17 c18 c19 c20 c21 c22 c23
  go_enter Tryd.func72, Tryd.ntmps72
  go_upto_region 1 with (fail)
  rw [HW.out]
  go_upto_region 2 with (go_at_call 73; refine (HIX.out _).mono ?_; rintro e w' ⟨rfl, rfl⟩)
  have em : (⟨#[49, d]⟩ : ByteArray)[1]'(by show 1 < 2; omega) = d := rfl
  have hl0 := HT0.out.1.lt
  have HRA := hide (IsS.new (w := W0) (s := ⟨0, 0, ⟨0, 0, 0, 0, 0, 0⟩⟩) (ty := 57))
  have HTA := hide (show MvI w (W0.alloc (.cells #[.int .i64 0, .int .i64 0, .int .i64 0, .int .i64 0, .int .i64 0, .int .i64 0, .int .i64 0, .int .i64 0] 57)) Br gR s a b c from mvI_to (w0 := W0) ((Below.refl _ _).alloc (Nat.le_refl _) _) HT0.out rfl rfl rfl rfl)
  have HRS := hide (fun wx => rolledState_any d b wx HD.out HX.out HY.out)
  go_cut [8] from 12 to 18 (fun t8 wx => ∃ B8, t8 = .pointer (some ⟨B8, 0, none⟩) ∧ IsS wx B8 r 57 ∧ MvI w wx Br gR s a b c)
  case first =>
    refine wp_region_held_drew (S := (fun w' => w'.cell? ⟨w.heap.size, 8, none⟩ = some (.int .i64 b.x) ∧ w'.cell? ⟨w.heap.size, 9, none⟩ = some (.int .i64 b.y) ∧ w'.cell? ⟨w.heap.size, 10, none⟩ = some (.int .i64 b.d.t) ∧ w'.cell? ⟨w.heap.size, 11, none⟩ = some (.int .i64 b.d.n) ∧ w'.cell? ⟨w.heap.size, 12, none⟩ = some (.int .i64 b.d.e) ∧ w'.cell? ⟨w.heap.size, 13, none⟩ = some (.int .i64 b.d.s) ∧ w'.cell? ⟨w.heap.size, 14, none⟩ = some (.int .i64 b.d.w) ∧ w'.cell? ⟨w.heap.size, 15, none⟩ = some (.int .i64 b.d.b))) (by kernel_rfl) (by refine ⟨?_, ?_, ?_, ?_, ?_, ?_, ?_, ?_⟩ <;> first | with_reducible assumption | assumption) (fun hHeld => ?_)
    refine takeD (i := 0) (v := ?_) 12 rfl rfl (by kernel_rfl) (by kernel_rfl) (by kernel_rfl) (fun _ _ _ h => h) (Or.inl ⟨by rfl, ?_⟩) (by assumption) ?_
    rotate_left 1
    · (intro w hSw; (try dsimp only at hSw); go_simp; (try with_reducible rfl))
    try simp only [Act.put, List.setIfInBounds_toArray, List.set_cons_zero, List.set_cons_succ]
    refine takeD (i := 1) (v := ?_) 13 rfl rfl (by kernel_rfl) (by kernel_rfl) (by kernel_rfl) (fun _ _ _ h => h) (Or.inl ⟨by rfl, ?_⟩) (by assumption) ?_
    rotate_left 1
    · (intro w hSw; (try dsimp only at hSw); go_simp; (try with_reducible rfl))
    try simp only [Act.put, List.setIfInBounds_toArray, List.set_cons_zero, List.set_cons_succ]
    refine takeD (i := 2) (v := ?_) 14 rfl rfl (by kernel_rfl) (by kernel_rfl) (by kernel_rfl) (fun _ _ _ h => h) (Or.inl ⟨by rfl, ?_⟩) (by assumption) ?_
    rotate_left 1
    · (intro w hSw; (try dsimp only at hSw); go_simp; (try with_reducible rfl))
    try simp only [Act.put, List.setIfInBounds_toArray, List.set_cons_zero, List.set_cons_succ]
    refine takeD (i := 3) (v := ?_) 15 rfl rfl (by kernel_rfl) (by kernel_rfl) (by kernel_rfl) (fun _ _ _ h => h) (Or.inl ⟨by rfl, ?_⟩) (by assumption) ?_
    rotate_left 1
    · (intro w hSw; (try dsimp only at hSw); go_simp; (try with_reducible rfl))
    try simp only [Act.put, List.setIfInBounds_toArray, List.set_cons_zero, List.set_cons_succ]
    refine takeD (i := 4) (v := ?_) 16 rfl rfl (by kernel_rfl) (by kernel_rfl) (by kernel_rfl) (fun _ _ _ h => h) (Or.inl ⟨by rfl, ?_⟩) (by assumption) ?_
    rotate_left 1
    · (intro w hSw; (try dsimp only at hSw); go_simp; (try with_reducible rfl))
    try simp only [Act.put, List.setIfInBounds_toArray, List.set_cons_zero, List.set_cons_succ]
    refine wpAnyH_ready (rs := [5, 6]) (by kernel_rfl) (by simp) ?_
    refine AllReadyH.cons (o := _) rfl (fun K hK => ?_) (AllReadyH.cons (o := _) rfl (fun K hK => ?_) AllReadyH.nil)
    · go_simp
      go_at_call 74
      (with_reducible refine (HRS.out _).mono ?_)
      rintro e w2 ⟨rfl, hb2⟩
      rw [← HR.out]
      have T2 := mvI_to hb2 HT0.out rfl rfl rfl rfl
      obtain ⟨-, -, -, -, -, -, -, -, x8, x9, x10, x11, x12, x13, x14, x15, -, -, -, -, -, -, -, -⟩ := T2.1.all
      have hl2 := T2.1.lt
      dsimp only
      refine hK.out _ _ (by refine ⟨?_, ?_, ?_, ?_, ?_, ?_, ?_, ?_⟩ <;> first | with_reducible assumption | assumption) (fun hHeld1 => ?_)
      clear hK
      try simp only [Act.put, List.setIfInBounds_toArray, List.set_cons_zero, List.set_cons_succ]
      refine wpAnyH_ready (rs := [6]) (by kernel_rfl) (by simp) ?_
      refine AllReadyH.cons (o := _) rfl (fun K hK => ?_) AllReadyH.nil
      go_simp
      have TA := mvI_to (w0 := w2) ((Below.refl _ _).alloc (Nat.le_refl _) (.cells #[.int .i64 0, .int .i64 0, .int .i64 0, .int .i64 0, .int .i64 0, .int .i64 0, .int .i64 0, .int .i64 0] 57)) T2 rfl rfl rfl rfl
      obtain ⟨-, -, -, -, -, -, -, -, y8, y9, y10, y11, y12, y13, y14, y15, -, -, -, -, -, -, -, -⟩ := TA.1.all
      refine hK.out _ _ (by refine ⟨?_, ?_, ?_, ?_, ?_, ?_, ?_, ?_⟩ <;> first | with_reducible assumption | assumption) (fun hHeld2 => ?_)
      clear hK
      try simp only [Act.put, List.setIfInBounds_toArray, List.set_cons_zero, List.set_cons_succ]
      refine wpAnyH_ready (rs := [7]) (by kernel_rfl) (by simp) ?_
      refine AllReadyH.cons (o := _) rfl (fun K hK => ?_) AllReadyH.nil
      go_simp
      have SF := IsS.new (w := w2) (s := r) (ty := 57)
      have TF := mvI_to (w0 := w2) ((Below.refl _ _).alloc (Nat.le_refl _) (.cells #[.int .i64 r.x, .int .i64 r.y, .int .i64 r.d.t, .int .i64 r.d.n, .int .i64 r.d.e, .int .i64 r.d.s, .int .i64 r.d.w, .int .i64 r.d.b] 57)) T2 rfl rfl rfl rfl
      obtain ⟨-, -, -, -, -, -, -, -, z8, z9, z10, z11, z12, z13, z14, z15, -, -, -, -, -, -, -, -⟩ := TF.1.all
      refine hK.out _ _ (by refine ⟨?_, ?_, ?_, ?_, ?_, ?_, ?_, ?_⟩ <;> first | with_reducible assumption | assumption) (fun hHeld3 => ?_)
      clear hK
      try simp only [Act.put, List.setIfInBounds_toArray, List.set_cons_zero, List.set_cons_succ]
      refine wpAnyH_done (by kernel_rfl) ?_ _
      go_wp2_with fail
      go_meet
      exact ⟨_, rfl, SF, TF⟩
    · go_simp
      obtain ⟨-, -, -, -, -, -, -, -, y8, y9, y10, y11, y12, y13, y14, y15, -, -, -, -, -, -, -, -⟩ := HTA.out.1.all
      refine hK.out _ _ (by refine ⟨?_, ?_, ?_, ?_, ?_, ?_, ?_, ?_⟩ <;> first | with_reducible assumption | assumption) (fun hHeld1 => ?_)
      clear hK
      try simp only [Act.put, List.setIfInBounds_toArray, List.set_cons_zero, List.set_cons_succ]
      refine wpAnyH_ready (rs := [5]) (by kernel_rfl) (by simp) ?_
      refine AllReadyH.cons (o := _) rfl (fun K hK => ?_) AllReadyH.nil
      go_simp
      go_at_call 74
      (with_reducible refine (HRS.out _).mono ?_)
      rintro e w2 ⟨rfl, hb2⟩
      rw [← HR.out]
      have T2 := mvI_to hb2 HTA.out rfl rfl rfl rfl
      have R2 := isS_to hb2 HRA.out rfl
      have hb02 : Below W0.heap.size W0 w2 := below_to hb2 ((Below.refl W0.heap.size W0).alloc (Nat.le_refl _) (.cells #[.int .i64 0, .int .i64 0, .int .i64 0, .int .i64 0, .int .i64 0, .int .i64 0, .int .i64 0, .int .i64 0] 57)) (by simp) rfl rfl rfl rfl
      clear hb2
      obtain ⟨-, -, -, -, -, -, -, -, x8, x9, x10, x11, x12, x13, x14, x15, -, -, -, -, -, -, -, -⟩ := T2.1.all
      dsimp only
      refine hK.out _ _ (by refine ⟨?_, ?_, ?_, ?_, ?_, ?_, ?_, ?_⟩ <;> first | with_reducible assumption | assumption) (fun hHeld2 => ?_)
      clear hK
      try simp only [Act.put, List.setIfInBounds_toArray, List.set_cons_zero, List.set_cons_succ]
      obtain ⟨lr, ⟨r0, r1, r2, r3, r4, r5, r6, r7⟩, e0, e1, e2, e3, e4, e5, e6, e7⟩ := R2.all
      refine wpAnyH_ready (rs := [7]) (by kernel_rfl) (by simp) ?_
      refine AllReadyH.cons (o := _) rfl (fun K hK => ?_) AllReadyH.nil
      go_simp
      have SF := R2.set8 r
      have TF := mvI_to (w0 := W0) (below_set8 hb02 (Nat.le_refl _) r) HT0.out rfl rfl rfl rfl
      clear r0 r1 r2 r3 r4 r5 r6 r7
      obtain ⟨-, -, -, -, -, -, -, -, z8, z9, z10, z11, z12, z13, z14, z15, -, -, -, -, -, -, -, -⟩ := TF.1.all
      refine hK.out _ _ (by refine ⟨?_, ?_, ?_, ?_, ?_, ?_, ?_, ?_⟩ <;> first | with_reducible assumption | assumption) (fun hHeld3 => ?_)
      clear hK
      try simp only [Act.put, List.setIfInBounds_toArray, List.set_cons_zero, List.set_cons_succ]
      refine wpAnyH_done (by kernel_rfl) ?_ _
      go_wp2_with fail
      go_meet
      exact ⟨_, rfl, SF, TF⟩
  obtain ⟨B8, rfl, SF, TF⟩ := hcut
  have hlB : B8 < wc.heap.size := SF.lt
  have HSF := hide SF
  have HTF := hide TF
  have hbx := TF.2.2.1.2.1
  obtain ⟨_, ⟨s0, s1, s2, s3, s4, s5, s6, s7⟩, -⟩ := SF.all
  have HRB := hide (show RowsAt wc.drew gR (rowsB s) from TF.2.2.1.2.2)
  obtain ⟨cc, hcc⟩ : ∃ cc, cc = cellI (splitP s.data.toList) r.x r.y := ⟨_, rfl⟩
  have HCC := hide hcc
  have hq0 : decide ((cc.toNat : Int) = 46) = true := by
    have := HF.out
    unfold floorL at this
    rw [← HR.out, ← hcc] at this
    exact this
  have hq1 := eq46' hq0
  have hq2 : (((cc.toNat : Nat) : Int) != 46) = false := by rw [bne, hq1]; rfl
  clear hcc hq0 SF TF
  have HIN := hide (show inAny [a, b, c] r.x r.y = true from by rw [HR.out]; exact hin2)
  clear hin hin2
  go_upto_region 3 with (fail)
  refine wp_region_held_drew (S := (fun w' => w'.cell? ⟨Br, 0, none⟩ = some (.slice (some ⟨gR, 0, none⟩) (rowsB s).length (rowsB s).length) ∧ w'.cell? ⟨B8, 0, none⟩ = some (.int .i64 r.x) ∧ w'.cell? ⟨B8, 1, none⟩ = some (.int .i64 r.y) ∧ w'.cell? ⟨B8, 2, none⟩ = some (.int .i64 r.d.t) ∧ w'.cell? ⟨B8, 3, none⟩ = some (.int .i64 r.d.n) ∧ w'.cell? ⟨B8, 4, none⟩ = some (.int .i64 r.d.e) ∧ w'.cell? ⟨B8, 5, none⟩ = some (.int .i64 r.d.s) ∧ w'.cell? ⟨B8, 6, none⟩ = some (.int .i64 r.d.w) ∧ w'.cell? ⟨B8, 7, none⟩ = some (.int .i64 r.d.b))) (by kernel_rfl) (by refine ⟨?_, ?_, ?_, ?_, ?_, ?_, ?_, ?_, ?_⟩ <;> assumption) (fun hHeld => ?_)
  refine takeD (i := 0) (v := ?_) 18 rfl rfl (by kernel_rfl) (by kernel_rfl) (by kernel_rfl) (fun _ _ _ h => h) (Or.inl ⟨by rfl, ?_⟩) (by assumption) ?_
  rotate_left 1
  · (intro w hSw; (try dsimp only at hSw); go_simp; (try with_reducible rfl))
  try simp only [Act.put, List.setIfInBounds_toArray, List.set_cons_zero, List.set_cons_succ]
  refine takeD (i := 1) (v := ?_) 19 rfl rfl (by kernel_rfl) (by kernel_rfl) (by kernel_rfl) (fun _ _ _ h => h) (Or.inl ⟨by rfl, ?_⟩) (by assumption) ?_
  rotate_left 1
  · (intro w hSw; (try dsimp only at hSw); go_simp; (try with_reducible rfl))
  try simp only [Act.put, List.setIfInBounds_toArray, List.set_cons_zero, List.set_cons_succ]
  refine takeD (i := 2) (v := ?_) 20 rfl rfl (by kernel_rfl) (by kernel_rfl) (by kernel_rfl) (fun _ _ _ h => h) (Or.inl ⟨by rfl, ?_⟩) (by assumption) ?_
  rotate_left 1
  · (intro w hSw; (try dsimp only at hSw); go_simp; (try with_reducible rfl))
  try simp only [Act.put, List.setIfInBounds_toArray, List.set_cons_zero, List.set_cons_succ]
  refine takeD (i := 3) (v := ?_) 21 rfl rfl (by kernel_rfl) (by kernel_rfl) (by kernel_rfl) (fun _ _ _ h => h) (Or.inl ⟨by rfl, ?_⟩) (by assumption) ?_
  rotate_left 1
  · (intro w hSw; (try dsimp only at hSw); go_simp; (try with_reducible rfl))
  try simp only [Act.put, List.setIfInBounds_toArray, List.set_cons_zero, List.set_cons_succ]
  refine takeD (i := 4) (v := ?_) 22 rfl rfl (by kernel_rfl) (by kernel_rfl) (by kernel_rfl) (fun _ _ _ h => h) (Or.inl ⟨by rfl, ?_⟩) (by assumption) ?_
  rotate_left 1
  · (intro w hSw; (try dsimp only at hSw); go_simp; (try with_reducible rfl))
  try simp only [Act.put, List.setIfInBounds_toArray, List.set_cons_zero, List.set_cons_succ]
  refine wpAnyH_ready (rs := [5]) (by kernel_rfl) (by simp) ?_
  refine AllReadyH.cons (o := _) rfl (fun K hK => ?_) AllReadyH.nil
  go_simp
  go_at_call 75
  (with_reducible refine (HCA.out _ r.x r.y HRB.out).mono ?_)
  rintro e w3 ⟨rfl, rfl⟩
  rw [← HCC.out]
  dsimp only
  refine hK.out _ _ (by refine ⟨?_, ?_, ?_, ?_, ?_, ?_, ?_, ?_, ?_⟩ <;> assumption) (fun hHeld_1 => ?_)
  clear hK
  try simp only [Act.put, List.setIfInBounds_toArray, List.set_cons_zero, List.set_cons_succ]
  refine takeD (i := 6) (v := ?_) 24 rfl rfl (by kernel_rfl) (by kernel_rfl) (by kernel_rfl) (fun _ _ _ h => h) (Or.inl ⟨by rfl, ?_⟩) (by assumption) ?_
  rotate_left 1
  · (intro w hSw; (try dsimp only at hSw); go_simp; (try with_reducible rfl))
  try simp only [Act.put, List.setIfInBounds_toArray, List.set_cons_zero, List.set_cons_succ]
  refine takeD (i := 7) (v := ?_) 25 rfl rfl (by kernel_rfl) (by kernel_rfl) (by kernel_rfl) (fun _ _ _ h => h) (Or.inl ⟨by rfl, ?_⟩) (by assumption) ?_
  rotate_left 1
  · (intro w hSw; (try dsimp only at hSw); go_simp; (try with_reducible rfl))
  try simp only [Act.put, List.setIfInBounds_toArray, List.set_cons_zero, List.set_cons_succ]
  refine takeD (i := 8) (v := ?_) 26 rfl rfl (by kernel_rfl) (by kernel_rfl) (by kernel_rfl) (fun _ _ _ h => h) (Or.inl ⟨by rfl, ?_⟩) (by assumption) ?_
  rotate_left 1
  · (intro w hSw; (try dsimp only at hSw); go_simp; (try with_reducible rfl))
  try simp only [Act.put, List.setIfInBounds_toArray, List.set_cons_zero, List.set_cons_succ]
  refine takeD (i := 9) (v := ?_) 27 rfl rfl (by kernel_rfl) (by kernel_rfl) (by kernel_rfl) (fun _ _ _ h => h) (Or.inl ⟨by rfl, ?_⟩) (by assumption) ?_
  rotate_left 1
  · (intro w hSw; (try dsimp only at hSw); go_simp; (try with_reducible rfl))
  try simp only [Act.put, List.setIfInBounds_toArray, List.set_cons_zero, List.set_cons_succ]
  refine wpAnyH_ready (rs := [10]) (by kernel_rfl) (by simp) ?_
  refine AllReadyH.cons (o := _) rfl (fun K hK => ?_) AllReadyH.nil
  go_simp
  go_at_call 65
  (with_reducible refine (inCellOf_any r _).mono ?_)
  rintro e w4 ⟨B2, rfl, hC4, hb4⟩
  have HC4 := hide hC4
  have HT4 := hide (mvI_to hb4 HTF.out rfl rfl rfl rfl)
  have HS4 := hide (isS_to hb4 HSF.out rfl)
  have HD4 := hide (stAt_p HT4.out.1)
  have hbx4 := HT4.out.2.2.1.2.1
  clear hb4 hC4
  obtain ⟨_, ⟨y0, y1, y2, y3, y4, y5, y6, y7⟩, -⟩ := HS4.out.all
  dsimp only
  refine hK.out _ _ (by refine ⟨?_, ?_, ?_, ?_, ?_, ?_, ?_, ?_, ?_⟩ <;> assumption) (fun hHeld_2 => ?_)
  clear hK
  try simp only [Act.put, List.setIfInBounds_toArray, List.set_cons_zero, List.set_cons_succ]
  refine wpAnyH_ready (rs := [11]) (by kernel_rfl) (by simp) ?_
  refine AllReadyH.cons (o := _) rfl (fun K hK => ?_) AllReadyH.nil
  go_simp
  go_at_call 64
  (with_reducible refine (hasIn_any [a, b, c] 3 w.heap.size 3 B2 r _ rfl (by omega) HD4.out HC4.out).mono ?_)
  rintro e w5 ⟨rfl, hb5⟩
  rw [HIN.out]
  have HT5 := hide (mvI_to hb5 HT4.out rfl rfl rfl rfl)
  have HS5 := hide (isS_to hb5 HS4.out rfl)
  have hbx5 := HT5.out.2.2.1.2.1
  clear hb5
  obtain ⟨_, ⟨t0, t1, t2, t3, t4, t5, t6, t7⟩, -⟩ := HS5.out.all
  dsimp only
  refine hK.out _ _ (by refine ⟨?_, ?_, ?_, ?_, ?_, ?_, ?_, ?_, ?_⟩ <;> assumption) (fun hHeld_3 => ?_)
  clear hK
  try simp only [Act.put, List.setIfInBounds_toArray, List.set_cons_zero, List.set_cons_succ]
  refine takeD (i := 12) (v := ?_) 30 rfl rfl (by kernel_rfl) (by kernel_rfl) (by kernel_rfl) (fun _ _ _ h => h) (Or.inl ⟨by rfl, ?_⟩) (by assumption) ?_
  rotate_left 1
  · (intro w hSw; (try dsimp only at hSw); go_simp; (try with_reducible rfl))
  try simp only [Act.put, List.setIfInBounds_toArray, List.set_cons_zero, List.set_cons_succ]
  refine wpAnyH_done (by kernel_rfl) ?_ _

  have HZ := hide HT5.out.2.1
  have R1 := hide (show IsP (w5.setRow (w.heap.size + 1) #[.int .i64 0, .int .i64 0, .int .i64 0, .int .i64 0, .int .i64 0, .int .i64 0, .int .i64 0, .int .i64 0, .int .i64 0, .int .i64 0, .int .i64 0, .int .i64 0, .int .i64 0, .int .i64 0, .int .i64 0, .int .i64 0, .int .i64 0, .int .i64 0, .int .i64 0, .int .i64 0, .int .i64 0, .int .i64 0, .int .i64 0, .int .i64 0]) (w.heap.size + 1) ⟨0, 0, ⟨0, 0, 0, 0, 0, 0⟩⟩ ⟨0, 0, ⟨0, 0, 0, 0, 0, 0⟩⟩ ⟨0, 0, ⟨0, 0, 0, 0, 0, 0⟩⟩ from setRow_heap w5 _ _ _ _ _ HT5.out.2.1)
  have q1 := below_setRow HT5.out.2.2.2 (show w.heap.size ≤ w.heap.size + 1 by omega) #[.int .i64 0, .int .i64 0, .int .i64 0, .int .i64 0, .int .i64 0, .int .i64 0, .int .i64 0, .int .i64 0, .int .i64 0, .int .i64 0, .int .i64 0, .int .i64 0, .int .i64 0, .int .i64 0, .int .i64 0, .int .i64 0, .int .i64 0, .int .i64 0, .int .i64 0, .int .i64 0, .int .i64 0, .int .i64 0, .int .i64 0, .int .i64 0]
  go_wp2_with (refine wpList_store_row rfl 70 (.tmp 5) (.tmp 31) rfl (w.heap.size + 1) #[.int .i64 0, .int .i64 0, .int .i64 0, .int .i64 0, .int .i64 0, .int .i64 0, .int .i64 0, .int .i64 0, .int .i64 0, .int .i64 0, .int .i64 0, .int .i64 0, .int .i64 0, .int .i64 0, .int .i64 0, .int .i64 0, .int .i64 0, .int .i64 0, .int .i64 0, .int .i64 0, .int .i64 0, .int .i64 0, .int .i64 0, .int .i64 0] rfl rfl _ _ HZ.out (by kernel_rfl) (by kernel_rfl) (by kernel_rfl) ?_)
  exact bodyPost_ret (ret_group2 Tryd.results72 rfl rfl R1.out) rfl ⟨rfl, q1⟩
set_option maxHeartbeats 3200000 in
theorem mvOk_1 (a b c : St) (d : UInt8) (Br gR : Nat) (s : ByteArray) (w : World) (hs : s.size ≤ 1048576) (hb : isBd s.data.toList = true) (hd : 0 ≤ dirIx d.toNat) (hx : -100000 ≤ b.x ∧ b.x ≤ 100000) (hy : -100000 ≤ b.y ∧ b.y ≤ 100000) (hR : RowsBox w Br gR s) (hf : floorL s.data.toList (rollT b (dirIx d.toNat)).x (rollT b (dirIx d.toNat)).y = true) (hin : inAny [a, b, c] (rollT b (dirIx d.toNat)).x (rollT b (dirIx d.toNat)).y = false) : Calls Tryd.prog 72 #[gV a b c, .string ⟨#[49, d]⟩, .pointer (some ⟨Br, 0, none⟩)] w fun e w' => e = .returned (.tuple #[gV a (rollT b (dirIx d.toNat)) c, .bool true]) ∧ Below w.heap.size w w' := by
  have HF := hide hf
  have hin2 := hin
  clear hf
  have q0 : Below w.heap.size w ((w.alloc (.cells #[.int .i64 a.x, .int .i64 a.y, .int .i64 a.d.t, .int .i64 a.d.n, .int .i64 a.d.e, .int .i64 a.d.s, .int .i64 a.d.w, .int .i64 a.d.b, .int .i64 b.x, .int .i64 b.y, .int .i64 b.d.t, .int .i64 b.d.n, .int .i64 b.d.e, .int .i64 b.d.s, .int .i64 b.d.w, .int .i64 b.d.b, .int .i64 c.x, .int .i64 c.y, .int .i64 c.d.t, .int .i64 c.d.n, .int .i64 c.d.e, .int .i64 c.d.s, .int .i64 c.d.w, .int .i64 c.d.b] 70)).alloc (.cells #[.int .i64 0, .int .i64 0, .int .i64 0, .int .i64 0, .int .i64 0, .int .i64 0, .int .i64 0, .int .i64 0, .int .i64 0, .int .i64 0, .int .i64 0, .int .i64 0, .int .i64 0, .int .i64 0, .int .i64 0, .int .i64 0, .int .i64 0, .int .i64 0, .int .i64 0, .int .i64 0, .int .i64 0, .int .i64 0, .int .i64 0, .int .i64 0] 70)) := by go_grown
  have T0 : MvI w ((w.alloc (.cells #[.int .i64 a.x, .int .i64 a.y, .int .i64 a.d.t, .int .i64 a.d.n, .int .i64 a.d.e, .int .i64 a.d.s, .int .i64 a.d.w, .int .i64 a.d.b, .int .i64 b.x, .int .i64 b.y, .int .i64 b.d.t, .int .i64 b.d.n, .int .i64 b.d.e, .int .i64 b.d.s, .int .i64 b.d.w, .int .i64 b.d.b, .int .i64 c.x, .int .i64 c.y, .int .i64 c.d.t, .int .i64 c.d.n, .int .i64 c.d.e, .int .i64 c.d.s, .int .i64 c.d.w, .int .i64 c.d.b] 70)).alloc (.cells #[.int .i64 0, .int .i64 0, .int .i64 0, .int .i64 0, .int .i64 0, .int .i64 0, .int .i64 0, .int .i64 0, .int .i64 0, .int .i64 0, .int .i64 0, .int .i64 0, .int .i64 0, .int .i64 0, .int .i64 0, .int .i64 0, .int .i64 0, .int .i64 0, .int .i64 0, .int .i64 0, .int .i64 0, .int .i64 0, .int .i64 0, .int .i64 0] 70)) Br gR s a b c := ⟨(IsP.new (w := w) (a := a) (b := b) (c := c)).alloc (.cells #[.int .i64 0, .int .i64 0, .int .i64 0, .int .i64 0, .int .i64 0, .int .i64 0, .int .i64 0, .int .i64 0, .int .i64 0, .int .i64 0, .int .i64 0, .int .i64 0, .int .i64 0, .int .i64 0, .int .i64 0, .int .i64 0, .int .i64 0, .int .i64 0, .int .i64 0, .int .i64 0, .int .i64 0, .int .i64 0, .int .i64 0, .int .i64 0] 70), IsP.new2 (w := w) (o := (.cells #[.int .i64 a.x, .int .i64 a.y, .int .i64 a.d.t, .int .i64 a.d.n, .int .i64 a.d.e, .int .i64 a.d.s, .int .i64 a.d.w, .int .i64 a.d.b, .int .i64 b.x, .int .i64 b.y, .int .i64 b.d.t, .int .i64 b.d.n, .int .i64 b.d.e, .int .i64 b.d.s, .int .i64 b.d.w, .int .i64 b.d.b, .int .i64 c.x, .int .i64 c.y, .int .i64 c.d.t, .int .i64 c.d.n, .int .i64 c.d.e, .int .i64 c.d.s, .int .i64 c.d.w, .int .i64 c.d.b] 70)) (a := ⟨0, 0, ⟨0, 0, 0, 0, 0, 0⟩⟩) (b := ⟨0, 0, ⟨0, 0, 0, 0, 0, 0⟩⟩) (c := ⟨0, 0, ⟨0, 0, 0, 0, 0, 0⟩⟩), rowsBox_to (w0 := w) q0 hR rfl, q0⟩
  generalize hW : (w.alloc (.cells #[.int .i64 a.x, .int .i64 a.y, .int .i64 a.d.t, .int .i64 a.d.n, .int .i64 a.d.e, .int .i64 a.d.s, .int .i64 a.d.w, .int .i64 a.d.b, .int .i64 b.x, .int .i64 b.y, .int .i64 b.d.t, .int .i64 b.d.n, .int .i64 b.d.e, .int .i64 b.d.s, .int .i64 b.d.w, .int .i64 b.d.b, .int .i64 c.x, .int .i64 c.y, .int .i64 c.d.t, .int .i64 c.d.n, .int .i64 c.d.e, .int .i64 c.d.s, .int .i64 c.d.w, .int .i64 c.d.b] 70)).alloc (.cells #[.int .i64 0, .int .i64 0, .int .i64 0, .int .i64 0, .int .i64 0, .int .i64 0, .int .i64 0, .int .i64 0, .int .i64 0, .int .i64 0, .int .i64 0, .int .i64 0, .int .i64 0, .int .i64 0, .int .i64 0, .int .i64 0, .int .i64 0, .int .i64 0, .int .i64 0, .int .i64 0, .int .i64 0, .int .i64 0, .int .i64 0, .int .i64 0] 70) = W0 at T0
  have HW := hide hW
  clear hW q0 hR
  obtain ⟨r, hr⟩ : ∃ r, r = rollT b (dirIx d.toNat) := ⟨_, rfl⟩
  have HR := hide hr
  have HX := hide hx
  have HY := hide hy
  have HD := hide hd
  have HCA := hide (fun (wx : World) (x y : Int) (ha : RowsAt wx gR (rowsB s)) => cellAtL_any s gR x y wx hs hb ha)
  have HIX := hide (show ∀ wx : World, Calls Tryd.prog 73 #[.string ⟨#[48, 49, 50]⟩, .int .u8 49] wx fun e w' => e = .returned (.int .i64 1) ∧ wx = w' from fun wx => (indexIn_any ⟨#[48, 49, 50]⟩ 49 wx).mono fun e w' h => ⟨h.1.trans (congrArg (fun x => Ending.returned (.int .i64 x)) (by decide)), h.2⟩)
  clear hr hx hy hd hb hs
  have HT0 := hide T0
  obtain ⟨c0, c1, c2, c3, c4, c5, c6, c7, c8, c9, c10, c11, c12, c13, c14, c15, c16, c17, c18, c19, c20, c21, c22, c23⟩ := T0.1.all
  clear T0 c0 c1 c2 c3 c4 c5 c6 c7 c16 c17 c18 c19 c20 c21 c22 c23
  go_enter Tryd.func72, Tryd.ntmps72
  go_upto_region 1 with (fail)
  rw [HW.out]
  go_upto_region 2 with (go_at_call 73; refine (HIX.out _).mono ?_; rintro e w' ⟨rfl, rfl⟩)
  have em : (⟨#[49, d]⟩ : ByteArray)[1]'(by show 1 < 2; omega) = d := rfl
  have hl0 := HT0.out.1.lt
  have HRA := hide (IsS.new (w := W0) (s := ⟨0, 0, ⟨0, 0, 0, 0, 0, 0⟩⟩) (ty := 57))
  have HTA := hide (show MvI w (W0.alloc (.cells #[.int .i64 0, .int .i64 0, .int .i64 0, .int .i64 0, .int .i64 0, .int .i64 0, .int .i64 0, .int .i64 0] 57)) Br gR s a b c from mvI_to (w0 := W0) ((Below.refl _ _).alloc (Nat.le_refl _) _) HT0.out rfl rfl rfl rfl)
  have HRS := hide (fun wx => rolledState_any d b wx HD.out HX.out HY.out)
  go_cut [8] from 12 to 18 (fun t8 wx => ∃ B8, t8 = .pointer (some ⟨B8, 0, none⟩) ∧ IsS wx B8 r 57 ∧ MvI w wx Br gR s a b c)
  case first =>
    refine wp_region_held_drew (S := (fun w' => w'.cell? ⟨w.heap.size, 8, none⟩ = some (.int .i64 b.x) ∧ w'.cell? ⟨w.heap.size, 9, none⟩ = some (.int .i64 b.y) ∧ w'.cell? ⟨w.heap.size, 10, none⟩ = some (.int .i64 b.d.t) ∧ w'.cell? ⟨w.heap.size, 11, none⟩ = some (.int .i64 b.d.n) ∧ w'.cell? ⟨w.heap.size, 12, none⟩ = some (.int .i64 b.d.e) ∧ w'.cell? ⟨w.heap.size, 13, none⟩ = some (.int .i64 b.d.s) ∧ w'.cell? ⟨w.heap.size, 14, none⟩ = some (.int .i64 b.d.w) ∧ w'.cell? ⟨w.heap.size, 15, none⟩ = some (.int .i64 b.d.b))) (by kernel_rfl) (by refine ⟨?_, ?_, ?_, ?_, ?_, ?_, ?_, ?_⟩ <;> first | with_reducible assumption | assumption) (fun hHeld => ?_)
    refine takeD (i := 0) (v := ?_) 12 rfl rfl (by kernel_rfl) (by kernel_rfl) (by kernel_rfl) (fun _ _ _ h => h) (Or.inl ⟨by rfl, ?_⟩) (by assumption) ?_
    rotate_left 1
    · (intro w hSw; (try dsimp only at hSw); go_simp; (try with_reducible rfl))
    try simp only [Act.put, List.setIfInBounds_toArray, List.set_cons_zero, List.set_cons_succ]
    refine takeD (i := 1) (v := ?_) 13 rfl rfl (by kernel_rfl) (by kernel_rfl) (by kernel_rfl) (fun _ _ _ h => h) (Or.inl ⟨by rfl, ?_⟩) (by assumption) ?_
    rotate_left 1
    · (intro w hSw; (try dsimp only at hSw); go_simp; (try with_reducible rfl))
    try simp only [Act.put, List.setIfInBounds_toArray, List.set_cons_zero, List.set_cons_succ]
    refine takeD (i := 2) (v := ?_) 14 rfl rfl (by kernel_rfl) (by kernel_rfl) (by kernel_rfl) (fun _ _ _ h => h) (Or.inl ⟨by rfl, ?_⟩) (by assumption) ?_
    rotate_left 1
    · (intro w hSw; (try dsimp only at hSw); go_simp; (try with_reducible rfl))
    try simp only [Act.put, List.setIfInBounds_toArray, List.set_cons_zero, List.set_cons_succ]
    refine takeD (i := 3) (v := ?_) 15 rfl rfl (by kernel_rfl) (by kernel_rfl) (by kernel_rfl) (fun _ _ _ h => h) (Or.inl ⟨by rfl, ?_⟩) (by assumption) ?_
    rotate_left 1
    · (intro w hSw; (try dsimp only at hSw); go_simp; (try with_reducible rfl))
    try simp only [Act.put, List.setIfInBounds_toArray, List.set_cons_zero, List.set_cons_succ]
    refine takeD (i := 4) (v := ?_) 16 rfl rfl (by kernel_rfl) (by kernel_rfl) (by kernel_rfl) (fun _ _ _ h => h) (Or.inl ⟨by rfl, ?_⟩) (by assumption) ?_
    rotate_left 1
    · (intro w hSw; (try dsimp only at hSw); go_simp; (try with_reducible rfl))
    try simp only [Act.put, List.setIfInBounds_toArray, List.set_cons_zero, List.set_cons_succ]
    refine wpAnyH_ready (rs := [5, 6]) (by kernel_rfl) (by simp) ?_
    refine AllReadyH.cons (o := _) rfl (fun K hK => ?_) (AllReadyH.cons (o := _) rfl (fun K hK => ?_) AllReadyH.nil)
    · go_simp
      go_at_call 74
      (with_reducible refine (HRS.out _).mono ?_)
      rintro e w2 ⟨rfl, hb2⟩
      rw [← HR.out]
      have T2 := mvI_to hb2 HT0.out rfl rfl rfl rfl
      obtain ⟨-, -, -, -, -, -, -, -, x8, x9, x10, x11, x12, x13, x14, x15, -, -, -, -, -, -, -, -⟩ := T2.1.all
      have hl2 := T2.1.lt
      dsimp only
      refine hK.out _ _ (by refine ⟨?_, ?_, ?_, ?_, ?_, ?_, ?_, ?_⟩ <;> first | with_reducible assumption | assumption) (fun hHeld1 => ?_)
      clear hK
      try simp only [Act.put, List.setIfInBounds_toArray, List.set_cons_zero, List.set_cons_succ]
      refine wpAnyH_ready (rs := [6]) (by kernel_rfl) (by simp) ?_
      refine AllReadyH.cons (o := _) rfl (fun K hK => ?_) AllReadyH.nil
      go_simp
      have TA := mvI_to (w0 := w2) ((Below.refl _ _).alloc (Nat.le_refl _) (.cells #[.int .i64 0, .int .i64 0, .int .i64 0, .int .i64 0, .int .i64 0, .int .i64 0, .int .i64 0, .int .i64 0] 57)) T2 rfl rfl rfl rfl
      obtain ⟨-, -, -, -, -, -, -, -, y8, y9, y10, y11, y12, y13, y14, y15, -, -, -, -, -, -, -, -⟩ := TA.1.all
      refine hK.out _ _ (by refine ⟨?_, ?_, ?_, ?_, ?_, ?_, ?_, ?_⟩ <;> first | with_reducible assumption | assumption) (fun hHeld2 => ?_)
      clear hK
      try simp only [Act.put, List.setIfInBounds_toArray, List.set_cons_zero, List.set_cons_succ]
      refine wpAnyH_ready (rs := [7]) (by kernel_rfl) (by simp) ?_
      refine AllReadyH.cons (o := _) rfl (fun K hK => ?_) AllReadyH.nil
      go_simp
      have SF := IsS.new (w := w2) (s := r) (ty := 57)
      have TF := mvI_to (w0 := w2) ((Below.refl _ _).alloc (Nat.le_refl _) (.cells #[.int .i64 r.x, .int .i64 r.y, .int .i64 r.d.t, .int .i64 r.d.n, .int .i64 r.d.e, .int .i64 r.d.s, .int .i64 r.d.w, .int .i64 r.d.b] 57)) T2 rfl rfl rfl rfl
      obtain ⟨-, -, -, -, -, -, -, -, z8, z9, z10, z11, z12, z13, z14, z15, -, -, -, -, -, -, -, -⟩ := TF.1.all
      refine hK.out _ _ (by refine ⟨?_, ?_, ?_, ?_, ?_, ?_, ?_, ?_⟩ <;> first | with_reducible assumption | assumption) (fun hHeld3 => ?_)
      clear hK
      try simp only [Act.put, List.setIfInBounds_toArray, List.set_cons_zero, List.set_cons_succ]
      refine wpAnyH_done (by kernel_rfl) ?_ _
      go_wp2_with fail
      go_meet
      exact ⟨_, rfl, SF, TF⟩
    · go_simp
      obtain ⟨-, -, -, -, -, -, -, -, y8, y9, y10, y11, y12, y13, y14, y15, -, -, -, -, -, -, -, -⟩ := HTA.out.1.all
      refine hK.out _ _ (by refine ⟨?_, ?_, ?_, ?_, ?_, ?_, ?_, ?_⟩ <;> first | with_reducible assumption | assumption) (fun hHeld1 => ?_)
      clear hK
      try simp only [Act.put, List.setIfInBounds_toArray, List.set_cons_zero, List.set_cons_succ]
      refine wpAnyH_ready (rs := [5]) (by kernel_rfl) (by simp) ?_
      refine AllReadyH.cons (o := _) rfl (fun K hK => ?_) AllReadyH.nil
      go_simp
      go_at_call 74
      (with_reducible refine (HRS.out _).mono ?_)
      rintro e w2 ⟨rfl, hb2⟩
      rw [← HR.out]
      have T2 := mvI_to hb2 HTA.out rfl rfl rfl rfl
      have R2 := isS_to hb2 HRA.out rfl
      have hb02 : Below W0.heap.size W0 w2 := below_to hb2 ((Below.refl W0.heap.size W0).alloc (Nat.le_refl _) (.cells #[.int .i64 0, .int .i64 0, .int .i64 0, .int .i64 0, .int .i64 0, .int .i64 0, .int .i64 0, .int .i64 0] 57)) (by simp) rfl rfl rfl rfl
      clear hb2
      obtain ⟨-, -, -, -, -, -, -, -, x8, x9, x10, x11, x12, x13, x14, x15, -, -, -, -, -, -, -, -⟩ := T2.1.all
      dsimp only
      refine hK.out _ _ (by refine ⟨?_, ?_, ?_, ?_, ?_, ?_, ?_, ?_⟩ <;> first | with_reducible assumption | assumption) (fun hHeld2 => ?_)
      clear hK
      try simp only [Act.put, List.setIfInBounds_toArray, List.set_cons_zero, List.set_cons_succ]
      obtain ⟨lr, ⟨r0, r1, r2, r3, r4, r5, r6, r7⟩, e0, e1, e2, e3, e4, e5, e6, e7⟩ := R2.all
      refine wpAnyH_ready (rs := [7]) (by kernel_rfl) (by simp) ?_
      refine AllReadyH.cons (o := _) rfl (fun K hK => ?_) AllReadyH.nil
      go_simp
      have SF := R2.set8 r
      have TF := mvI_to (w0 := W0) (below_set8 hb02 (Nat.le_refl _) r) HT0.out rfl rfl rfl rfl
      clear r0 r1 r2 r3 r4 r5 r6 r7
      obtain ⟨-, -, -, -, -, -, -, -, z8, z9, z10, z11, z12, z13, z14, z15, -, -, -, -, -, -, -, -⟩ := TF.1.all
      refine hK.out _ _ (by refine ⟨?_, ?_, ?_, ?_, ?_, ?_, ?_, ?_⟩ <;> first | with_reducible assumption | assumption) (fun hHeld3 => ?_)
      clear hK
      try simp only [Act.put, List.setIfInBounds_toArray, List.set_cons_zero, List.set_cons_succ]
      refine wpAnyH_done (by kernel_rfl) ?_ _
      go_wp2_with fail
      go_meet
      exact ⟨_, rfl, SF, TF⟩
  obtain ⟨B8, rfl, SF, TF⟩ := hcut
  have hlB : B8 < wc.heap.size := SF.lt
  have HSF := hide SF
  have HTF := hide TF
  have hbx := TF.2.2.1.2.1
  obtain ⟨_, ⟨s0, s1, s2, s3, s4, s5, s6, s7⟩, -⟩ := SF.all
  have HRB := hide (show RowsAt wc.drew gR (rowsB s) from TF.2.2.1.2.2)
  obtain ⟨cc, hcc⟩ : ∃ cc, cc = cellI (splitP s.data.toList) r.x r.y := ⟨_, rfl⟩
  have HCC := hide hcc
  have hq0 : decide ((cc.toNat : Int) = 46) = true := by
    have := HF.out
    unfold floorL at this
    rw [← HR.out, ← hcc] at this
    exact this
  have hq1 := eq46' hq0
  have hq2 : (((cc.toNat : Nat) : Int) != 46) = false := by rw [bne, hq1]; rfl
  clear hcc hq0 SF TF
  have HIN := hide (show inAny [a, b, c] r.x r.y = false from by rw [HR.out]; exact hin2)
  clear hin hin2
  go_upto_region 3 with (fail)
  refine wp_region_held_drew (S := (fun w' => w'.cell? ⟨Br, 0, none⟩ = some (.slice (some ⟨gR, 0, none⟩) (rowsB s).length (rowsB s).length) ∧ w'.cell? ⟨B8, 0, none⟩ = some (.int .i64 r.x) ∧ w'.cell? ⟨B8, 1, none⟩ = some (.int .i64 r.y) ∧ w'.cell? ⟨B8, 2, none⟩ = some (.int .i64 r.d.t) ∧ w'.cell? ⟨B8, 3, none⟩ = some (.int .i64 r.d.n) ∧ w'.cell? ⟨B8, 4, none⟩ = some (.int .i64 r.d.e) ∧ w'.cell? ⟨B8, 5, none⟩ = some (.int .i64 r.d.s) ∧ w'.cell? ⟨B8, 6, none⟩ = some (.int .i64 r.d.w) ∧ w'.cell? ⟨B8, 7, none⟩ = some (.int .i64 r.d.b))) (by kernel_rfl) (by refine ⟨?_, ?_, ?_, ?_, ?_, ?_, ?_, ?_, ?_⟩ <;> assumption) (fun hHeld => ?_)
  refine takeD (i := 0) (v := ?_) 18 rfl rfl (by kernel_rfl) (by kernel_rfl) (by kernel_rfl) (fun _ _ _ h => h) (Or.inl ⟨by rfl, ?_⟩) (by assumption) ?_
  rotate_left 1
  · (intro w hSw; (try dsimp only at hSw); go_simp; (try with_reducible rfl))
  try simp only [Act.put, List.setIfInBounds_toArray, List.set_cons_zero, List.set_cons_succ]
  refine takeD (i := 1) (v := ?_) 19 rfl rfl (by kernel_rfl) (by kernel_rfl) (by kernel_rfl) (fun _ _ _ h => h) (Or.inl ⟨by rfl, ?_⟩) (by assumption) ?_
  rotate_left 1
  · (intro w hSw; (try dsimp only at hSw); go_simp; (try with_reducible rfl))
  try simp only [Act.put, List.setIfInBounds_toArray, List.set_cons_zero, List.set_cons_succ]
  refine takeD (i := 2) (v := ?_) 20 rfl rfl (by kernel_rfl) (by kernel_rfl) (by kernel_rfl) (fun _ _ _ h => h) (Or.inl ⟨by rfl, ?_⟩) (by assumption) ?_
  rotate_left 1
  · (intro w hSw; (try dsimp only at hSw); go_simp; (try with_reducible rfl))
  try simp only [Act.put, List.setIfInBounds_toArray, List.set_cons_zero, List.set_cons_succ]
  refine takeD (i := 3) (v := ?_) 21 rfl rfl (by kernel_rfl) (by kernel_rfl) (by kernel_rfl) (fun _ _ _ h => h) (Or.inl ⟨by rfl, ?_⟩) (by assumption) ?_
  rotate_left 1
  · (intro w hSw; (try dsimp only at hSw); go_simp; (try with_reducible rfl))
  try simp only [Act.put, List.setIfInBounds_toArray, List.set_cons_zero, List.set_cons_succ]
  refine takeD (i := 4) (v := ?_) 22 rfl rfl (by kernel_rfl) (by kernel_rfl) (by kernel_rfl) (fun _ _ _ h => h) (Or.inl ⟨by rfl, ?_⟩) (by assumption) ?_
  rotate_left 1
  · (intro w hSw; (try dsimp only at hSw); go_simp; (try with_reducible rfl))
  try simp only [Act.put, List.setIfInBounds_toArray, List.set_cons_zero, List.set_cons_succ]
  refine wpAnyH_ready (rs := [5]) (by kernel_rfl) (by simp) ?_
  refine AllReadyH.cons (o := _) rfl (fun K hK => ?_) AllReadyH.nil
  go_simp
  go_at_call 75
  (with_reducible refine (HCA.out _ r.x r.y HRB.out).mono ?_)
  rintro e w3 ⟨rfl, rfl⟩
  rw [← HCC.out]
  dsimp only
  refine hK.out _ _ (by refine ⟨?_, ?_, ?_, ?_, ?_, ?_, ?_, ?_, ?_⟩ <;> assumption) (fun hHeld_1 => ?_)
  clear hK
  try simp only [Act.put, List.setIfInBounds_toArray, List.set_cons_zero, List.set_cons_succ]
  refine takeD (i := 6) (v := ?_) 24 rfl rfl (by kernel_rfl) (by kernel_rfl) (by kernel_rfl) (fun _ _ _ h => h) (Or.inl ⟨by rfl, ?_⟩) (by assumption) ?_
  rotate_left 1
  · (intro w hSw; (try dsimp only at hSw); go_simp; (try with_reducible rfl))
  try simp only [Act.put, List.setIfInBounds_toArray, List.set_cons_zero, List.set_cons_succ]
  refine takeD (i := 7) (v := ?_) 25 rfl rfl (by kernel_rfl) (by kernel_rfl) (by kernel_rfl) (fun _ _ _ h => h) (Or.inl ⟨by rfl, ?_⟩) (by assumption) ?_
  rotate_left 1
  · (intro w hSw; (try dsimp only at hSw); go_simp; (try with_reducible rfl))
  try simp only [Act.put, List.setIfInBounds_toArray, List.set_cons_zero, List.set_cons_succ]
  refine takeD (i := 8) (v := ?_) 26 rfl rfl (by kernel_rfl) (by kernel_rfl) (by kernel_rfl) (fun _ _ _ h => h) (Or.inl ⟨by rfl, ?_⟩) (by assumption) ?_
  rotate_left 1
  · (intro w hSw; (try dsimp only at hSw); go_simp; (try with_reducible rfl))
  try simp only [Act.put, List.setIfInBounds_toArray, List.set_cons_zero, List.set_cons_succ]
  refine takeD (i := 9) (v := ?_) 27 rfl rfl (by kernel_rfl) (by kernel_rfl) (by kernel_rfl) (fun _ _ _ h => h) (Or.inl ⟨by rfl, ?_⟩) (by assumption) ?_
  rotate_left 1
  · (intro w hSw; (try dsimp only at hSw); go_simp; (try with_reducible rfl))
  try simp only [Act.put, List.setIfInBounds_toArray, List.set_cons_zero, List.set_cons_succ]
  refine wpAnyH_ready (rs := [10]) (by kernel_rfl) (by simp) ?_
  refine AllReadyH.cons (o := _) rfl (fun K hK => ?_) AllReadyH.nil
  go_simp
  go_at_call 65
  (with_reducible refine (inCellOf_any r _).mono ?_)
  rintro e w4 ⟨B2, rfl, hC4, hb4⟩
  have HC4 := hide hC4
  have HT4 := hide (mvI_to hb4 HTF.out rfl rfl rfl rfl)
  have HS4 := hide (isS_to hb4 HSF.out rfl)
  have HD4 := hide (stAt_p HT4.out.1)
  have hbx4 := HT4.out.2.2.1.2.1
  clear hb4 hC4
  obtain ⟨_, ⟨y0, y1, y2, y3, y4, y5, y6, y7⟩, -⟩ := HS4.out.all
  dsimp only
  refine hK.out _ _ (by refine ⟨?_, ?_, ?_, ?_, ?_, ?_, ?_, ?_, ?_⟩ <;> assumption) (fun hHeld_2 => ?_)
  clear hK
  try simp only [Act.put, List.setIfInBounds_toArray, List.set_cons_zero, List.set_cons_succ]
  refine wpAnyH_ready (rs := [11]) (by kernel_rfl) (by simp) ?_
  refine AllReadyH.cons (o := _) rfl (fun K hK => ?_) AllReadyH.nil
  go_simp
  go_at_call 64
  (with_reducible refine (hasIn_any [a, b, c] 3 w.heap.size 3 B2 r _ rfl (by omega) HD4.out HC4.out).mono ?_)
  rintro e w5 ⟨rfl, hb5⟩
  rw [HIN.out]
  have HT5 := hide (mvI_to hb5 HT4.out rfl rfl rfl rfl)
  have HS5 := hide (isS_to hb5 HS4.out rfl)
  have hbx5 := HT5.out.2.2.1.2.1
  clear hb5
  obtain ⟨_, ⟨t0, t1, t2, t3, t4, t5, t6, t7⟩, -⟩ := HS5.out.all
  dsimp only
  refine hK.out _ _ (by refine ⟨?_, ?_, ?_, ?_, ?_, ?_, ?_, ?_, ?_⟩ <;> assumption) (fun hHeld_3 => ?_)
  clear hK
  try simp only [Act.put, List.setIfInBounds_toArray, List.set_cons_zero, List.set_cons_succ]
  refine takeD (i := 12) (v := ?_) 30 rfl rfl (by kernel_rfl) (by kernel_rfl) (by kernel_rfl) (fun _ _ _ h => h) (Or.inl ⟨by rfl, ?_⟩) (by assumption) ?_
  rotate_left 1
  · (intro w hSw; (try dsimp only at hSw); go_simp; (try with_reducible rfl))
  try simp only [Act.put, List.setIfInBounds_toArray, List.set_cons_zero, List.set_cons_succ]
  refine wpAnyH_done (by kernel_rfl) ?_ _

  obtain ⟨-, -, -, -, -, -, -, -, p8, p9, p10, p11, p12, p13, p14, p15, -, -, -, -, -, -, -, -⟩ := HT5.out.1.all
  have hfr := HT5.out.1.free
  have f0 := hfr 8
  have f1 := hfr 9
  have f2 := hfr 10
  have f3 := hfr 11
  have f4 := hfr 12
  have f5 := hfr 13
  have f6 := hfr 14
  have f7 := hfr 15
  have P1 := HT5.out.1.put1 r
  have P2 : IsP _ (w.heap.size + 1) ⟨0, 0, ⟨0, 0, 0, 0, 0, 0⟩⟩ ⟨0, 0, ⟨0, 0, 0, 0, 0, 0⟩⟩ ⟨0, 0, ⟨0, 0, 0, 0, 0, 0⟩⟩ := ((((((((HT5.out.2.1.other (p := ⟨w.heap.size, 8, none⟩) (by simp) (.int .i64 r.x)).other (p := ⟨w.heap.size, 9, none⟩) (by simp) (.int .i64 r.y)).other (p := ⟨w.heap.size, 10, none⟩) (by simp) (.int .i64 r.d.t)).other (p := ⟨w.heap.size, 11, none⟩) (by simp) (.int .i64 r.d.n)).other (p := ⟨w.heap.size, 12, none⟩) (by simp) (.int .i64 r.d.e)).other (p := ⟨w.heap.size, 13, none⟩) (by simp) (.int .i64 r.d.s)).other (p := ⟨w.heap.size, 14, none⟩) (by simp) (.int .i64 r.d.w)).other (p := ⟨w.heap.size, 15, none⟩) (by simp) (.int .i64 r.d.b))
  have q1 := below_put HT5.out.2.2.2 (Nat.le_refl _) (.int .i64 r.x) (.int .i64 r.y) (.int .i64 r.d.t) (.int .i64 r.d.n) (.int .i64 r.d.e) (.int .i64 r.d.s) (.int .i64 r.d.w) (.int .i64 r.d.b) 8 9 10 11 12 13 14 15
  clear hfr
  go_upto_region 6 with (fail)
  have HP1 := hide P1
  have HP2 := hide P2
  have q2 := hide q1
  clear P1 P2 q1 p8 p9 p10 p11 p12 p13 p14 p15
  generalize ((((((((w5.setCell ⟨w.heap.size, 8, none⟩ (.int .i64 r.x)).setCell ⟨w.heap.size, 9, none⟩ (.int .i64 r.y)).setCell ⟨w.heap.size, 10, none⟩ (.int .i64 r.d.t)).setCell ⟨w.heap.size, 11, none⟩ (.int .i64 r.d.n)).setCell ⟨w.heap.size, 12, none⟩ (.int .i64 r.d.e)).setCell ⟨w.heap.size, 13, none⟩ (.int .i64 r.d.s)).setCell ⟨w.heap.size, 14, none⟩ (.int .i64 r.d.w)).setCell ⟨w.heap.size, 15, none⟩ (.int .i64 r.d.b)) = W6 at HP1 HP2 q2 ⊢
  have R1 := hide (show IsP (W6.setRow (w.heap.size + 1) #[.int .i64 a.x, .int .i64 a.y, .int .i64 a.d.t, .int .i64 a.d.n, .int .i64 a.d.e, .int .i64 a.d.s, .int .i64 a.d.w, .int .i64 a.d.b, .int .i64 r.x, .int .i64 r.y, .int .i64 r.d.t, .int .i64 r.d.n, .int .i64 r.d.e, .int .i64 r.d.s, .int .i64 r.d.w, .int .i64 r.d.b, .int .i64 c.x, .int .i64 c.y, .int .i64 c.d.t, .int .i64 c.d.n, .int .i64 c.d.e, .int .i64 c.d.s, .int .i64 c.d.w, .int .i64 c.d.b]) (w.heap.size + 1) a r c from setRow_heap W6 _ _ _ _ _ HP2.out)
  have q3 := hide (below_setRow q2.out (show w.heap.size ≤ w.heap.size + 1 by omega) #[.int .i64 a.x, .int .i64 a.y, .int .i64 a.d.t, .int .i64 a.d.n, .int .i64 a.d.e, .int .i64 a.d.s, .int .i64 a.d.w, .int .i64 a.d.b, .int .i64 r.x, .int .i64 r.y, .int .i64 r.d.t, .int .i64 r.d.n, .int .i64 r.d.e, .int .i64 r.d.s, .int .i64 r.d.w, .int .i64 r.d.b, .int .i64 c.x, .int .i64 c.y, .int .i64 c.d.t, .int .i64 c.d.n, .int .i64 c.d.e, .int .i64 c.d.s, .int .i64 c.d.w, .int .i64 c.d.b])
  go_wp2_with (first | (refine wpList_load_row rfl 70 (.tmp 3) rfl w.heap.size rfl _ _ _ _ HP1.out und_group rfl size_group ?_) | (refine wpList_store_row rfl 70 (.tmp 5) (.tmp 35) rfl (w.heap.size + 1) #[.int .i64 a.x, .int .i64 a.y, .int .i64 a.d.t, .int .i64 a.d.n, .int .i64 a.d.e, .int .i64 a.d.s, .int .i64 a.d.w, .int .i64 a.d.b, .int .i64 r.x, .int .i64 r.y, .int .i64 r.d.t, .int .i64 r.d.n, .int .i64 r.d.e, .int .i64 r.d.s, .int .i64 r.d.w, .int .i64 r.d.b, .int .i64 c.x, .int .i64 c.y, .int .i64 c.d.t, .int .i64 c.d.n, .int .i64 c.d.e, .int .i64 c.d.s, .int .i64 c.d.w, .int .i64 c.d.b] rfl rfl _ _ HP2.out (by kernel_rfl) (by kernel_rfl) (by kernel_rfl) ?_))
  exact bodyPost_ret (ret_group2 Tryd.results72 rfl rfl R1.out) rfl ⟨by rw [HR.out], q3.out⟩
set_option maxHeartbeats 3200000 in
theorem mvNo_2 (a b c : St) (d : UInt8) (Br gR : Nat) (s : ByteArray) (w : World) (hs : s.size ≤ 1048576) (hb : isBd s.data.toList = true) (hd : 0 ≤ dirIx d.toNat) (hx : -100000 ≤ c.x ∧ c.x ≤ 100000) (hy : -100000 ≤ c.y ∧ c.y ≤ 100000) (hR : RowsBox w Br gR s) (hf : floorL s.data.toList (rollT c (dirIx d.toNat)).x (rollT c (dirIx d.toNat)).y = false) : Calls Tryd.prog 72 #[gV a b c, .string ⟨#[50, d]⟩, .pointer (some ⟨Br, 0, none⟩)] w fun e w' => e = .returned (.tuple #[gV ⟨0, 0, ⟨0, 0, 0, 0, 0, 0⟩⟩ ⟨0, 0, ⟨0, 0, 0, 0, 0, 0⟩⟩ ⟨0, 0, ⟨0, 0, 0, 0, 0, 0⟩⟩, .bool false]) ∧ Below w.heap.size w w' := by
  have HF := hide hf
  clear hf
  have q0 : Below w.heap.size w ((w.alloc (.cells #[.int .i64 a.x, .int .i64 a.y, .int .i64 a.d.t, .int .i64 a.d.n, .int .i64 a.d.e, .int .i64 a.d.s, .int .i64 a.d.w, .int .i64 a.d.b, .int .i64 b.x, .int .i64 b.y, .int .i64 b.d.t, .int .i64 b.d.n, .int .i64 b.d.e, .int .i64 b.d.s, .int .i64 b.d.w, .int .i64 b.d.b, .int .i64 c.x, .int .i64 c.y, .int .i64 c.d.t, .int .i64 c.d.n, .int .i64 c.d.e, .int .i64 c.d.s, .int .i64 c.d.w, .int .i64 c.d.b] 70)).alloc (.cells #[.int .i64 0, .int .i64 0, .int .i64 0, .int .i64 0, .int .i64 0, .int .i64 0, .int .i64 0, .int .i64 0, .int .i64 0, .int .i64 0, .int .i64 0, .int .i64 0, .int .i64 0, .int .i64 0, .int .i64 0, .int .i64 0, .int .i64 0, .int .i64 0, .int .i64 0, .int .i64 0, .int .i64 0, .int .i64 0, .int .i64 0, .int .i64 0] 70)) := by go_grown
  have T0 : MvI w ((w.alloc (.cells #[.int .i64 a.x, .int .i64 a.y, .int .i64 a.d.t, .int .i64 a.d.n, .int .i64 a.d.e, .int .i64 a.d.s, .int .i64 a.d.w, .int .i64 a.d.b, .int .i64 b.x, .int .i64 b.y, .int .i64 b.d.t, .int .i64 b.d.n, .int .i64 b.d.e, .int .i64 b.d.s, .int .i64 b.d.w, .int .i64 b.d.b, .int .i64 c.x, .int .i64 c.y, .int .i64 c.d.t, .int .i64 c.d.n, .int .i64 c.d.e, .int .i64 c.d.s, .int .i64 c.d.w, .int .i64 c.d.b] 70)).alloc (.cells #[.int .i64 0, .int .i64 0, .int .i64 0, .int .i64 0, .int .i64 0, .int .i64 0, .int .i64 0, .int .i64 0, .int .i64 0, .int .i64 0, .int .i64 0, .int .i64 0, .int .i64 0, .int .i64 0, .int .i64 0, .int .i64 0, .int .i64 0, .int .i64 0, .int .i64 0, .int .i64 0, .int .i64 0, .int .i64 0, .int .i64 0, .int .i64 0] 70)) Br gR s a b c := ⟨(IsP.new (w := w) (a := a) (b := b) (c := c)).alloc (.cells #[.int .i64 0, .int .i64 0, .int .i64 0, .int .i64 0, .int .i64 0, .int .i64 0, .int .i64 0, .int .i64 0, .int .i64 0, .int .i64 0, .int .i64 0, .int .i64 0, .int .i64 0, .int .i64 0, .int .i64 0, .int .i64 0, .int .i64 0, .int .i64 0, .int .i64 0, .int .i64 0, .int .i64 0, .int .i64 0, .int .i64 0, .int .i64 0] 70), IsP.new2 (w := w) (o := (.cells #[.int .i64 a.x, .int .i64 a.y, .int .i64 a.d.t, .int .i64 a.d.n, .int .i64 a.d.e, .int .i64 a.d.s, .int .i64 a.d.w, .int .i64 a.d.b, .int .i64 b.x, .int .i64 b.y, .int .i64 b.d.t, .int .i64 b.d.n, .int .i64 b.d.e, .int .i64 b.d.s, .int .i64 b.d.w, .int .i64 b.d.b, .int .i64 c.x, .int .i64 c.y, .int .i64 c.d.t, .int .i64 c.d.n, .int .i64 c.d.e, .int .i64 c.d.s, .int .i64 c.d.w, .int .i64 c.d.b] 70)) (a := ⟨0, 0, ⟨0, 0, 0, 0, 0, 0⟩⟩) (b := ⟨0, 0, ⟨0, 0, 0, 0, 0, 0⟩⟩) (c := ⟨0, 0, ⟨0, 0, 0, 0, 0, 0⟩⟩), rowsBox_to (w0 := w) q0 hR rfl, q0⟩
  generalize hW : (w.alloc (.cells #[.int .i64 a.x, .int .i64 a.y, .int .i64 a.d.t, .int .i64 a.d.n, .int .i64 a.d.e, .int .i64 a.d.s, .int .i64 a.d.w, .int .i64 a.d.b, .int .i64 b.x, .int .i64 b.y, .int .i64 b.d.t, .int .i64 b.d.n, .int .i64 b.d.e, .int .i64 b.d.s, .int .i64 b.d.w, .int .i64 b.d.b, .int .i64 c.x, .int .i64 c.y, .int .i64 c.d.t, .int .i64 c.d.n, .int .i64 c.d.e, .int .i64 c.d.s, .int .i64 c.d.w, .int .i64 c.d.b] 70)).alloc (.cells #[.int .i64 0, .int .i64 0, .int .i64 0, .int .i64 0, .int .i64 0, .int .i64 0, .int .i64 0, .int .i64 0, .int .i64 0, .int .i64 0, .int .i64 0, .int .i64 0, .int .i64 0, .int .i64 0, .int .i64 0, .int .i64 0, .int .i64 0, .int .i64 0, .int .i64 0, .int .i64 0, .int .i64 0, .int .i64 0, .int .i64 0, .int .i64 0] 70) = W0 at T0
  have HW := hide hW
  clear hW q0 hR
  obtain ⟨r, hr⟩ : ∃ r, r = rollT c (dirIx d.toNat) := ⟨_, rfl⟩
  have HR := hide hr
  have HX := hide hx
  have HY := hide hy
  have HD := hide hd
  have HCA := hide (fun (wx : World) (x y : Int) (ha : RowsAt wx gR (rowsB s)) => cellAtL_any s gR x y wx hs hb ha)
  have HIX := hide (show ∀ wx : World, Calls Tryd.prog 73 #[.string ⟨#[48, 49, 50]⟩, .int .u8 50] wx fun e w' => e = .returned (.int .i64 2) ∧ wx = w' from fun wx => (indexIn_any ⟨#[48, 49, 50]⟩ 50 wx).mono fun e w' h => ⟨h.1.trans (congrArg (fun x => Ending.returned (.int .i64 x)) (by decide)), h.2⟩)
  clear hr hx hy hd hb hs
  have HT0 := hide T0
  obtain ⟨c0, c1, c2, c3, c4, c5, c6, c7, c8, c9, c10, c11, c12, c13, c14, c15, c16, c17, c18, c19, c20, c21, c22, c23⟩ := T0.1.all
  clear T0 c0 c1 c2 c3 c4 c5 c6 c7 c8 c9 c10 c11 c12 c13 c14 c15
  go_enter Tryd.func72, Tryd.ntmps72
  go_upto_region 1 with (fail)
  rw [HW.out]
  go_upto_region 2 with (go_at_call 73; refine (HIX.out _).mono ?_; rintro e w' ⟨rfl, rfl⟩)
  have em : (⟨#[50, d]⟩ : ByteArray)[1]'(by show 1 < 2; omega) = d := rfl
  have hl0 := HT0.out.1.lt
  have HRA := hide (IsS.new (w := W0) (s := ⟨0, 0, ⟨0, 0, 0, 0, 0, 0⟩⟩) (ty := 57))
  have HTA := hide (show MvI w (W0.alloc (.cells #[.int .i64 0, .int .i64 0, .int .i64 0, .int .i64 0, .int .i64 0, .int .i64 0, .int .i64 0, .int .i64 0] 57)) Br gR s a b c from mvI_to (w0 := W0) ((Below.refl _ _).alloc (Nat.le_refl _) _) HT0.out rfl rfl rfl rfl)
  have HRS := hide (fun wx => rolledState_any d c wx HD.out HX.out HY.out)
  go_cut [8] from 12 to 18 (fun t8 wx => ∃ B8, t8 = .pointer (some ⟨B8, 0, none⟩) ∧ IsS wx B8 r 57 ∧ MvI w wx Br gR s a b c)
  case first =>
    refine wp_region_held_drew (S := (fun w' => w'.cell? ⟨w.heap.size, 16, none⟩ = some (.int .i64 c.x) ∧ w'.cell? ⟨w.heap.size, 17, none⟩ = some (.int .i64 c.y) ∧ w'.cell? ⟨w.heap.size, 18, none⟩ = some (.int .i64 c.d.t) ∧ w'.cell? ⟨w.heap.size, 19, none⟩ = some (.int .i64 c.d.n) ∧ w'.cell? ⟨w.heap.size, 20, none⟩ = some (.int .i64 c.d.e) ∧ w'.cell? ⟨w.heap.size, 21, none⟩ = some (.int .i64 c.d.s) ∧ w'.cell? ⟨w.heap.size, 22, none⟩ = some (.int .i64 c.d.w) ∧ w'.cell? ⟨w.heap.size, 23, none⟩ = some (.int .i64 c.d.b))) (by kernel_rfl) (by refine ⟨?_, ?_, ?_, ?_, ?_, ?_, ?_, ?_⟩ <;> first | with_reducible assumption | assumption) (fun hHeld => ?_)
    refine takeD (i := 0) (v := ?_) 12 rfl rfl (by kernel_rfl) (by kernel_rfl) (by kernel_rfl) (fun _ _ _ h => h) (Or.inl ⟨by rfl, ?_⟩) (by assumption) ?_
    rotate_left 1
    · (intro w hSw; (try dsimp only at hSw); go_simp; (try with_reducible rfl))
    try simp only [Act.put, List.setIfInBounds_toArray, List.set_cons_zero, List.set_cons_succ]
    refine takeD (i := 1) (v := ?_) 13 rfl rfl (by kernel_rfl) (by kernel_rfl) (by kernel_rfl) (fun _ _ _ h => h) (Or.inl ⟨by rfl, ?_⟩) (by assumption) ?_
    rotate_left 1
    · (intro w hSw; (try dsimp only at hSw); go_simp; (try with_reducible rfl))
    try simp only [Act.put, List.setIfInBounds_toArray, List.set_cons_zero, List.set_cons_succ]
    refine takeD (i := 2) (v := ?_) 14 rfl rfl (by kernel_rfl) (by kernel_rfl) (by kernel_rfl) (fun _ _ _ h => h) (Or.inl ⟨by rfl, ?_⟩) (by assumption) ?_
    rotate_left 1
    · (intro w hSw; (try dsimp only at hSw); go_simp; (try with_reducible rfl))
    try simp only [Act.put, List.setIfInBounds_toArray, List.set_cons_zero, List.set_cons_succ]
    refine takeD (i := 3) (v := ?_) 15 rfl rfl (by kernel_rfl) (by kernel_rfl) (by kernel_rfl) (fun _ _ _ h => h) (Or.inl ⟨by rfl, ?_⟩) (by assumption) ?_
    rotate_left 1
    · (intro w hSw; (try dsimp only at hSw); go_simp; (try with_reducible rfl))
    try simp only [Act.put, List.setIfInBounds_toArray, List.set_cons_zero, List.set_cons_succ]
    refine takeD (i := 4) (v := ?_) 16 rfl rfl (by kernel_rfl) (by kernel_rfl) (by kernel_rfl) (fun _ _ _ h => h) (Or.inl ⟨by rfl, ?_⟩) (by assumption) ?_
    rotate_left 1
    · (intro w hSw; (try dsimp only at hSw); go_simp; (try with_reducible rfl))
    try simp only [Act.put, List.setIfInBounds_toArray, List.set_cons_zero, List.set_cons_succ]
    refine wpAnyH_ready (rs := [5, 6]) (by kernel_rfl) (by simp) ?_
    refine AllReadyH.cons (o := _) rfl (fun K hK => ?_) (AllReadyH.cons (o := _) rfl (fun K hK => ?_) AllReadyH.nil)
    · go_simp
      go_at_call 74
      (with_reducible refine (HRS.out _).mono ?_)
      rintro e w2 ⟨rfl, hb2⟩
      rw [← HR.out]
      have T2 := mvI_to hb2 HT0.out rfl rfl rfl rfl
      obtain ⟨-, -, -, -, -, -, -, -, -, -, -, -, -, -, -, -, x16, x17, x18, x19, x20, x21, x22, x23⟩ := T2.1.all
      have hl2 := T2.1.lt
      dsimp only
      refine hK.out _ _ (by refine ⟨?_, ?_, ?_, ?_, ?_, ?_, ?_, ?_⟩ <;> first | with_reducible assumption | assumption) (fun hHeld1 => ?_)
      clear hK
      try simp only [Act.put, List.setIfInBounds_toArray, List.set_cons_zero, List.set_cons_succ]
      refine wpAnyH_ready (rs := [6]) (by kernel_rfl) (by simp) ?_
      refine AllReadyH.cons (o := _) rfl (fun K hK => ?_) AllReadyH.nil
      go_simp
      have TA := mvI_to (w0 := w2) ((Below.refl _ _).alloc (Nat.le_refl _) (.cells #[.int .i64 0, .int .i64 0, .int .i64 0, .int .i64 0, .int .i64 0, .int .i64 0, .int .i64 0, .int .i64 0] 57)) T2 rfl rfl rfl rfl
      obtain ⟨-, -, -, -, -, -, -, -, -, -, -, -, -, -, -, -, y16, y17, y18, y19, y20, y21, y22, y23⟩ := TA.1.all
      refine hK.out _ _ (by refine ⟨?_, ?_, ?_, ?_, ?_, ?_, ?_, ?_⟩ <;> first | with_reducible assumption | assumption) (fun hHeld2 => ?_)
      clear hK
      try simp only [Act.put, List.setIfInBounds_toArray, List.set_cons_zero, List.set_cons_succ]
      refine wpAnyH_ready (rs := [7]) (by kernel_rfl) (by simp) ?_
      refine AllReadyH.cons (o := _) rfl (fun K hK => ?_) AllReadyH.nil
      go_simp
      have SF := IsS.new (w := w2) (s := r) (ty := 57)
      have TF := mvI_to (w0 := w2) ((Below.refl _ _).alloc (Nat.le_refl _) (.cells #[.int .i64 r.x, .int .i64 r.y, .int .i64 r.d.t, .int .i64 r.d.n, .int .i64 r.d.e, .int .i64 r.d.s, .int .i64 r.d.w, .int .i64 r.d.b] 57)) T2 rfl rfl rfl rfl
      obtain ⟨-, -, -, -, -, -, -, -, -, -, -, -, -, -, -, -, z16, z17, z18, z19, z20, z21, z22, z23⟩ := TF.1.all
      refine hK.out _ _ (by refine ⟨?_, ?_, ?_, ?_, ?_, ?_, ?_, ?_⟩ <;> first | with_reducible assumption | assumption) (fun hHeld3 => ?_)
      clear hK
      try simp only [Act.put, List.setIfInBounds_toArray, List.set_cons_zero, List.set_cons_succ]
      refine wpAnyH_done (by kernel_rfl) ?_ _
      go_wp2_with fail
      go_meet
      exact ⟨_, rfl, SF, TF⟩
    · go_simp
      obtain ⟨-, -, -, -, -, -, -, -, -, -, -, -, -, -, -, -, y16, y17, y18, y19, y20, y21, y22, y23⟩ := HTA.out.1.all
      refine hK.out _ _ (by refine ⟨?_, ?_, ?_, ?_, ?_, ?_, ?_, ?_⟩ <;> first | with_reducible assumption | assumption) (fun hHeld1 => ?_)
      clear hK
      try simp only [Act.put, List.setIfInBounds_toArray, List.set_cons_zero, List.set_cons_succ]
      refine wpAnyH_ready (rs := [5]) (by kernel_rfl) (by simp) ?_
      refine AllReadyH.cons (o := _) rfl (fun K hK => ?_) AllReadyH.nil
      go_simp
      go_at_call 74
      (with_reducible refine (HRS.out _).mono ?_)
      rintro e w2 ⟨rfl, hb2⟩
      rw [← HR.out]
      have T2 := mvI_to hb2 HTA.out rfl rfl rfl rfl
      have R2 := isS_to hb2 HRA.out rfl
      have hb02 : Below W0.heap.size W0 w2 := below_to hb2 ((Below.refl W0.heap.size W0).alloc (Nat.le_refl _) (.cells #[.int .i64 0, .int .i64 0, .int .i64 0, .int .i64 0, .int .i64 0, .int .i64 0, .int .i64 0, .int .i64 0] 57)) (by simp) rfl rfl rfl rfl
      clear hb2
      obtain ⟨-, -, -, -, -, -, -, -, -, -, -, -, -, -, -, -, x16, x17, x18, x19, x20, x21, x22, x23⟩ := T2.1.all
      dsimp only
      refine hK.out _ _ (by refine ⟨?_, ?_, ?_, ?_, ?_, ?_, ?_, ?_⟩ <;> first | with_reducible assumption | assumption) (fun hHeld2 => ?_)
      clear hK
      try simp only [Act.put, List.setIfInBounds_toArray, List.set_cons_zero, List.set_cons_succ]
      obtain ⟨lr, ⟨r0, r1, r2, r3, r4, r5, r6, r7⟩, e0, e1, e2, e3, e4, e5, e6, e7⟩ := R2.all
      refine wpAnyH_ready (rs := [7]) (by kernel_rfl) (by simp) ?_
      refine AllReadyH.cons (o := _) rfl (fun K hK => ?_) AllReadyH.nil
      go_simp
      have SF := R2.set8 r
      have TF := mvI_to (w0 := W0) (below_set8 hb02 (Nat.le_refl _) r) HT0.out rfl rfl rfl rfl
      clear r0 r1 r2 r3 r4 r5 r6 r7
      obtain ⟨-, -, -, -, -, -, -, -, -, -, -, -, -, -, -, -, z16, z17, z18, z19, z20, z21, z22, z23⟩ := TF.1.all
      refine hK.out _ _ (by refine ⟨?_, ?_, ?_, ?_, ?_, ?_, ?_, ?_⟩ <;> first | with_reducible assumption | assumption) (fun hHeld3 => ?_)
      clear hK
      try simp only [Act.put, List.setIfInBounds_toArray, List.set_cons_zero, List.set_cons_succ]
      refine wpAnyH_done (by kernel_rfl) ?_ _
      go_wp2_with fail
      go_meet
      exact ⟨_, rfl, SF, TF⟩
  obtain ⟨B8, rfl, SF, TF⟩ := hcut
  have hlB : B8 < wc.heap.size := SF.lt
  have HSF := hide SF
  have HTF := hide TF
  have hbx := TF.2.2.1.2.1
  obtain ⟨_, ⟨s0, s1, s2, s3, s4, s5, s6, s7⟩, -⟩ := SF.all
  have HRB := hide (show RowsAt wc.drew gR (rowsB s) from TF.2.2.1.2.2)
  obtain ⟨cc, hcc⟩ : ∃ cc, cc = cellI (splitP s.data.toList) r.x r.y := ⟨_, rfl⟩
  have HCC := hide hcc
  have hq0 : decide ((cc.toNat : Int) = 46) = false := by
    have := HF.out
    unfold floorL at this
    rw [← HR.out, ← hcc] at this
    exact this
  have hq1 := eq46' hq0
  have hq2 : (((cc.toNat : Nat) : Int) != 46) = true := by rw [bne, hq1]; rfl
  clear hcc hq0 SF TF
  go_upto_region 3 with (fail)
  refine wp_region_held_drew (S := (fun w' => w'.cell? ⟨Br, 0, none⟩ = some (.slice (some ⟨gR, 0, none⟩) (rowsB s).length (rowsB s).length) ∧ w'.cell? ⟨B8, 0, none⟩ = some (.int .i64 r.x) ∧ w'.cell? ⟨B8, 1, none⟩ = some (.int .i64 r.y) ∧ w'.cell? ⟨B8, 2, none⟩ = some (.int .i64 r.d.t) ∧ w'.cell? ⟨B8, 3, none⟩ = some (.int .i64 r.d.n) ∧ w'.cell? ⟨B8, 4, none⟩ = some (.int .i64 r.d.e) ∧ w'.cell? ⟨B8, 5, none⟩ = some (.int .i64 r.d.s) ∧ w'.cell? ⟨B8, 6, none⟩ = some (.int .i64 r.d.w) ∧ w'.cell? ⟨B8, 7, none⟩ = some (.int .i64 r.d.b))) (by kernel_rfl) (by refine ⟨?_, ?_, ?_, ?_, ?_, ?_, ?_, ?_, ?_⟩ <;> assumption) (fun hHeld => ?_)
  refine takeD (i := 0) (v := ?_) 18 rfl rfl (by kernel_rfl) (by kernel_rfl) (by kernel_rfl) (fun _ _ _ h => h) (Or.inl ⟨by rfl, ?_⟩) (by assumption) ?_
  rotate_left 1
  · (intro w hSw; (try dsimp only at hSw); go_simp; (try with_reducible rfl))
  try simp only [Act.put, List.setIfInBounds_toArray, List.set_cons_zero, List.set_cons_succ]
  refine takeD (i := 1) (v := ?_) 19 rfl rfl (by kernel_rfl) (by kernel_rfl) (by kernel_rfl) (fun _ _ _ h => h) (Or.inl ⟨by rfl, ?_⟩) (by assumption) ?_
  rotate_left 1
  · (intro w hSw; (try dsimp only at hSw); go_simp; (try with_reducible rfl))
  try simp only [Act.put, List.setIfInBounds_toArray, List.set_cons_zero, List.set_cons_succ]
  refine takeD (i := 2) (v := ?_) 20 rfl rfl (by kernel_rfl) (by kernel_rfl) (by kernel_rfl) (fun _ _ _ h => h) (Or.inl ⟨by rfl, ?_⟩) (by assumption) ?_
  rotate_left 1
  · (intro w hSw; (try dsimp only at hSw); go_simp; (try with_reducible rfl))
  try simp only [Act.put, List.setIfInBounds_toArray, List.set_cons_zero, List.set_cons_succ]
  refine takeD (i := 3) (v := ?_) 21 rfl rfl (by kernel_rfl) (by kernel_rfl) (by kernel_rfl) (fun _ _ _ h => h) (Or.inl ⟨by rfl, ?_⟩) (by assumption) ?_
  rotate_left 1
  · (intro w hSw; (try dsimp only at hSw); go_simp; (try with_reducible rfl))
  try simp only [Act.put, List.setIfInBounds_toArray, List.set_cons_zero, List.set_cons_succ]
  refine takeD (i := 4) (v := ?_) 22 rfl rfl (by kernel_rfl) (by kernel_rfl) (by kernel_rfl) (fun _ _ _ h => h) (Or.inl ⟨by rfl, ?_⟩) (by assumption) ?_
  rotate_left 1
  · (intro w hSw; (try dsimp only at hSw); go_simp; (try with_reducible rfl))
  try simp only [Act.put, List.setIfInBounds_toArray, List.set_cons_zero, List.set_cons_succ]
  refine wpAnyH_ready (rs := [5]) (by kernel_rfl) (by simp) ?_
  refine AllReadyH.cons (o := _) rfl (fun K hK => ?_) AllReadyH.nil
  go_simp
  go_at_call 75
  (with_reducible refine (HCA.out _ r.x r.y HRB.out).mono ?_)
  rintro e w3 ⟨rfl, rfl⟩
  rw [← HCC.out]
  dsimp only
  refine hK.out _ _ (by refine ⟨?_, ?_, ?_, ?_, ?_, ?_, ?_, ?_, ?_⟩ <;> assumption) (fun hHeld_1 => ?_)
  clear hK
  try simp only [Act.put, List.setIfInBounds_toArray, List.set_cons_zero, List.set_cons_succ]
  refine takeD (i := 6) (v := ?_) 24 rfl rfl (by kernel_rfl) (by kernel_rfl) (by kernel_rfl) (fun _ _ _ h => h) (Or.inl ⟨by rfl, ?_⟩) (by assumption) ?_
  rotate_left 1
  · (intro w hSw; (try dsimp only at hSw); go_simp; (try with_reducible rfl))
  try simp only [Act.put, List.setIfInBounds_toArray, List.set_cons_zero, List.set_cons_succ]
  refine takeD (i := 7) (v := ?_) 25 rfl rfl (by kernel_rfl) (by kernel_rfl) (by kernel_rfl) (fun _ _ _ h => h) (Or.inl ⟨by rfl, ?_⟩) (by assumption) ?_
  rotate_left 1
  · (intro w hSw; (try dsimp only at hSw); go_simp; (try with_reducible rfl))
  try simp only [Act.put, List.setIfInBounds_toArray, List.set_cons_zero, List.set_cons_succ]
  refine takeD (i := 8) (v := undef) 26 rfl rfl (by kernel_rfl) (by kernel_rfl) (by kernel_rfl) (fun _ _ _ h => h) (Or.inr ⟨by kernel_rfl, rfl⟩) (by assumption) ?_
  try simp only [Act.put, List.setIfInBounds_toArray, List.set_cons_zero, List.set_cons_succ]
  refine takeD (i := 9) (v := undef) 27 rfl rfl (by kernel_rfl) (by kernel_rfl) (by kernel_rfl) (fun _ _ _ h => h) (Or.inr ⟨by kernel_rfl, rfl⟩) (by assumption) ?_
  try simp only [Act.put, List.setIfInBounds_toArray, List.set_cons_zero, List.set_cons_succ]
  refine takeD (i := 10) (v := undef) 28 rfl rfl (by kernel_rfl) (by kernel_rfl) (by kernel_rfl) (fun _ _ _ h => h) (Or.inr ⟨by kernel_rfl, rfl⟩) (by assumption) ?_
  try simp only [Act.put, List.setIfInBounds_toArray, List.set_cons_zero, List.set_cons_succ]
  refine takeD (i := 11) (v := undef) 29 rfl rfl (by kernel_rfl) (by kernel_rfl) (by kernel_rfl) (fun _ _ _ h => h) (Or.inr ⟨by kernel_rfl, rfl⟩) (by assumption) ?_
  try simp only [Act.put, List.setIfInBounds_toArray, List.set_cons_zero, List.set_cons_succ]
  refine takeD (i := 12) (v := ?_) 30 rfl rfl (by kernel_rfl) (by kernel_rfl) (by kernel_rfl) (fun _ _ _ h => h) (Or.inl ⟨by rfl, ?_⟩) (by assumption) ?_
  rotate_left 1
  · (intro w hSw; (try dsimp only at hSw); go_simp; (try with_reducible rfl))
  try simp only [Act.put, List.setIfInBounds_toArray, List.set_cons_zero, List.set_cons_succ]
  refine wpAnyH_done (by kernel_rfl) ?_ _

  have HZ := hide HTF.out.2.1
  have R1 := hide (show IsP (wc.drew.setRow (w.heap.size + 1) #[.int .i64 0, .int .i64 0, .int .i64 0, .int .i64 0, .int .i64 0, .int .i64 0, .int .i64 0, .int .i64 0, .int .i64 0, .int .i64 0, .int .i64 0, .int .i64 0, .int .i64 0, .int .i64 0, .int .i64 0, .int .i64 0, .int .i64 0, .int .i64 0, .int .i64 0, .int .i64 0, .int .i64 0, .int .i64 0, .int .i64 0, .int .i64 0]) (w.heap.size + 1) ⟨0, 0, ⟨0, 0, 0, 0, 0, 0⟩⟩ ⟨0, 0, ⟨0, 0, 0, 0, 0, 0⟩⟩ ⟨0, 0, ⟨0, 0, 0, 0, 0, 0⟩⟩ from setRow_heap wc.drew _ _ _ _ _ HTF.out.2.1)
  have q1 := below_setRow HTF.out.2.2.2.drew (show w.heap.size ≤ w.heap.size + 1 by omega) #[.int .i64 0, .int .i64 0, .int .i64 0, .int .i64 0, .int .i64 0, .int .i64 0, .int .i64 0, .int .i64 0, .int .i64 0, .int .i64 0, .int .i64 0, .int .i64 0, .int .i64 0, .int .i64 0, .int .i64 0, .int .i64 0, .int .i64 0, .int .i64 0, .int .i64 0, .int .i64 0, .int .i64 0, .int .i64 0, .int .i64 0, .int .i64 0]
  go_wp2_with (refine wpList_store_row rfl 70 (.tmp 5) (.tmp 31) rfl (w.heap.size + 1) #[.int .i64 0, .int .i64 0, .int .i64 0, .int .i64 0, .int .i64 0, .int .i64 0, .int .i64 0, .int .i64 0, .int .i64 0, .int .i64 0, .int .i64 0, .int .i64 0, .int .i64 0, .int .i64 0, .int .i64 0, .int .i64 0, .int .i64 0, .int .i64 0, .int .i64 0, .int .i64 0, .int .i64 0, .int .i64 0, .int .i64 0, .int .i64 0] rfl rfl _ _ HZ.out (by kernel_rfl) (by kernel_rfl) (by kernel_rfl) ?_)
  exact bodyPost_ret (ret_group2 Tryd.results72 rfl rfl R1.out) rfl ⟨rfl, q1⟩
set_option maxHeartbeats 3200000 in
theorem mvIn_2 (a b c : St) (d : UInt8) (Br gR : Nat) (s : ByteArray) (w : World) (hs : s.size ≤ 1048576) (hb : isBd s.data.toList = true) (hd : 0 ≤ dirIx d.toNat) (hx : -100000 ≤ c.x ∧ c.x ≤ 100000) (hy : -100000 ≤ c.y ∧ c.y ≤ 100000) (hR : RowsBox w Br gR s) (hf : floorL s.data.toList (rollT c (dirIx d.toNat)).x (rollT c (dirIx d.toNat)).y = true) (hin : inAny [a, b, c] (rollT c (dirIx d.toNat)).x (rollT c (dirIx d.toNat)).y = true) : Calls Tryd.prog 72 #[gV a b c, .string ⟨#[50, d]⟩, .pointer (some ⟨Br, 0, none⟩)] w fun e w' => e = .returned (.tuple #[gV ⟨0, 0, ⟨0, 0, 0, 0, 0, 0⟩⟩ ⟨0, 0, ⟨0, 0, 0, 0, 0, 0⟩⟩ ⟨0, 0, ⟨0, 0, 0, 0, 0, 0⟩⟩, .bool false]) ∧ Below w.heap.size w w' := by
  have HF := hide hf
  have hin2 := hin
  clear hf
  have q0 : Below w.heap.size w ((w.alloc (.cells #[.int .i64 a.x, .int .i64 a.y, .int .i64 a.d.t, .int .i64 a.d.n, .int .i64 a.d.e, .int .i64 a.d.s, .int .i64 a.d.w, .int .i64 a.d.b, .int .i64 b.x, .int .i64 b.y, .int .i64 b.d.t, .int .i64 b.d.n, .int .i64 b.d.e, .int .i64 b.d.s, .int .i64 b.d.w, .int .i64 b.d.b, .int .i64 c.x, .int .i64 c.y, .int .i64 c.d.t, .int .i64 c.d.n, .int .i64 c.d.e, .int .i64 c.d.s, .int .i64 c.d.w, .int .i64 c.d.b] 70)).alloc (.cells #[.int .i64 0, .int .i64 0, .int .i64 0, .int .i64 0, .int .i64 0, .int .i64 0, .int .i64 0, .int .i64 0, .int .i64 0, .int .i64 0, .int .i64 0, .int .i64 0, .int .i64 0, .int .i64 0, .int .i64 0, .int .i64 0, .int .i64 0, .int .i64 0, .int .i64 0, .int .i64 0, .int .i64 0, .int .i64 0, .int .i64 0, .int .i64 0] 70)) := by go_grown
  have T0 : MvI w ((w.alloc (.cells #[.int .i64 a.x, .int .i64 a.y, .int .i64 a.d.t, .int .i64 a.d.n, .int .i64 a.d.e, .int .i64 a.d.s, .int .i64 a.d.w, .int .i64 a.d.b, .int .i64 b.x, .int .i64 b.y, .int .i64 b.d.t, .int .i64 b.d.n, .int .i64 b.d.e, .int .i64 b.d.s, .int .i64 b.d.w, .int .i64 b.d.b, .int .i64 c.x, .int .i64 c.y, .int .i64 c.d.t, .int .i64 c.d.n, .int .i64 c.d.e, .int .i64 c.d.s, .int .i64 c.d.w, .int .i64 c.d.b] 70)).alloc (.cells #[.int .i64 0, .int .i64 0, .int .i64 0, .int .i64 0, .int .i64 0, .int .i64 0, .int .i64 0, .int .i64 0, .int .i64 0, .int .i64 0, .int .i64 0, .int .i64 0, .int .i64 0, .int .i64 0, .int .i64 0, .int .i64 0, .int .i64 0, .int .i64 0, .int .i64 0, .int .i64 0, .int .i64 0, .int .i64 0, .int .i64 0, .int .i64 0] 70)) Br gR s a b c := ⟨(IsP.new (w := w) (a := a) (b := b) (c := c)).alloc (.cells #[.int .i64 0, .int .i64 0, .int .i64 0, .int .i64 0, .int .i64 0, .int .i64 0, .int .i64 0, .int .i64 0, .int .i64 0, .int .i64 0, .int .i64 0, .int .i64 0, .int .i64 0, .int .i64 0, .int .i64 0, .int .i64 0, .int .i64 0, .int .i64 0, .int .i64 0, .int .i64 0, .int .i64 0, .int .i64 0, .int .i64 0, .int .i64 0] 70), IsP.new2 (w := w) (o := (.cells #[.int .i64 a.x, .int .i64 a.y, .int .i64 a.d.t, .int .i64 a.d.n, .int .i64 a.d.e, .int .i64 a.d.s, .int .i64 a.d.w, .int .i64 a.d.b, .int .i64 b.x, .int .i64 b.y, .int .i64 b.d.t, .int .i64 b.d.n, .int .i64 b.d.e, .int .i64 b.d.s, .int .i64 b.d.w, .int .i64 b.d.b, .int .i64 c.x, .int .i64 c.y, .int .i64 c.d.t, .int .i64 c.d.n, .int .i64 c.d.e, .int .i64 c.d.s, .int .i64 c.d.w, .int .i64 c.d.b] 70)) (a := ⟨0, 0, ⟨0, 0, 0, 0, 0, 0⟩⟩) (b := ⟨0, 0, ⟨0, 0, 0, 0, 0, 0⟩⟩) (c := ⟨0, 0, ⟨0, 0, 0, 0, 0, 0⟩⟩), rowsBox_to (w0 := w) q0 hR rfl, q0⟩
  generalize hW : (w.alloc (.cells #[.int .i64 a.x, .int .i64 a.y, .int .i64 a.d.t, .int .i64 a.d.n, .int .i64 a.d.e, .int .i64 a.d.s, .int .i64 a.d.w, .int .i64 a.d.b, .int .i64 b.x, .int .i64 b.y, .int .i64 b.d.t, .int .i64 b.d.n, .int .i64 b.d.e, .int .i64 b.d.s, .int .i64 b.d.w, .int .i64 b.d.b, .int .i64 c.x, .int .i64 c.y, .int .i64 c.d.t, .int .i64 c.d.n, .int .i64 c.d.e, .int .i64 c.d.s, .int .i64 c.d.w, .int .i64 c.d.b] 70)).alloc (.cells #[.int .i64 0, .int .i64 0, .int .i64 0, .int .i64 0, .int .i64 0, .int .i64 0, .int .i64 0, .int .i64 0, .int .i64 0, .int .i64 0, .int .i64 0, .int .i64 0, .int .i64 0, .int .i64 0, .int .i64 0, .int .i64 0, .int .i64 0, .int .i64 0, .int .i64 0, .int .i64 0, .int .i64 0, .int .i64 0, .int .i64 0, .int .i64 0] 70) = W0 at T0
  have HW := hide hW
  clear hW q0 hR
  obtain ⟨r, hr⟩ : ∃ r, r = rollT c (dirIx d.toNat) := ⟨_, rfl⟩
  have HR := hide hr
  have HX := hide hx
  have HY := hide hy
  have HD := hide hd
  have HCA := hide (fun (wx : World) (x y : Int) (ha : RowsAt wx gR (rowsB s)) => cellAtL_any s gR x y wx hs hb ha)
  have HIX := hide (show ∀ wx : World, Calls Tryd.prog 73 #[.string ⟨#[48, 49, 50]⟩, .int .u8 50] wx fun e w' => e = .returned (.int .i64 2) ∧ wx = w' from fun wx => (indexIn_any ⟨#[48, 49, 50]⟩ 50 wx).mono fun e w' h => ⟨h.1.trans (congrArg (fun x => Ending.returned (.int .i64 x)) (by decide)), h.2⟩)
  clear hr hx hy hd hb hs
  have HT0 := hide T0
  obtain ⟨c0, c1, c2, c3, c4, c5, c6, c7, c8, c9, c10, c11, c12, c13, c14, c15, c16, c17, c18, c19, c20, c21, c22, c23⟩ := T0.1.all
  clear T0 c0 c1 c2 c3 c4 c5 c6 c7 c8 c9 c10 c11 c12 c13 c14 c15
  go_enter Tryd.func72, Tryd.ntmps72
  go_upto_region 1 with (fail)
  rw [HW.out]
  go_upto_region 2 with (go_at_call 73; refine (HIX.out _).mono ?_; rintro e w' ⟨rfl, rfl⟩)
  have em : (⟨#[50, d]⟩ : ByteArray)[1]'(by show 1 < 2; omega) = d := rfl
  have hl0 := HT0.out.1.lt
  have HRA := hide (IsS.new (w := W0) (s := ⟨0, 0, ⟨0, 0, 0, 0, 0, 0⟩⟩) (ty := 57))
  have HTA := hide (show MvI w (W0.alloc (.cells #[.int .i64 0, .int .i64 0, .int .i64 0, .int .i64 0, .int .i64 0, .int .i64 0, .int .i64 0, .int .i64 0] 57)) Br gR s a b c from mvI_to (w0 := W0) ((Below.refl _ _).alloc (Nat.le_refl _) _) HT0.out rfl rfl rfl rfl)
  have HRS := hide (fun wx => rolledState_any d c wx HD.out HX.out HY.out)
  go_cut [8] from 12 to 18 (fun t8 wx => ∃ B8, t8 = .pointer (some ⟨B8, 0, none⟩) ∧ IsS wx B8 r 57 ∧ MvI w wx Br gR s a b c)
  case first =>
    refine wp_region_held_drew (S := (fun w' => w'.cell? ⟨w.heap.size, 16, none⟩ = some (.int .i64 c.x) ∧ w'.cell? ⟨w.heap.size, 17, none⟩ = some (.int .i64 c.y) ∧ w'.cell? ⟨w.heap.size, 18, none⟩ = some (.int .i64 c.d.t) ∧ w'.cell? ⟨w.heap.size, 19, none⟩ = some (.int .i64 c.d.n) ∧ w'.cell? ⟨w.heap.size, 20, none⟩ = some (.int .i64 c.d.e) ∧ w'.cell? ⟨w.heap.size, 21, none⟩ = some (.int .i64 c.d.s) ∧ w'.cell? ⟨w.heap.size, 22, none⟩ = some (.int .i64 c.d.w) ∧ w'.cell? ⟨w.heap.size, 23, none⟩ = some (.int .i64 c.d.b))) (by kernel_rfl) (by refine ⟨?_, ?_, ?_, ?_, ?_, ?_, ?_, ?_⟩ <;> first | with_reducible assumption | assumption) (fun hHeld => ?_)
    refine takeD (i := 0) (v := ?_) 12 rfl rfl (by kernel_rfl) (by kernel_rfl) (by kernel_rfl) (fun _ _ _ h => h) (Or.inl ⟨by rfl, ?_⟩) (by assumption) ?_
    rotate_left 1
    · (intro w hSw; (try dsimp only at hSw); go_simp; (try with_reducible rfl))
    try simp only [Act.put, List.setIfInBounds_toArray, List.set_cons_zero, List.set_cons_succ]
    refine takeD (i := 1) (v := ?_) 13 rfl rfl (by kernel_rfl) (by kernel_rfl) (by kernel_rfl) (fun _ _ _ h => h) (Or.inl ⟨by rfl, ?_⟩) (by assumption) ?_
    rotate_left 1
    · (intro w hSw; (try dsimp only at hSw); go_simp; (try with_reducible rfl))
    try simp only [Act.put, List.setIfInBounds_toArray, List.set_cons_zero, List.set_cons_succ]
    refine takeD (i := 2) (v := ?_) 14 rfl rfl (by kernel_rfl) (by kernel_rfl) (by kernel_rfl) (fun _ _ _ h => h) (Or.inl ⟨by rfl, ?_⟩) (by assumption) ?_
    rotate_left 1
    · (intro w hSw; (try dsimp only at hSw); go_simp; (try with_reducible rfl))
    try simp only [Act.put, List.setIfInBounds_toArray, List.set_cons_zero, List.set_cons_succ]
    refine takeD (i := 3) (v := ?_) 15 rfl rfl (by kernel_rfl) (by kernel_rfl) (by kernel_rfl) (fun _ _ _ h => h) (Or.inl ⟨by rfl, ?_⟩) (by assumption) ?_
    rotate_left 1
    · (intro w hSw; (try dsimp only at hSw); go_simp; (try with_reducible rfl))
    try simp only [Act.put, List.setIfInBounds_toArray, List.set_cons_zero, List.set_cons_succ]
    refine takeD (i := 4) (v := ?_) 16 rfl rfl (by kernel_rfl) (by kernel_rfl) (by kernel_rfl) (fun _ _ _ h => h) (Or.inl ⟨by rfl, ?_⟩) (by assumption) ?_
    rotate_left 1
    · (intro w hSw; (try dsimp only at hSw); go_simp; (try with_reducible rfl))
    try simp only [Act.put, List.setIfInBounds_toArray, List.set_cons_zero, List.set_cons_succ]
    refine wpAnyH_ready (rs := [5, 6]) (by kernel_rfl) (by simp) ?_
    refine AllReadyH.cons (o := _) rfl (fun K hK => ?_) (AllReadyH.cons (o := _) rfl (fun K hK => ?_) AllReadyH.nil)
    · go_simp
      go_at_call 74
      (with_reducible refine (HRS.out _).mono ?_)
      rintro e w2 ⟨rfl, hb2⟩
      rw [← HR.out]
      have T2 := mvI_to hb2 HT0.out rfl rfl rfl rfl
      obtain ⟨-, -, -, -, -, -, -, -, -, -, -, -, -, -, -, -, x16, x17, x18, x19, x20, x21, x22, x23⟩ := T2.1.all
      have hl2 := T2.1.lt
      dsimp only
      refine hK.out _ _ (by refine ⟨?_, ?_, ?_, ?_, ?_, ?_, ?_, ?_⟩ <;> first | with_reducible assumption | assumption) (fun hHeld1 => ?_)
      clear hK
      try simp only [Act.put, List.setIfInBounds_toArray, List.set_cons_zero, List.set_cons_succ]
      refine wpAnyH_ready (rs := [6]) (by kernel_rfl) (by simp) ?_
      refine AllReadyH.cons (o := _) rfl (fun K hK => ?_) AllReadyH.nil
      go_simp
      have TA := mvI_to (w0 := w2) ((Below.refl _ _).alloc (Nat.le_refl _) (.cells #[.int .i64 0, .int .i64 0, .int .i64 0, .int .i64 0, .int .i64 0, .int .i64 0, .int .i64 0, .int .i64 0] 57)) T2 rfl rfl rfl rfl
      obtain ⟨-, -, -, -, -, -, -, -, -, -, -, -, -, -, -, -, y16, y17, y18, y19, y20, y21, y22, y23⟩ := TA.1.all
      refine hK.out _ _ (by refine ⟨?_, ?_, ?_, ?_, ?_, ?_, ?_, ?_⟩ <;> first | with_reducible assumption | assumption) (fun hHeld2 => ?_)
      clear hK
      try simp only [Act.put, List.setIfInBounds_toArray, List.set_cons_zero, List.set_cons_succ]
      refine wpAnyH_ready (rs := [7]) (by kernel_rfl) (by simp) ?_
      refine AllReadyH.cons (o := _) rfl (fun K hK => ?_) AllReadyH.nil
      go_simp
      have SF := IsS.new (w := w2) (s := r) (ty := 57)
      have TF := mvI_to (w0 := w2) ((Below.refl _ _).alloc (Nat.le_refl _) (.cells #[.int .i64 r.x, .int .i64 r.y, .int .i64 r.d.t, .int .i64 r.d.n, .int .i64 r.d.e, .int .i64 r.d.s, .int .i64 r.d.w, .int .i64 r.d.b] 57)) T2 rfl rfl rfl rfl
      obtain ⟨-, -, -, -, -, -, -, -, -, -, -, -, -, -, -, -, z16, z17, z18, z19, z20, z21, z22, z23⟩ := TF.1.all
      refine hK.out _ _ (by refine ⟨?_, ?_, ?_, ?_, ?_, ?_, ?_, ?_⟩ <;> first | with_reducible assumption | assumption) (fun hHeld3 => ?_)
      clear hK
      try simp only [Act.put, List.setIfInBounds_toArray, List.set_cons_zero, List.set_cons_succ]
      refine wpAnyH_done (by kernel_rfl) ?_ _
      go_wp2_with fail
      go_meet
      exact ⟨_, rfl, SF, TF⟩
    · go_simp
      obtain ⟨-, -, -, -, -, -, -, -, -, -, -, -, -, -, -, -, y16, y17, y18, y19, y20, y21, y22, y23⟩ := HTA.out.1.all
      refine hK.out _ _ (by refine ⟨?_, ?_, ?_, ?_, ?_, ?_, ?_, ?_⟩ <;> first | with_reducible assumption | assumption) (fun hHeld1 => ?_)
      clear hK
      try simp only [Act.put, List.setIfInBounds_toArray, List.set_cons_zero, List.set_cons_succ]
      refine wpAnyH_ready (rs := [5]) (by kernel_rfl) (by simp) ?_
      refine AllReadyH.cons (o := _) rfl (fun K hK => ?_) AllReadyH.nil
      go_simp
      go_at_call 74
      (with_reducible refine (HRS.out _).mono ?_)
      rintro e w2 ⟨rfl, hb2⟩
      rw [← HR.out]
      have T2 := mvI_to hb2 HTA.out rfl rfl rfl rfl
      have R2 := isS_to hb2 HRA.out rfl
      have hb02 : Below W0.heap.size W0 w2 := below_to hb2 ((Below.refl W0.heap.size W0).alloc (Nat.le_refl _) (.cells #[.int .i64 0, .int .i64 0, .int .i64 0, .int .i64 0, .int .i64 0, .int .i64 0, .int .i64 0, .int .i64 0] 57)) (by simp) rfl rfl rfl rfl
      clear hb2
      obtain ⟨-, -, -, -, -, -, -, -, -, -, -, -, -, -, -, -, x16, x17, x18, x19, x20, x21, x22, x23⟩ := T2.1.all
      dsimp only
      refine hK.out _ _ (by refine ⟨?_, ?_, ?_, ?_, ?_, ?_, ?_, ?_⟩ <;> first | with_reducible assumption | assumption) (fun hHeld2 => ?_)
      clear hK
      try simp only [Act.put, List.setIfInBounds_toArray, List.set_cons_zero, List.set_cons_succ]
      obtain ⟨lr, ⟨r0, r1, r2, r3, r4, r5, r6, r7⟩, e0, e1, e2, e3, e4, e5, e6, e7⟩ := R2.all
      refine wpAnyH_ready (rs := [7]) (by kernel_rfl) (by simp) ?_
      refine AllReadyH.cons (o := _) rfl (fun K hK => ?_) AllReadyH.nil
      go_simp
      have SF := R2.set8 r
      have TF := mvI_to (w0 := W0) (below_set8 hb02 (Nat.le_refl _) r) HT0.out rfl rfl rfl rfl
      clear r0 r1 r2 r3 r4 r5 r6 r7
      obtain ⟨-, -, -, -, -, -, -, -, -, -, -, -, -, -, -, -, z16, z17, z18, z19, z20, z21, z22, z23⟩ := TF.1.all
      refine hK.out _ _ (by refine ⟨?_, ?_, ?_, ?_, ?_, ?_, ?_, ?_⟩ <;> first | with_reducible assumption | assumption) (fun hHeld3 => ?_)
      clear hK
      try simp only [Act.put, List.setIfInBounds_toArray, List.set_cons_zero, List.set_cons_succ]
      refine wpAnyH_done (by kernel_rfl) ?_ _
      go_wp2_with fail
      go_meet
      exact ⟨_, rfl, SF, TF⟩
  obtain ⟨B8, rfl, SF, TF⟩ := hcut
  have hlB : B8 < wc.heap.size := SF.lt
  have HSF := hide SF
  have HTF := hide TF
  have hbx := TF.2.2.1.2.1
  obtain ⟨_, ⟨s0, s1, s2, s3, s4, s5, s6, s7⟩, -⟩ := SF.all
  have HRB := hide (show RowsAt wc.drew gR (rowsB s) from TF.2.2.1.2.2)
  obtain ⟨cc, hcc⟩ : ∃ cc, cc = cellI (splitP s.data.toList) r.x r.y := ⟨_, rfl⟩
  have HCC := hide hcc
  have hq0 : decide ((cc.toNat : Int) = 46) = true := by
    have := HF.out
    unfold floorL at this
    rw [← HR.out, ← hcc] at this
    exact this
  have hq1 := eq46' hq0
  have hq2 : (((cc.toNat : Nat) : Int) != 46) = false := by rw [bne, hq1]; rfl
  clear hcc hq0 SF TF
  have HIN := hide (show inAny [a, b, c] r.x r.y = true from by rw [HR.out]; exact hin2)
  clear hin hin2
  go_upto_region 3 with (fail)
  refine wp_region_held_drew (S := (fun w' => w'.cell? ⟨Br, 0, none⟩ = some (.slice (some ⟨gR, 0, none⟩) (rowsB s).length (rowsB s).length) ∧ w'.cell? ⟨B8, 0, none⟩ = some (.int .i64 r.x) ∧ w'.cell? ⟨B8, 1, none⟩ = some (.int .i64 r.y) ∧ w'.cell? ⟨B8, 2, none⟩ = some (.int .i64 r.d.t) ∧ w'.cell? ⟨B8, 3, none⟩ = some (.int .i64 r.d.n) ∧ w'.cell? ⟨B8, 4, none⟩ = some (.int .i64 r.d.e) ∧ w'.cell? ⟨B8, 5, none⟩ = some (.int .i64 r.d.s) ∧ w'.cell? ⟨B8, 6, none⟩ = some (.int .i64 r.d.w) ∧ w'.cell? ⟨B8, 7, none⟩ = some (.int .i64 r.d.b))) (by kernel_rfl) (by refine ⟨?_, ?_, ?_, ?_, ?_, ?_, ?_, ?_, ?_⟩ <;> assumption) (fun hHeld => ?_)
  refine takeD (i := 0) (v := ?_) 18 rfl rfl (by kernel_rfl) (by kernel_rfl) (by kernel_rfl) (fun _ _ _ h => h) (Or.inl ⟨by rfl, ?_⟩) (by assumption) ?_
  rotate_left 1
  · (intro w hSw; (try dsimp only at hSw); go_simp; (try with_reducible rfl))
  try simp only [Act.put, List.setIfInBounds_toArray, List.set_cons_zero, List.set_cons_succ]
  refine takeD (i := 1) (v := ?_) 19 rfl rfl (by kernel_rfl) (by kernel_rfl) (by kernel_rfl) (fun _ _ _ h => h) (Or.inl ⟨by rfl, ?_⟩) (by assumption) ?_
  rotate_left 1
  · (intro w hSw; (try dsimp only at hSw); go_simp; (try with_reducible rfl))
  try simp only [Act.put, List.setIfInBounds_toArray, List.set_cons_zero, List.set_cons_succ]
  refine takeD (i := 2) (v := ?_) 20 rfl rfl (by kernel_rfl) (by kernel_rfl) (by kernel_rfl) (fun _ _ _ h => h) (Or.inl ⟨by rfl, ?_⟩) (by assumption) ?_
  rotate_left 1
  · (intro w hSw; (try dsimp only at hSw); go_simp; (try with_reducible rfl))
  try simp only [Act.put, List.setIfInBounds_toArray, List.set_cons_zero, List.set_cons_succ]
  refine takeD (i := 3) (v := ?_) 21 rfl rfl (by kernel_rfl) (by kernel_rfl) (by kernel_rfl) (fun _ _ _ h => h) (Or.inl ⟨by rfl, ?_⟩) (by assumption) ?_
  rotate_left 1
  · (intro w hSw; (try dsimp only at hSw); go_simp; (try with_reducible rfl))
  try simp only [Act.put, List.setIfInBounds_toArray, List.set_cons_zero, List.set_cons_succ]
  refine takeD (i := 4) (v := ?_) 22 rfl rfl (by kernel_rfl) (by kernel_rfl) (by kernel_rfl) (fun _ _ _ h => h) (Or.inl ⟨by rfl, ?_⟩) (by assumption) ?_
  rotate_left 1
  · (intro w hSw; (try dsimp only at hSw); go_simp; (try with_reducible rfl))
  try simp only [Act.put, List.setIfInBounds_toArray, List.set_cons_zero, List.set_cons_succ]
  refine wpAnyH_ready (rs := [5]) (by kernel_rfl) (by simp) ?_
  refine AllReadyH.cons (o := _) rfl (fun K hK => ?_) AllReadyH.nil
  go_simp
  go_at_call 75
  (with_reducible refine (HCA.out _ r.x r.y HRB.out).mono ?_)
  rintro e w3 ⟨rfl, rfl⟩
  rw [← HCC.out]
  dsimp only
  refine hK.out _ _ (by refine ⟨?_, ?_, ?_, ?_, ?_, ?_, ?_, ?_, ?_⟩ <;> assumption) (fun hHeld_1 => ?_)
  clear hK
  try simp only [Act.put, List.setIfInBounds_toArray, List.set_cons_zero, List.set_cons_succ]
  refine takeD (i := 6) (v := ?_) 24 rfl rfl (by kernel_rfl) (by kernel_rfl) (by kernel_rfl) (fun _ _ _ h => h) (Or.inl ⟨by rfl, ?_⟩) (by assumption) ?_
  rotate_left 1
  · (intro w hSw; (try dsimp only at hSw); go_simp; (try with_reducible rfl))
  try simp only [Act.put, List.setIfInBounds_toArray, List.set_cons_zero, List.set_cons_succ]
  refine takeD (i := 7) (v := ?_) 25 rfl rfl (by kernel_rfl) (by kernel_rfl) (by kernel_rfl) (fun _ _ _ h => h) (Or.inl ⟨by rfl, ?_⟩) (by assumption) ?_
  rotate_left 1
  · (intro w hSw; (try dsimp only at hSw); go_simp; (try with_reducible rfl))
  try simp only [Act.put, List.setIfInBounds_toArray, List.set_cons_zero, List.set_cons_succ]
  refine takeD (i := 8) (v := ?_) 26 rfl rfl (by kernel_rfl) (by kernel_rfl) (by kernel_rfl) (fun _ _ _ h => h) (Or.inl ⟨by rfl, ?_⟩) (by assumption) ?_
  rotate_left 1
  · (intro w hSw; (try dsimp only at hSw); go_simp; (try with_reducible rfl))
  try simp only [Act.put, List.setIfInBounds_toArray, List.set_cons_zero, List.set_cons_succ]
  refine takeD (i := 9) (v := ?_) 27 rfl rfl (by kernel_rfl) (by kernel_rfl) (by kernel_rfl) (fun _ _ _ h => h) (Or.inl ⟨by rfl, ?_⟩) (by assumption) ?_
  rotate_left 1
  · (intro w hSw; (try dsimp only at hSw); go_simp; (try with_reducible rfl))
  try simp only [Act.put, List.setIfInBounds_toArray, List.set_cons_zero, List.set_cons_succ]
  refine wpAnyH_ready (rs := [10]) (by kernel_rfl) (by simp) ?_
  refine AllReadyH.cons (o := _) rfl (fun K hK => ?_) AllReadyH.nil
  go_simp
  go_at_call 65
  (with_reducible refine (inCellOf_any r _).mono ?_)
  rintro e w4 ⟨B2, rfl, hC4, hb4⟩
  have HC4 := hide hC4
  have HT4 := hide (mvI_to hb4 HTF.out rfl rfl rfl rfl)
  have HS4 := hide (isS_to hb4 HSF.out rfl)
  have HD4 := hide (stAt_p HT4.out.1)
  have hbx4 := HT4.out.2.2.1.2.1
  clear hb4 hC4
  obtain ⟨_, ⟨y0, y1, y2, y3, y4, y5, y6, y7⟩, -⟩ := HS4.out.all
  dsimp only
  refine hK.out _ _ (by refine ⟨?_, ?_, ?_, ?_, ?_, ?_, ?_, ?_, ?_⟩ <;> assumption) (fun hHeld_2 => ?_)
  clear hK
  try simp only [Act.put, List.setIfInBounds_toArray, List.set_cons_zero, List.set_cons_succ]
  refine wpAnyH_ready (rs := [11]) (by kernel_rfl) (by simp) ?_
  refine AllReadyH.cons (o := _) rfl (fun K hK => ?_) AllReadyH.nil
  go_simp
  go_at_call 64
  (with_reducible refine (hasIn_any [a, b, c] 3 w.heap.size 3 B2 r _ rfl (by omega) HD4.out HC4.out).mono ?_)
  rintro e w5 ⟨rfl, hb5⟩
  rw [HIN.out]
  have HT5 := hide (mvI_to hb5 HT4.out rfl rfl rfl rfl)
  have HS5 := hide (isS_to hb5 HS4.out rfl)
  have hbx5 := HT5.out.2.2.1.2.1
  clear hb5
  obtain ⟨_, ⟨t0, t1, t2, t3, t4, t5, t6, t7⟩, -⟩ := HS5.out.all
  dsimp only
  refine hK.out _ _ (by refine ⟨?_, ?_, ?_, ?_, ?_, ?_, ?_, ?_, ?_⟩ <;> assumption) (fun hHeld_3 => ?_)
  clear hK
  try simp only [Act.put, List.setIfInBounds_toArray, List.set_cons_zero, List.set_cons_succ]
  refine takeD (i := 12) (v := ?_) 30 rfl rfl (by kernel_rfl) (by kernel_rfl) (by kernel_rfl) (fun _ _ _ h => h) (Or.inl ⟨by rfl, ?_⟩) (by assumption) ?_
  rotate_left 1
  · (intro w hSw; (try dsimp only at hSw); go_simp; (try with_reducible rfl))
  try simp only [Act.put, List.setIfInBounds_toArray, List.set_cons_zero, List.set_cons_succ]
  refine wpAnyH_done (by kernel_rfl) ?_ _

  have HZ := hide HT5.out.2.1
  have R1 := hide (show IsP (w5.setRow (w.heap.size + 1) #[.int .i64 0, .int .i64 0, .int .i64 0, .int .i64 0, .int .i64 0, .int .i64 0, .int .i64 0, .int .i64 0, .int .i64 0, .int .i64 0, .int .i64 0, .int .i64 0, .int .i64 0, .int .i64 0, .int .i64 0, .int .i64 0, .int .i64 0, .int .i64 0, .int .i64 0, .int .i64 0, .int .i64 0, .int .i64 0, .int .i64 0, .int .i64 0]) (w.heap.size + 1) ⟨0, 0, ⟨0, 0, 0, 0, 0, 0⟩⟩ ⟨0, 0, ⟨0, 0, 0, 0, 0, 0⟩⟩ ⟨0, 0, ⟨0, 0, 0, 0, 0, 0⟩⟩ from setRow_heap w5 _ _ _ _ _ HT5.out.2.1)
  have q1 := below_setRow HT5.out.2.2.2 (show w.heap.size ≤ w.heap.size + 1 by omega) #[.int .i64 0, .int .i64 0, .int .i64 0, .int .i64 0, .int .i64 0, .int .i64 0, .int .i64 0, .int .i64 0, .int .i64 0, .int .i64 0, .int .i64 0, .int .i64 0, .int .i64 0, .int .i64 0, .int .i64 0, .int .i64 0, .int .i64 0, .int .i64 0, .int .i64 0, .int .i64 0, .int .i64 0, .int .i64 0, .int .i64 0, .int .i64 0]
  go_wp2_with (refine wpList_store_row rfl 70 (.tmp 5) (.tmp 31) rfl (w.heap.size + 1) #[.int .i64 0, .int .i64 0, .int .i64 0, .int .i64 0, .int .i64 0, .int .i64 0, .int .i64 0, .int .i64 0, .int .i64 0, .int .i64 0, .int .i64 0, .int .i64 0, .int .i64 0, .int .i64 0, .int .i64 0, .int .i64 0, .int .i64 0, .int .i64 0, .int .i64 0, .int .i64 0, .int .i64 0, .int .i64 0, .int .i64 0, .int .i64 0] rfl rfl _ _ HZ.out (by kernel_rfl) (by kernel_rfl) (by kernel_rfl) ?_)
  exact bodyPost_ret (ret_group2 Tryd.results72 rfl rfl R1.out) rfl ⟨rfl, q1⟩
set_option maxHeartbeats 3200000 in
theorem mvOk_2 (a b c : St) (d : UInt8) (Br gR : Nat) (s : ByteArray) (w : World) (hs : s.size ≤ 1048576) (hb : isBd s.data.toList = true) (hd : 0 ≤ dirIx d.toNat) (hx : -100000 ≤ c.x ∧ c.x ≤ 100000) (hy : -100000 ≤ c.y ∧ c.y ≤ 100000) (hR : RowsBox w Br gR s) (hf : floorL s.data.toList (rollT c (dirIx d.toNat)).x (rollT c (dirIx d.toNat)).y = true) (hin : inAny [a, b, c] (rollT c (dirIx d.toNat)).x (rollT c (dirIx d.toNat)).y = false) : Calls Tryd.prog 72 #[gV a b c, .string ⟨#[50, d]⟩, .pointer (some ⟨Br, 0, none⟩)] w fun e w' => e = .returned (.tuple #[gV a b (rollT c (dirIx d.toNat)), .bool true]) ∧ Below w.heap.size w w' := by
  have HF := hide hf
  have hin2 := hin
  clear hf
  have q0 : Below w.heap.size w ((w.alloc (.cells #[.int .i64 a.x, .int .i64 a.y, .int .i64 a.d.t, .int .i64 a.d.n, .int .i64 a.d.e, .int .i64 a.d.s, .int .i64 a.d.w, .int .i64 a.d.b, .int .i64 b.x, .int .i64 b.y, .int .i64 b.d.t, .int .i64 b.d.n, .int .i64 b.d.e, .int .i64 b.d.s, .int .i64 b.d.w, .int .i64 b.d.b, .int .i64 c.x, .int .i64 c.y, .int .i64 c.d.t, .int .i64 c.d.n, .int .i64 c.d.e, .int .i64 c.d.s, .int .i64 c.d.w, .int .i64 c.d.b] 70)).alloc (.cells #[.int .i64 0, .int .i64 0, .int .i64 0, .int .i64 0, .int .i64 0, .int .i64 0, .int .i64 0, .int .i64 0, .int .i64 0, .int .i64 0, .int .i64 0, .int .i64 0, .int .i64 0, .int .i64 0, .int .i64 0, .int .i64 0, .int .i64 0, .int .i64 0, .int .i64 0, .int .i64 0, .int .i64 0, .int .i64 0, .int .i64 0, .int .i64 0] 70)) := by go_grown
  have T0 : MvI w ((w.alloc (.cells #[.int .i64 a.x, .int .i64 a.y, .int .i64 a.d.t, .int .i64 a.d.n, .int .i64 a.d.e, .int .i64 a.d.s, .int .i64 a.d.w, .int .i64 a.d.b, .int .i64 b.x, .int .i64 b.y, .int .i64 b.d.t, .int .i64 b.d.n, .int .i64 b.d.e, .int .i64 b.d.s, .int .i64 b.d.w, .int .i64 b.d.b, .int .i64 c.x, .int .i64 c.y, .int .i64 c.d.t, .int .i64 c.d.n, .int .i64 c.d.e, .int .i64 c.d.s, .int .i64 c.d.w, .int .i64 c.d.b] 70)).alloc (.cells #[.int .i64 0, .int .i64 0, .int .i64 0, .int .i64 0, .int .i64 0, .int .i64 0, .int .i64 0, .int .i64 0, .int .i64 0, .int .i64 0, .int .i64 0, .int .i64 0, .int .i64 0, .int .i64 0, .int .i64 0, .int .i64 0, .int .i64 0, .int .i64 0, .int .i64 0, .int .i64 0, .int .i64 0, .int .i64 0, .int .i64 0, .int .i64 0] 70)) Br gR s a b c := ⟨(IsP.new (w := w) (a := a) (b := b) (c := c)).alloc (.cells #[.int .i64 0, .int .i64 0, .int .i64 0, .int .i64 0, .int .i64 0, .int .i64 0, .int .i64 0, .int .i64 0, .int .i64 0, .int .i64 0, .int .i64 0, .int .i64 0, .int .i64 0, .int .i64 0, .int .i64 0, .int .i64 0, .int .i64 0, .int .i64 0, .int .i64 0, .int .i64 0, .int .i64 0, .int .i64 0, .int .i64 0, .int .i64 0] 70), IsP.new2 (w := w) (o := (.cells #[.int .i64 a.x, .int .i64 a.y, .int .i64 a.d.t, .int .i64 a.d.n, .int .i64 a.d.e, .int .i64 a.d.s, .int .i64 a.d.w, .int .i64 a.d.b, .int .i64 b.x, .int .i64 b.y, .int .i64 b.d.t, .int .i64 b.d.n, .int .i64 b.d.e, .int .i64 b.d.s, .int .i64 b.d.w, .int .i64 b.d.b, .int .i64 c.x, .int .i64 c.y, .int .i64 c.d.t, .int .i64 c.d.n, .int .i64 c.d.e, .int .i64 c.d.s, .int .i64 c.d.w, .int .i64 c.d.b] 70)) (a := ⟨0, 0, ⟨0, 0, 0, 0, 0, 0⟩⟩) (b := ⟨0, 0, ⟨0, 0, 0, 0, 0, 0⟩⟩) (c := ⟨0, 0, ⟨0, 0, 0, 0, 0, 0⟩⟩), rowsBox_to (w0 := w) q0 hR rfl, q0⟩
  generalize hW : (w.alloc (.cells #[.int .i64 a.x, .int .i64 a.y, .int .i64 a.d.t, .int .i64 a.d.n, .int .i64 a.d.e, .int .i64 a.d.s, .int .i64 a.d.w, .int .i64 a.d.b, .int .i64 b.x, .int .i64 b.y, .int .i64 b.d.t, .int .i64 b.d.n, .int .i64 b.d.e, .int .i64 b.d.s, .int .i64 b.d.w, .int .i64 b.d.b, .int .i64 c.x, .int .i64 c.y, .int .i64 c.d.t, .int .i64 c.d.n, .int .i64 c.d.e, .int .i64 c.d.s, .int .i64 c.d.w, .int .i64 c.d.b] 70)).alloc (.cells #[.int .i64 0, .int .i64 0, .int .i64 0, .int .i64 0, .int .i64 0, .int .i64 0, .int .i64 0, .int .i64 0, .int .i64 0, .int .i64 0, .int .i64 0, .int .i64 0, .int .i64 0, .int .i64 0, .int .i64 0, .int .i64 0, .int .i64 0, .int .i64 0, .int .i64 0, .int .i64 0, .int .i64 0, .int .i64 0, .int .i64 0, .int .i64 0] 70) = W0 at T0
  have HW := hide hW
  clear hW q0 hR
  obtain ⟨r, hr⟩ : ∃ r, r = rollT c (dirIx d.toNat) := ⟨_, rfl⟩
  have HR := hide hr
  have HX := hide hx
  have HY := hide hy
  have HD := hide hd
  have HCA := hide (fun (wx : World) (x y : Int) (ha : RowsAt wx gR (rowsB s)) => cellAtL_any s gR x y wx hs hb ha)
  have HIX := hide (show ∀ wx : World, Calls Tryd.prog 73 #[.string ⟨#[48, 49, 50]⟩, .int .u8 50] wx fun e w' => e = .returned (.int .i64 2) ∧ wx = w' from fun wx => (indexIn_any ⟨#[48, 49, 50]⟩ 50 wx).mono fun e w' h => ⟨h.1.trans (congrArg (fun x => Ending.returned (.int .i64 x)) (by decide)), h.2⟩)
  clear hr hx hy hd hb hs
  have HT0 := hide T0
  obtain ⟨c0, c1, c2, c3, c4, c5, c6, c7, c8, c9, c10, c11, c12, c13, c14, c15, c16, c17, c18, c19, c20, c21, c22, c23⟩ := T0.1.all
  clear T0 c0 c1 c2 c3 c4 c5 c6 c7 c8 c9 c10 c11 c12 c13 c14 c15
  go_enter Tryd.func72, Tryd.ntmps72
  go_upto_region 1 with (fail)
  rw [HW.out]
  go_upto_region 2 with (go_at_call 73; refine (HIX.out _).mono ?_; rintro e w' ⟨rfl, rfl⟩)
  have em : (⟨#[50, d]⟩ : ByteArray)[1]'(by show 1 < 2; omega) = d := rfl
  have hl0 := HT0.out.1.lt
  have HRA := hide (IsS.new (w := W0) (s := ⟨0, 0, ⟨0, 0, 0, 0, 0, 0⟩⟩) (ty := 57))
  have HTA := hide (show MvI w (W0.alloc (.cells #[.int .i64 0, .int .i64 0, .int .i64 0, .int .i64 0, .int .i64 0, .int .i64 0, .int .i64 0, .int .i64 0] 57)) Br gR s a b c from mvI_to (w0 := W0) ((Below.refl _ _).alloc (Nat.le_refl _) _) HT0.out rfl rfl rfl rfl)
  have HRS := hide (fun wx => rolledState_any d c wx HD.out HX.out HY.out)
  go_cut [8] from 12 to 18 (fun t8 wx => ∃ B8, t8 = .pointer (some ⟨B8, 0, none⟩) ∧ IsS wx B8 r 57 ∧ MvI w wx Br gR s a b c)
  case first =>
    refine wp_region_held_drew (S := (fun w' => w'.cell? ⟨w.heap.size, 16, none⟩ = some (.int .i64 c.x) ∧ w'.cell? ⟨w.heap.size, 17, none⟩ = some (.int .i64 c.y) ∧ w'.cell? ⟨w.heap.size, 18, none⟩ = some (.int .i64 c.d.t) ∧ w'.cell? ⟨w.heap.size, 19, none⟩ = some (.int .i64 c.d.n) ∧ w'.cell? ⟨w.heap.size, 20, none⟩ = some (.int .i64 c.d.e) ∧ w'.cell? ⟨w.heap.size, 21, none⟩ = some (.int .i64 c.d.s) ∧ w'.cell? ⟨w.heap.size, 22, none⟩ = some (.int .i64 c.d.w) ∧ w'.cell? ⟨w.heap.size, 23, none⟩ = some (.int .i64 c.d.b))) (by kernel_rfl) (by refine ⟨?_, ?_, ?_, ?_, ?_, ?_, ?_, ?_⟩ <;> first | with_reducible assumption | assumption) (fun hHeld => ?_)
    refine takeD (i := 0) (v := ?_) 12 rfl rfl (by kernel_rfl) (by kernel_rfl) (by kernel_rfl) (fun _ _ _ h => h) (Or.inl ⟨by rfl, ?_⟩) (by assumption) ?_
    rotate_left 1
    · (intro w hSw; (try dsimp only at hSw); go_simp; (try with_reducible rfl))
    try simp only [Act.put, List.setIfInBounds_toArray, List.set_cons_zero, List.set_cons_succ]
    refine takeD (i := 1) (v := ?_) 13 rfl rfl (by kernel_rfl) (by kernel_rfl) (by kernel_rfl) (fun _ _ _ h => h) (Or.inl ⟨by rfl, ?_⟩) (by assumption) ?_
    rotate_left 1
    · (intro w hSw; (try dsimp only at hSw); go_simp; (try with_reducible rfl))
    try simp only [Act.put, List.setIfInBounds_toArray, List.set_cons_zero, List.set_cons_succ]
    refine takeD (i := 2) (v := ?_) 14 rfl rfl (by kernel_rfl) (by kernel_rfl) (by kernel_rfl) (fun _ _ _ h => h) (Or.inl ⟨by rfl, ?_⟩) (by assumption) ?_
    rotate_left 1
    · (intro w hSw; (try dsimp only at hSw); go_simp; (try with_reducible rfl))
    try simp only [Act.put, List.setIfInBounds_toArray, List.set_cons_zero, List.set_cons_succ]
    refine takeD (i := 3) (v := ?_) 15 rfl rfl (by kernel_rfl) (by kernel_rfl) (by kernel_rfl) (fun _ _ _ h => h) (Or.inl ⟨by rfl, ?_⟩) (by assumption) ?_
    rotate_left 1
    · (intro w hSw; (try dsimp only at hSw); go_simp; (try with_reducible rfl))
    try simp only [Act.put, List.setIfInBounds_toArray, List.set_cons_zero, List.set_cons_succ]
    refine takeD (i := 4) (v := ?_) 16 rfl rfl (by kernel_rfl) (by kernel_rfl) (by kernel_rfl) (fun _ _ _ h => h) (Or.inl ⟨by rfl, ?_⟩) (by assumption) ?_
    rotate_left 1
    · (intro w hSw; (try dsimp only at hSw); go_simp; (try with_reducible rfl))
    try simp only [Act.put, List.setIfInBounds_toArray, List.set_cons_zero, List.set_cons_succ]
    refine wpAnyH_ready (rs := [5, 6]) (by kernel_rfl) (by simp) ?_
    refine AllReadyH.cons (o := _) rfl (fun K hK => ?_) (AllReadyH.cons (o := _) rfl (fun K hK => ?_) AllReadyH.nil)
    · go_simp
      go_at_call 74
      (with_reducible refine (HRS.out _).mono ?_)
      rintro e w2 ⟨rfl, hb2⟩
      rw [← HR.out]
      have T2 := mvI_to hb2 HT0.out rfl rfl rfl rfl
      obtain ⟨-, -, -, -, -, -, -, -, -, -, -, -, -, -, -, -, x16, x17, x18, x19, x20, x21, x22, x23⟩ := T2.1.all
      have hl2 := T2.1.lt
      dsimp only
      refine hK.out _ _ (by refine ⟨?_, ?_, ?_, ?_, ?_, ?_, ?_, ?_⟩ <;> first | with_reducible assumption | assumption) (fun hHeld1 => ?_)
      clear hK
      try simp only [Act.put, List.setIfInBounds_toArray, List.set_cons_zero, List.set_cons_succ]
      refine wpAnyH_ready (rs := [6]) (by kernel_rfl) (by simp) ?_
      refine AllReadyH.cons (o := _) rfl (fun K hK => ?_) AllReadyH.nil
      go_simp
      have TA := mvI_to (w0 := w2) ((Below.refl _ _).alloc (Nat.le_refl _) (.cells #[.int .i64 0, .int .i64 0, .int .i64 0, .int .i64 0, .int .i64 0, .int .i64 0, .int .i64 0, .int .i64 0] 57)) T2 rfl rfl rfl rfl
      obtain ⟨-, -, -, -, -, -, -, -, -, -, -, -, -, -, -, -, y16, y17, y18, y19, y20, y21, y22, y23⟩ := TA.1.all
      refine hK.out _ _ (by refine ⟨?_, ?_, ?_, ?_, ?_, ?_, ?_, ?_⟩ <;> first | with_reducible assumption | assumption) (fun hHeld2 => ?_)
      clear hK
      try simp only [Act.put, List.setIfInBounds_toArray, List.set_cons_zero, List.set_cons_succ]
      refine wpAnyH_ready (rs := [7]) (by kernel_rfl) (by simp) ?_
      refine AllReadyH.cons (o := _) rfl (fun K hK => ?_) AllReadyH.nil
      go_simp
      have SF := IsS.new (w := w2) (s := r) (ty := 57)
      have TF := mvI_to (w0 := w2) ((Below.refl _ _).alloc (Nat.le_refl _) (.cells #[.int .i64 r.x, .int .i64 r.y, .int .i64 r.d.t, .int .i64 r.d.n, .int .i64 r.d.e, .int .i64 r.d.s, .int .i64 r.d.w, .int .i64 r.d.b] 57)) T2 rfl rfl rfl rfl
      obtain ⟨-, -, -, -, -, -, -, -, -, -, -, -, -, -, -, -, z16, z17, z18, z19, z20, z21, z22, z23⟩ := TF.1.all
      refine hK.out _ _ (by refine ⟨?_, ?_, ?_, ?_, ?_, ?_, ?_, ?_⟩ <;> first | with_reducible assumption | assumption) (fun hHeld3 => ?_)
      clear hK
      try simp only [Act.put, List.setIfInBounds_toArray, List.set_cons_zero, List.set_cons_succ]
      refine wpAnyH_done (by kernel_rfl) ?_ _
      go_wp2_with fail
      go_meet
      exact ⟨_, rfl, SF, TF⟩
    · go_simp
      obtain ⟨-, -, -, -, -, -, -, -, -, -, -, -, -, -, -, -, y16, y17, y18, y19, y20, y21, y22, y23⟩ := HTA.out.1.all
      refine hK.out _ _ (by refine ⟨?_, ?_, ?_, ?_, ?_, ?_, ?_, ?_⟩ <;> first | with_reducible assumption | assumption) (fun hHeld1 => ?_)
      clear hK
      try simp only [Act.put, List.setIfInBounds_toArray, List.set_cons_zero, List.set_cons_succ]
      refine wpAnyH_ready (rs := [5]) (by kernel_rfl) (by simp) ?_
      refine AllReadyH.cons (o := _) rfl (fun K hK => ?_) AllReadyH.nil
      go_simp
      go_at_call 74
      (with_reducible refine (HRS.out _).mono ?_)
      rintro e w2 ⟨rfl, hb2⟩
      rw [← HR.out]
      have T2 := mvI_to hb2 HTA.out rfl rfl rfl rfl
      have R2 := isS_to hb2 HRA.out rfl
      have hb02 : Below W0.heap.size W0 w2 := below_to hb2 ((Below.refl W0.heap.size W0).alloc (Nat.le_refl _) (.cells #[.int .i64 0, .int .i64 0, .int .i64 0, .int .i64 0, .int .i64 0, .int .i64 0, .int .i64 0, .int .i64 0] 57)) (by simp) rfl rfl rfl rfl
      clear hb2
      obtain ⟨-, -, -, -, -, -, -, -, -, -, -, -, -, -, -, -, x16, x17, x18, x19, x20, x21, x22, x23⟩ := T2.1.all
      dsimp only
      refine hK.out _ _ (by refine ⟨?_, ?_, ?_, ?_, ?_, ?_, ?_, ?_⟩ <;> first | with_reducible assumption | assumption) (fun hHeld2 => ?_)
      clear hK
      try simp only [Act.put, List.setIfInBounds_toArray, List.set_cons_zero, List.set_cons_succ]
      obtain ⟨lr, ⟨r0, r1, r2, r3, r4, r5, r6, r7⟩, e0, e1, e2, e3, e4, e5, e6, e7⟩ := R2.all
      refine wpAnyH_ready (rs := [7]) (by kernel_rfl) (by simp) ?_
      refine AllReadyH.cons (o := _) rfl (fun K hK => ?_) AllReadyH.nil
      go_simp
      have SF := R2.set8 r
      have TF := mvI_to (w0 := W0) (below_set8 hb02 (Nat.le_refl _) r) HT0.out rfl rfl rfl rfl
      clear r0 r1 r2 r3 r4 r5 r6 r7
      obtain ⟨-, -, -, -, -, -, -, -, -, -, -, -, -, -, -, -, z16, z17, z18, z19, z20, z21, z22, z23⟩ := TF.1.all
      refine hK.out _ _ (by refine ⟨?_, ?_, ?_, ?_, ?_, ?_, ?_, ?_⟩ <;> first | with_reducible assumption | assumption) (fun hHeld3 => ?_)
      clear hK
      try simp only [Act.put, List.setIfInBounds_toArray, List.set_cons_zero, List.set_cons_succ]
      refine wpAnyH_done (by kernel_rfl) ?_ _
      go_wp2_with fail
      go_meet
      exact ⟨_, rfl, SF, TF⟩
  obtain ⟨B8, rfl, SF, TF⟩ := hcut
  have hlB : B8 < wc.heap.size := SF.lt
  have HSF := hide SF
  have HTF := hide TF
  have hbx := TF.2.2.1.2.1
  obtain ⟨_, ⟨s0, s1, s2, s3, s4, s5, s6, s7⟩, -⟩ := SF.all
  have HRB := hide (show RowsAt wc.drew gR (rowsB s) from TF.2.2.1.2.2)
  obtain ⟨cc, hcc⟩ : ∃ cc, cc = cellI (splitP s.data.toList) r.x r.y := ⟨_, rfl⟩
  have HCC := hide hcc
  have hq0 : decide ((cc.toNat : Int) = 46) = true := by
    have := HF.out
    unfold floorL at this
    rw [← HR.out, ← hcc] at this
    exact this
  have hq1 := eq46' hq0
  have hq2 : (((cc.toNat : Nat) : Int) != 46) = false := by rw [bne, hq1]; rfl
  clear hcc hq0 SF TF
  have HIN := hide (show inAny [a, b, c] r.x r.y = false from by rw [HR.out]; exact hin2)
  clear hin hin2
  go_upto_region 3 with (fail)
  refine wp_region_held_drew (S := (fun w' => w'.cell? ⟨Br, 0, none⟩ = some (.slice (some ⟨gR, 0, none⟩) (rowsB s).length (rowsB s).length) ∧ w'.cell? ⟨B8, 0, none⟩ = some (.int .i64 r.x) ∧ w'.cell? ⟨B8, 1, none⟩ = some (.int .i64 r.y) ∧ w'.cell? ⟨B8, 2, none⟩ = some (.int .i64 r.d.t) ∧ w'.cell? ⟨B8, 3, none⟩ = some (.int .i64 r.d.n) ∧ w'.cell? ⟨B8, 4, none⟩ = some (.int .i64 r.d.e) ∧ w'.cell? ⟨B8, 5, none⟩ = some (.int .i64 r.d.s) ∧ w'.cell? ⟨B8, 6, none⟩ = some (.int .i64 r.d.w) ∧ w'.cell? ⟨B8, 7, none⟩ = some (.int .i64 r.d.b))) (by kernel_rfl) (by refine ⟨?_, ?_, ?_, ?_, ?_, ?_, ?_, ?_, ?_⟩ <;> assumption) (fun hHeld => ?_)
  refine takeD (i := 0) (v := ?_) 18 rfl rfl (by kernel_rfl) (by kernel_rfl) (by kernel_rfl) (fun _ _ _ h => h) (Or.inl ⟨by rfl, ?_⟩) (by assumption) ?_
  rotate_left 1
  · (intro w hSw; (try dsimp only at hSw); go_simp; (try with_reducible rfl))
  try simp only [Act.put, List.setIfInBounds_toArray, List.set_cons_zero, List.set_cons_succ]
  refine takeD (i := 1) (v := ?_) 19 rfl rfl (by kernel_rfl) (by kernel_rfl) (by kernel_rfl) (fun _ _ _ h => h) (Or.inl ⟨by rfl, ?_⟩) (by assumption) ?_
  rotate_left 1
  · (intro w hSw; (try dsimp only at hSw); go_simp; (try with_reducible rfl))
  try simp only [Act.put, List.setIfInBounds_toArray, List.set_cons_zero, List.set_cons_succ]
  refine takeD (i := 2) (v := ?_) 20 rfl rfl (by kernel_rfl) (by kernel_rfl) (by kernel_rfl) (fun _ _ _ h => h) (Or.inl ⟨by rfl, ?_⟩) (by assumption) ?_
  rotate_left 1
  · (intro w hSw; (try dsimp only at hSw); go_simp; (try with_reducible rfl))
  try simp only [Act.put, List.setIfInBounds_toArray, List.set_cons_zero, List.set_cons_succ]
  refine takeD (i := 3) (v := ?_) 21 rfl rfl (by kernel_rfl) (by kernel_rfl) (by kernel_rfl) (fun _ _ _ h => h) (Or.inl ⟨by rfl, ?_⟩) (by assumption) ?_
  rotate_left 1
  · (intro w hSw; (try dsimp only at hSw); go_simp; (try with_reducible rfl))
  try simp only [Act.put, List.setIfInBounds_toArray, List.set_cons_zero, List.set_cons_succ]
  refine takeD (i := 4) (v := ?_) 22 rfl rfl (by kernel_rfl) (by kernel_rfl) (by kernel_rfl) (fun _ _ _ h => h) (Or.inl ⟨by rfl, ?_⟩) (by assumption) ?_
  rotate_left 1
  · (intro w hSw; (try dsimp only at hSw); go_simp; (try with_reducible rfl))
  try simp only [Act.put, List.setIfInBounds_toArray, List.set_cons_zero, List.set_cons_succ]
  refine wpAnyH_ready (rs := [5]) (by kernel_rfl) (by simp) ?_
  refine AllReadyH.cons (o := _) rfl (fun K hK => ?_) AllReadyH.nil
  go_simp
  go_at_call 75
  (with_reducible refine (HCA.out _ r.x r.y HRB.out).mono ?_)
  rintro e w3 ⟨rfl, rfl⟩
  rw [← HCC.out]
  dsimp only
  refine hK.out _ _ (by refine ⟨?_, ?_, ?_, ?_, ?_, ?_, ?_, ?_, ?_⟩ <;> assumption) (fun hHeld_1 => ?_)
  clear hK
  try simp only [Act.put, List.setIfInBounds_toArray, List.set_cons_zero, List.set_cons_succ]
  refine takeD (i := 6) (v := ?_) 24 rfl rfl (by kernel_rfl) (by kernel_rfl) (by kernel_rfl) (fun _ _ _ h => h) (Or.inl ⟨by rfl, ?_⟩) (by assumption) ?_
  rotate_left 1
  · (intro w hSw; (try dsimp only at hSw); go_simp; (try with_reducible rfl))
  try simp only [Act.put, List.setIfInBounds_toArray, List.set_cons_zero, List.set_cons_succ]
  refine takeD (i := 7) (v := ?_) 25 rfl rfl (by kernel_rfl) (by kernel_rfl) (by kernel_rfl) (fun _ _ _ h => h) (Or.inl ⟨by rfl, ?_⟩) (by assumption) ?_
  rotate_left 1
  · (intro w hSw; (try dsimp only at hSw); go_simp; (try with_reducible rfl))
  try simp only [Act.put, List.setIfInBounds_toArray, List.set_cons_zero, List.set_cons_succ]
  refine takeD (i := 8) (v := ?_) 26 rfl rfl (by kernel_rfl) (by kernel_rfl) (by kernel_rfl) (fun _ _ _ h => h) (Or.inl ⟨by rfl, ?_⟩) (by assumption) ?_
  rotate_left 1
  · (intro w hSw; (try dsimp only at hSw); go_simp; (try with_reducible rfl))
  try simp only [Act.put, List.setIfInBounds_toArray, List.set_cons_zero, List.set_cons_succ]
  refine takeD (i := 9) (v := ?_) 27 rfl rfl (by kernel_rfl) (by kernel_rfl) (by kernel_rfl) (fun _ _ _ h => h) (Or.inl ⟨by rfl, ?_⟩) (by assumption) ?_
  rotate_left 1
  · (intro w hSw; (try dsimp only at hSw); go_simp; (try with_reducible rfl))
  try simp only [Act.put, List.setIfInBounds_toArray, List.set_cons_zero, List.set_cons_succ]
  refine wpAnyH_ready (rs := [10]) (by kernel_rfl) (by simp) ?_
  refine AllReadyH.cons (o := _) rfl (fun K hK => ?_) AllReadyH.nil
  go_simp
  go_at_call 65
  (with_reducible refine (inCellOf_any r _).mono ?_)
  rintro e w4 ⟨B2, rfl, hC4, hb4⟩
  have HC4 := hide hC4
  have HT4 := hide (mvI_to hb4 HTF.out rfl rfl rfl rfl)
  have HS4 := hide (isS_to hb4 HSF.out rfl)
  have HD4 := hide (stAt_p HT4.out.1)
  have hbx4 := HT4.out.2.2.1.2.1
  clear hb4 hC4
  obtain ⟨_, ⟨y0, y1, y2, y3, y4, y5, y6, y7⟩, -⟩ := HS4.out.all
  dsimp only
  refine hK.out _ _ (by refine ⟨?_, ?_, ?_, ?_, ?_, ?_, ?_, ?_, ?_⟩ <;> assumption) (fun hHeld_2 => ?_)
  clear hK
  try simp only [Act.put, List.setIfInBounds_toArray, List.set_cons_zero, List.set_cons_succ]
  refine wpAnyH_ready (rs := [11]) (by kernel_rfl) (by simp) ?_
  refine AllReadyH.cons (o := _) rfl (fun K hK => ?_) AllReadyH.nil
  go_simp
  go_at_call 64
  (with_reducible refine (hasIn_any [a, b, c] 3 w.heap.size 3 B2 r _ rfl (by omega) HD4.out HC4.out).mono ?_)
  rintro e w5 ⟨rfl, hb5⟩
  rw [HIN.out]
  have HT5 := hide (mvI_to hb5 HT4.out rfl rfl rfl rfl)
  have HS5 := hide (isS_to hb5 HS4.out rfl)
  have hbx5 := HT5.out.2.2.1.2.1
  clear hb5
  obtain ⟨_, ⟨t0, t1, t2, t3, t4, t5, t6, t7⟩, -⟩ := HS5.out.all
  dsimp only
  refine hK.out _ _ (by refine ⟨?_, ?_, ?_, ?_, ?_, ?_, ?_, ?_, ?_⟩ <;> assumption) (fun hHeld_3 => ?_)
  clear hK
  try simp only [Act.put, List.setIfInBounds_toArray, List.set_cons_zero, List.set_cons_succ]
  refine takeD (i := 12) (v := ?_) 30 rfl rfl (by kernel_rfl) (by kernel_rfl) (by kernel_rfl) (fun _ _ _ h => h) (Or.inl ⟨by rfl, ?_⟩) (by assumption) ?_
  rotate_left 1
  · (intro w hSw; (try dsimp only at hSw); go_simp; (try with_reducible rfl))
  try simp only [Act.put, List.setIfInBounds_toArray, List.set_cons_zero, List.set_cons_succ]
  refine wpAnyH_done (by kernel_rfl) ?_ _

  obtain ⟨-, -, -, -, -, -, -, -, -, -, -, -, -, -, -, -, p16, p17, p18, p19, p20, p21, p22, p23⟩ := HT5.out.1.all
  have hfr := HT5.out.1.free
  have f0 := hfr 16
  have f1 := hfr 17
  have f2 := hfr 18
  have f3 := hfr 19
  have f4 := hfr 20
  have f5 := hfr 21
  have f6 := hfr 22
  have f7 := hfr 23
  have P1 := HT5.out.1.put2 r
  have P2 : IsP _ (w.heap.size + 1) ⟨0, 0, ⟨0, 0, 0, 0, 0, 0⟩⟩ ⟨0, 0, ⟨0, 0, 0, 0, 0, 0⟩⟩ ⟨0, 0, ⟨0, 0, 0, 0, 0, 0⟩⟩ := ((((((((HT5.out.2.1.other (p := ⟨w.heap.size, 16, none⟩) (by simp) (.int .i64 r.x)).other (p := ⟨w.heap.size, 17, none⟩) (by simp) (.int .i64 r.y)).other (p := ⟨w.heap.size, 18, none⟩) (by simp) (.int .i64 r.d.t)).other (p := ⟨w.heap.size, 19, none⟩) (by simp) (.int .i64 r.d.n)).other (p := ⟨w.heap.size, 20, none⟩) (by simp) (.int .i64 r.d.e)).other (p := ⟨w.heap.size, 21, none⟩) (by simp) (.int .i64 r.d.s)).other (p := ⟨w.heap.size, 22, none⟩) (by simp) (.int .i64 r.d.w)).other (p := ⟨w.heap.size, 23, none⟩) (by simp) (.int .i64 r.d.b))
  have q1 := below_put HT5.out.2.2.2 (Nat.le_refl _) (.int .i64 r.x) (.int .i64 r.y) (.int .i64 r.d.t) (.int .i64 r.d.n) (.int .i64 r.d.e) (.int .i64 r.d.s) (.int .i64 r.d.w) (.int .i64 r.d.b) 16 17 18 19 20 21 22 23
  clear hfr
  go_upto_region 6 with (fail)
  have HP1 := hide P1
  have HP2 := hide P2
  have q2 := hide q1
  clear P1 P2 q1 p16 p17 p18 p19 p20 p21 p22 p23
  generalize ((((((((w5.setCell ⟨w.heap.size, 16, none⟩ (.int .i64 r.x)).setCell ⟨w.heap.size, 17, none⟩ (.int .i64 r.y)).setCell ⟨w.heap.size, 18, none⟩ (.int .i64 r.d.t)).setCell ⟨w.heap.size, 19, none⟩ (.int .i64 r.d.n)).setCell ⟨w.heap.size, 20, none⟩ (.int .i64 r.d.e)).setCell ⟨w.heap.size, 21, none⟩ (.int .i64 r.d.s)).setCell ⟨w.heap.size, 22, none⟩ (.int .i64 r.d.w)).setCell ⟨w.heap.size, 23, none⟩ (.int .i64 r.d.b)) = W6 at HP1 HP2 q2 ⊢
  have R1 := hide (show IsP (W6.setRow (w.heap.size + 1) #[.int .i64 a.x, .int .i64 a.y, .int .i64 a.d.t, .int .i64 a.d.n, .int .i64 a.d.e, .int .i64 a.d.s, .int .i64 a.d.w, .int .i64 a.d.b, .int .i64 b.x, .int .i64 b.y, .int .i64 b.d.t, .int .i64 b.d.n, .int .i64 b.d.e, .int .i64 b.d.s, .int .i64 b.d.w, .int .i64 b.d.b, .int .i64 r.x, .int .i64 r.y, .int .i64 r.d.t, .int .i64 r.d.n, .int .i64 r.d.e, .int .i64 r.d.s, .int .i64 r.d.w, .int .i64 r.d.b]) (w.heap.size + 1) a b r from setRow_heap W6 _ _ _ _ _ HP2.out)
  have q3 := hide (below_setRow q2.out (show w.heap.size ≤ w.heap.size + 1 by omega) #[.int .i64 a.x, .int .i64 a.y, .int .i64 a.d.t, .int .i64 a.d.n, .int .i64 a.d.e, .int .i64 a.d.s, .int .i64 a.d.w, .int .i64 a.d.b, .int .i64 b.x, .int .i64 b.y, .int .i64 b.d.t, .int .i64 b.d.n, .int .i64 b.d.e, .int .i64 b.d.s, .int .i64 b.d.w, .int .i64 b.d.b, .int .i64 r.x, .int .i64 r.y, .int .i64 r.d.t, .int .i64 r.d.n, .int .i64 r.d.e, .int .i64 r.d.s, .int .i64 r.d.w, .int .i64 r.d.b])
  go_wp2_with (first | (refine wpList_load_row rfl 70 (.tmp 3) rfl w.heap.size rfl _ _ _ _ HP1.out und_group rfl size_group ?_) | (refine wpList_store_row rfl 70 (.tmp 5) (.tmp 35) rfl (w.heap.size + 1) #[.int .i64 a.x, .int .i64 a.y, .int .i64 a.d.t, .int .i64 a.d.n, .int .i64 a.d.e, .int .i64 a.d.s, .int .i64 a.d.w, .int .i64 a.d.b, .int .i64 b.x, .int .i64 b.y, .int .i64 b.d.t, .int .i64 b.d.n, .int .i64 b.d.e, .int .i64 b.d.s, .int .i64 b.d.w, .int .i64 b.d.b, .int .i64 r.x, .int .i64 r.y, .int .i64 r.d.t, .int .i64 r.d.n, .int .i64 r.d.e, .int .i64 r.d.s, .int .i64 r.d.w, .int .i64 r.d.b] rfl rfl _ _ HP2.out (by kernel_rfl) (by kernel_rfl) (by kernel_rfl) ?_))
  exact bodyPost_ret (ret_group2 Tryd.results72 rfl rfl R1.out) rfl ⟨by rw [HR.out], q3.out⟩
end Go.Proofs.YtdndegonpdakkaaDoor
