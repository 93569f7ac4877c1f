/- The walks of the laws of RollBoxAlong and RollBox. -/
import Derived.Test.YtoojoghgbmpbpaaDoorBxAlongS
import Derived.Test.YtoojoghgbmpbpaaDoorWalksD
import Derived.Test.YtoojoghgbmpbpaaDoorOpenBox
namespace Go.Proofs.YtoojoghgbmpbpaaDoor
set_option maxRecDepth 100000
set_option linter.all false
open Go.RowKit

def rbaOk (l : List UInt8) (b : Bx) (L : List UInt8) : Bool := askX l b && isWord L && goesX l b L
def rbaV (l : List UInt8) (b : Bx) (L : List UInt8) : Bx := if rbaOk l b L = true then atX b L L.length else zeroX
/-- What the two ways hand back, in two cases. -/
def AlongP (l : List UInt8) (b : Bx) (L : List UInt8) (w : World) (e : Ending) (w' : World) : Prop :=
  (rbaOk l b L = true ∧ ∃ g cap, e = .returned (.tuple #[.slice (some ⟨g, 0, none⟩) (L.length + 1) cap, .bool true]) ∧ w'.ownsRow w.heap.size 27 3 (.slice (some ⟨g, 0, none⟩) (L.length + 1) cap) (L.length + 1) (cellsX (waysX b L L.length)) ∧ Below w.heap.size w w') ∨
  (rbaOk l b L = false ∧ e = .returned (.tuple #[.slice none 0 0, .bool false]) ∧ Below w.heap.size w w')
theorem alongP_of {l : List UInt8} {b : Bx} {L : List UInt8} {w w' : World} {e : Ending} (ha : askX l b = true) (hw : isWord L = true) (h : AlongX l b L w e w') : AlongP l b L w e w' := by
  unfold AlongP rbaOk
  rw [ha, hw]
  exact h
theorem alongP_no {l : List UInt8} {b : Bx} {L : List UInt8} {w w' : World} {e : Ending} (h : askX l b = false ∨ isWord L = false) (he : e = .returned (.tuple #[.slice none 0 0, .bool false]) ∧ Below w.heap.size w w') : AlongP l b L w e w' := by
  refine .inr ⟨?_, he⟩
  unfold rbaOk
  rcases h with h | h <;> rw [h]
  · rfl
  · rw [Bool.and_false]; rfl
theorem bxAlong_any (s : ByteArray) (b : Bx) (v : ByteArray) (w : World) (hs : s.size ≤ 1048576) (hv : v.size ≤ maxLen) : Calls Tryd.prog 48 #[.string s, Bx.v b, .string v] w (AlongP s.data.toList b v.data.toList w) := by
  cases ha : askX s.data.toList b
  · exact (bxAlong_no s b v w hs hv (.inl ha)).mono fun e w' h => alongP_no (.inl ha) h
  · cases hw : isWord v.data.toList
    · exact (bxAlong_no s b v w hs hv (.inr hw)).mono fun e w' h => alongP_no (.inr hw) h
    · have ha' := ha
      unfold askX at ha'
      rw [Bool.and_eq_true] at ha'
      exact (bxAlong_asked s b v w hs hv ha'.1 ha'.2 hw).mono fun e w' h => alongP_of ha hw h
theorem boxesAlong_any (s : ByteArray) (b : Bx) (v : ByteArray) (w : World) (hs : s.size ≤ 1048576) (hv : v.size ≤ maxLen) (hg : Glob w) : Calls Tryd.prog 49 #[.string s, Bx.v b, .string v] w (AlongP s.data.toList b v.data.toList w) := by
  cases ha : askX s.data.toList b
  · exact (boxesAlong_no s b v w hs hv hg (.inl ha)).mono fun e w' h => alongP_no (.inl ha) h
  · cases hw : isWord v.data.toList
    · exact (boxesAlong_no s b v w hs hv hg (.inr hw)).mono fun e w' h => alongP_no (.inr hw) h
    · have ha' := ha
      unfold askX at ha'
      rw [Bool.and_eq_true] at ha'
      exact (boxesAlong_asked s b v w hs hv hg ha'.1 ha'.2 hw).mono fun e w' h => alongP_of ha hw h
theorem word_small {l : List UInt8} {b : Bx} {v : ByteArray} (h : rbaOk l b v.data.toList = true) : v.size ≤ 60 := by
  unfold rbaOk at h
  simp only [Bool.and_eq_true] at h
  have := isWord_len h.1.2
  simpa using this
set_option maxHeartbeats 1600000 in
theorem specRBA_any (s : ByteArray) (b : Bx) (v : ByteArray) (w : World) (hs : s.size ≤ 1048576) (hv : v.size ≤ maxLen) : Calls Tryd.prog 23 #[.string s, Bx.v b, .string v] w fun e w' => e = .returned (.tuple #[Bx.v (rbaV s.data.toList b v.data.toList), .bool (rbaOk s.data.toList b v.data.toList)]) ∧ Below w.heap.size w w' := by
  have HV := hide (show rbaV s.data.toList b v.data.toList = if rbaOk s.data.toList b v.data.toList = true then atX b v.data.toList v.data.toList.length else zeroX from rfl)
  have HVL := hide (show v.data.toList.length = v.size by simp)
  have HSM := hide (fun h => word_small (l := s.data.toList) (b := b) (v := v) h)
  obtain ⟨r, hr⟩ : ∃ r, r = rbaV s.data.toList b v.data.toList := ⟨_, rfl⟩
  obtain ⟨ok, hok⟩ : ∃ ok, ok = rbaOk s.data.toList b v.data.toList := ⟨_, rfl⟩
  rw [← hr, ← hok] at HV ⊢
  have HOK := hide hok
  clear hr hok
  have q0 : Below w.heap.size w ((w.alloc (.cells #[.int .i64 b.x, .int .i64 b.y, .int .i64 b.p] 27)).alloc (.cells #[.int .i64 0, .int .i64 0, .int .i64 0] 27)) := by go_grown
  have R0 : IsX ((w.alloc (.cells #[.int .i64 b.x, .int .i64 b.y, .int .i64 b.p] 27)).alloc (.cells #[.int .i64 0, .int .i64 0, .int .i64 0] 27)) (w.heap.size + 1) ⟨0, 0, 0⟩ 27 := IsX.new2 (q := ⟨0, 0, 0⟩)
  go_enter Tryd.func23, Tryd.ntmps23
  go_wp2_with fail
  generalize (w.alloc (.cells #[.int .i64 b.x, .int .i64 b.y, .int .i64 b.p] 27)).alloc (.cells #[.int .i64 0, .int .i64 0, .int .i64 0] 27) = W0 at q0 R0 ⊢
  refine (bxAlong_any s b v _ hs hv).mono ?_
  rintro e w1 (⟨h, g, cap, rfl, O, hb1⟩ | ⟨h, rfl, hb1⟩)
  · have hlen := HSM.out h
    have hov : ok = true := HOK.out.trans h
    subst hov
    have hrv : r = atX b v.data.toList v.size := by rw [HV.out, if_pos rfl, HVL.out]
    rw [HVL.out] at O ⊢
    have R1 := isX_to hb1 R0 rfl
    have q1 := below_to hb1 q0 q0.size rfl rfl rfl rfl
    obtain ⟨y0, y1, y2⟩ := rowX_cells O (waysX_get b v.data.toList v.size v.size (Nat.le_refl _))
    rw [← hrv] at y0 y1 y2
    obtain ⟨l1, ⟨r0, r1, r2⟩, k0, k1, k2⟩ := R1.all
    have w1q : wrap64 (((v.size + 1 : Nat) : Int) - 1) = (v.size : Int) := by rw [IntWalk.wrap64_in _ (by omega)]; omega
    have w2q : wrap64 ((v.size : Int) + 1 - 1) = (v.size : Int) := by rw [IntWalk.wrap64_in _ (by omega)]; omega
    clear hb1 R0 q0 O hrv h HV HSM HOK
    go_wp2
    refine bodyPost_ret (ret_box2 Tryd.results23 rfl rfl (R1.set3 r)) rfl ⟨rfl, ?_⟩
    exact below_setX q1 (by omega) r
  · have hov : ok = false := HOK.out.trans h
    subst hov
    have hrv : r = zeroX := by rw [HV.out]; rfl
    subst hrv
    have R1 := isX_to hb1 R0 rfl
    have q1 := below_to hb1 q0 q0.size rfl rfl rfl rfl
    obtain ⟨l1, ⟨r0, r1, r2⟩, k0, k1, k2⟩ := R1.all
    clear hb1 R0 q0 h HV HSM HOK
    go_wp2
    refine bodyPost_ret (ret_box2 Tryd.results23 rfl rfl (R1.set3 ⟨0, 0, 0⟩)) rfl ⟨rfl, ?_⟩
    exact below_setX q1 (by omega) ⟨0, 0, 0⟩
set_option maxHeartbeats 1600000 in
theorem implRBA_any (s : ByteArray) (b : Bx) (v : ByteArray) (w : World) (hs : s.size ≤ 1048576) (hv : v.size ≤ maxLen) (hg : Glob w) : Calls Tryd.prog 24 #[.string s, Bx.v b, .string v] w fun e w' => e = .returned (.tuple #[Bx.v (rbaV s.data.toList b v.data.toList), .bool (rbaOk s.data.toList b v.data.toList)]) ∧ Below w.heap.size w w' := by
  have HV := hide (show rbaV s.data.toList b v.data.toList = if rbaOk s.data.toList b v.data.toList = true then atX b v.data.toList v.data.toList.length else zeroX from rfl)
  have HVL := hide (show v.data.toList.length = v.size by simp)
  have HSM := hide (fun h => word_small (l := s.data.toList) (b := b) (v := v) h)
  obtain ⟨r, hr⟩ : ∃ r, r = rbaV s.data.toList b v.data.toList := ⟨_, rfl⟩
  obtain ⟨ok, hok⟩ : ∃ ok, ok = rbaOk s.data.toList b v.data.toList := ⟨_, rfl⟩
  rw [← hr, ← hok] at HV ⊢
  have HOK := hide hok
  clear hr hok
  have q0 : Below w.heap.size w ((w.alloc (.cells #[.int .i64 b.x, .int .i64 b.y, .int .i64 b.p] 27)).alloc (.cells #[.int .i64 0, .int .i64 0, .int .i64 0] 27)) := by go_grown
  have R0 : IsX ((w.alloc (.cells #[.int .i64 b.x, .int .i64 b.y, .int .i64 b.p] 27)).alloc (.cells #[.int .i64 0, .int .i64 0, .int .i64 0] 27)) (w.heap.size + 1) ⟨0, 0, 0⟩ 27 := IsX.new2 (q := ⟨0, 0, 0⟩)
  have HGL := hide (show Glob ((w.alloc (.cells #[.int .i64 b.x, .int .i64 b.y, .int .i64 b.p] 27)).alloc (.cells #[.int .i64 0, .int .i64 0, .int .i64 0] 27)) from glob_to (w0 := w) q0 hg rfl)
  clear hg
  go_enter Tryd.func24, Tryd.ntmps24
  go_wp2_with fail
  generalize (w.alloc (.cells #[.int .i64 b.x, .int .i64 b.y, .int .i64 b.p] 27)).alloc (.cells #[.int .i64 0, .int .i64 0, .int .i64 0] 27) = W0 at q0 R0 HGL ⊢
  refine (boxesAlong_any s b v _ hs hv HGL.out).mono ?_
  rintro e w1 (⟨h, g, cap, rfl, O, hb1⟩ | ⟨h, rfl, hb1⟩)
  · have hlen := HSM.out h
    have hov : ok = true := HOK.out.trans h
    subst hov
    have hrv : r = atX b v.data.toList v.size := by rw [HV.out, if_pos rfl, HVL.out]
    rw [HVL.out] at O ⊢
    have R1 := isX_to hb1 R0 rfl
    have q1 := below_to hb1 q0 q0.size rfl rfl rfl rfl
    obtain ⟨y0, y1, y2⟩ := rowX_cells O (waysX_get b v.data.toList v.size v.size (Nat.le_refl _))
    rw [← hrv] at y0 y1 y2
    obtain ⟨l1, ⟨r0, r1, r2⟩, k0, k1, k2⟩ := R1.all
    have w1q : wrap64 (((v.size + 1 : Nat) : Int) - 1) = (v.size : Int) := by rw [IntWalk.wrap64_in _ (by omega)]; omega
    have w2q : wrap64 ((v.size : Int) + 1 - 1) = (v.size : Int) := by rw [IntWalk.wrap64_in _ (by omega)]; omega
    clear hb1 R0 q0 O hrv h HV HSM HOK HGL
    go_wp2
    refine bodyPost_ret (ret_box2 Tryd.results24 rfl rfl (R1.set3 r)) rfl ⟨rfl, ?_⟩
    exact below_setX q1 (by omega) r
  · have hov : ok = false := HOK.out.trans h
    subst hov
    have hrv : r = zeroX := by rw [HV.out]; rfl
    subst hrv
    have R1 := isX_to hb1 R0 rfl
    have q1 := below_to hb1 q0 q0.size rfl rfl rfl rfl
    obtain ⟨l1, ⟨r0, r1, r2⟩, k0, k1, k2⟩ := R1.all
    clear hb1 R0 q0 h HV HSM HOK HGL
    go_wp2
    refine bodyPost_ret (ret_box2 Tryd.results24 rfl rfl (R1.set3 ⟨0, 0, 0⟩)) rfl ⟨rfl, ?_⟩
    exact below_setX q1 (by omega) ⟨0, 0, 0⟩
set_option maxHeartbeats 1600000 in
theorem walk_RollBoxAlong (v0 : ByteArray) (hv0 : v0.size ≤ maxLen) (x1 : Bx) (v2 : ByteArray) (hv2 : v2.size ≤ maxLen) (w : World) (hg : Glob w) : Calls Tryd.prog 7 #[.string v0, Bx.v x1, .string v2] w fun e w' => e = .returned (.bool true) ∧ Below w.heap.size w w' := by
  have q0 : Below w.heap.size w (w.alloc (.cells #[.int .i64 x1.x, .int .i64 x1.y, .int .i64 x1.p] 24)) := by go_grown
  have HGL := hide (show Glob (w.alloc (.cells #[.int .i64 x1.x, .int .i64 x1.y, .int .i64 x1.p] 24)) from glob_to (w0 := w) q0 hg rfl)
  clear hg
  by_cases h0 : v0.size ≤ 1048576
  · have HS0 := hide h0
    by_cases h2 : v2.size ≤ 1048576
    · have HS2 := hide h2
      obtain ⟨z0, hz0⟩ : ∃ z, z = rbaV v0.data.toList x1 v2.data.toList := ⟨_, rfl⟩
      have HZ0 := hide hz0
      clear hz0
      obtain ⟨z1, hz1⟩ : ∃ z, z = rbaOk v0.data.toList x1 v2.data.toList := ⟨_, rfl⟩
      have HZ1 := hide hz1
      clear hz1
      have e1 : (z1 != z1) = false := by simp
      go_enter Tryd.func7, Tryd.ntmps7
      go_wp2_with fail
      have X1 : IsX (w.alloc (.cells #[.int .i64 x1.x, .int .i64 x1.y, .int .i64 x1.p] 24)) w.heap.size x1 24 := (IsX.new)
      generalize (w.alloc (.cells #[.int .i64 x1.x, .int .i64 x1.y, .int .i64 x1.p] 24)) = W0 at q0 HGL X1 ⊢
      obtain ⟨l_1, ⟨c_1, d_1, f_1⟩, -⟩ := X1.all
      go_wp2_with fail
      refine (toBox_any x1 _).mono ?_
      rintro e w2 ⟨rfl, hb2⟩
      have Y_x1_2 := isX_to hb2 X1 rfl
      have qb_2 := below_to hb2 q0 q0.size rfl rfl rfl rfl
      have Gb_2 := hide (glob_to hb2 HGL.out rfl)
      clear hb2
      clear l_1 c_1 d_1 f_1
      obtain ⟨l_3, ⟨c_3, d_3, f_3⟩, -⟩ := Y_x1_2.all
      go_wp2_with fail
      refine (specRBA_any v0 x1 v2 _ HS0.out hv2).mono ?_
      rintro e w4 ⟨rfl, hb4⟩
      have Y_x1_4 := isX_to hb4 Y_x1_2 rfl
      have qb_4 := below_to hb4 qb_2 qb_2.size rfl rfl rfl rfl
      have Gb_4 := hide (glob_to hb4 Gb_2.out rfl)
      clear hb4
      clear l_3 c_3 d_3 f_3
      obtain ⟨l_5, ⟨c_5, d_5, f_5⟩, -⟩ := Y_x1_4.all
      rw [← HZ0.out, ← HZ1.out]
      go_wp2_with fail
      clear l_5 c_5 d_5 f_5
      have A_x1_6 := Y_x1_4.alloc (.cells #[.int .i64 z0.x, .int .i64 z0.y, .int .i64 z0.p] 27)
      have V_6 : IsX (w4.alloc (.cells #[.int .i64 z0.x, .int .i64 z0.y, .int .i64 z0.p] 27)) w4.heap.size z0 27 := IsX.new
      have qa_6 := qb_4.alloc qb_4.size (.cells #[.int .i64 z0.x, .int .i64 z0.y, .int .i64 z0.p] 27)
      have Ga_6 := hide (show Glob (w4.alloc (.cells #[.int .i64 z0.x, .int .i64 z0.y, .int .i64 z0.p] 27)) from glob_to (w0 := w4) ((Below.refl _ _).alloc (Nat.le_refl _) _) Gb_4.out rfl)
      generalize w4.alloc (.cells #[.int .i64 z0.x, .int .i64 z0.y, .int .i64 z0.p] 27) = Wa_6 at A_x1_6 V_6 qa_6 Ga_6 ⊢
      generalize w4.heap.size = ba_6 at V_6 ⊢
      refine (toBox_any x1 _).mono ?_
      rintro e w7 ⟨rfl, hb7⟩
      have Y_x1_7 := isX_to hb7 A_x1_6 rfl
      have Y_z06_7 := isX_to hb7 V_6 rfl
      have qb_7 := below_to hb7 qa_6 qa_6.size rfl rfl rfl rfl
      have Gb_7 := hide (glob_to hb7 Ga_6.out rfl)
      clear hb7
      obtain ⟨l_8, ⟨c_8, d_8, f_8⟩, -⟩ := Y_x1_7.all
      obtain ⟨l_9, ⟨c_9, d_9, f_9⟩, -⟩ := Y_z06_7.all
      go_wp2_with fail
      refine (implRBA_any v0 x1 v2 _ HS0.out hv2 Gb_7.out).mono ?_
      rintro e w10 ⟨rfl, hb10⟩
      have Y_x1_10 := isX_to hb10 Y_x1_7 rfl
      have Y_z06_10 := isX_to hb10 Y_z06_7 rfl
      have qb_10 := below_to hb10 qb_7 qb_7.size rfl rfl rfl rfl
      have Gb_10 := hide (glob_to hb10 Gb_7.out rfl)
      clear hb10
      clear l_8 c_8 d_8 f_8
      clear l_9 c_9 d_9 f_9
      obtain ⟨l_11, ⟨c_11, d_11, f_11⟩, -⟩ := Y_x1_10.all
      obtain ⟨l_12, ⟨c_12, d_12, f_12⟩, -⟩ := Y_z06_10.all
      rw [← HZ0.out, ← HZ1.out]
      go_wp2_with fail
      clear l_11 c_11 d_11 f_11
      clear l_12 c_12 d_12 f_12
      have A_x1_13 := Y_x1_10.alloc (.cells #[.int .i64 z0.x, .int .i64 z0.y, .int .i64 z0.p] 27)
      have A_z06_13 := Y_z06_10.alloc (.cells #[.int .i64 z0.x, .int .i64 z0.y, .int .i64 z0.p] 27)
      have V_13 : IsX (w10.alloc (.cells #[.int .i64 z0.x, .int .i64 z0.y, .int .i64 z0.p] 27)) w10.heap.size z0 27 := IsX.new
      have qa_13 := qb_10.alloc qb_10.size (.cells #[.int .i64 z0.x, .int .i64 z0.y, .int .i64 z0.p] 27)
      have Ga_13 := hide (show Glob (w10.alloc (.cells #[.int .i64 z0.x, .int .i64 z0.y, .int .i64 z0.p] 27)) from glob_to (w0 := w10) ((Below.refl _ _).alloc (Nat.le_refl _) _) Gb_10.out rfl)
      generalize w10.alloc (.cells #[.int .i64 z0.x, .int .i64 z0.y, .int .i64 z0.p] 27) = Wa_13 at A_x1_13 A_z06_13 V_13 qa_13 Ga_13 ⊢
      generalize w10.heap.size = ba_13 at V_13 ⊢
      refine (eqBox_self z0 _).mono ?_
      rintro e w14 ⟨rfl, hb14⟩
      have Y_x1_14 := isX_to hb14 A_x1_13 rfl
      have Y_z06_14 := isX_to hb14 A_z06_13 rfl
      have Y_z013_14 := isX_to hb14 V_13 rfl
      have qb_14 := below_to hb14 qa_13 qa_13.size rfl rfl rfl rfl
      have Gb_14 := hide (glob_to hb14 Ga_13.out rfl)
      clear hb14
      obtain ⟨l_15, ⟨c_15, d_15, f_15⟩, -⟩ := Y_x1_14.all
      obtain ⟨l_16, ⟨c_16, d_16, f_16⟩, -⟩ := Y_z06_14.all
      obtain ⟨l_17, ⟨c_17, d_17, f_17⟩, -⟩ := Y_z013_14.all
      go_wp2
      go_returns
      exact ⟨rfl, qb_14⟩
    · go_enter Tryd.func7, Tryd.ntmps7
      go_wp2
      go_returns
      exact ⟨rfl, by go_grown⟩
  · go_enter Tryd.func7, Tryd.ntmps7
    go_wp2
    go_returns
    exact ⟨rfl, by go_grown⟩

/-! ### RollBox -/
def rbOk (l : List UInt8) (b : Bx) (L : List UInt8) : Bool := askX l b && decide (0 ≤ dirS L) && goodX (splitP l) (tipX b (dirS L))
def rbV (l : List UInt8) (b : Bx) (L : List UInt8) : Bx := if rbOk l b L = true then tipX b (dirS L) else zeroX
theorem rb_word {l : List UInt8} {b : Bx} {L : List UInt8} (h : 0 ≤ dirS L) : rbaOk l b L = rbOk l b L ∧ rbaV l b L = rbV l b L := by
  have h1 : L.length = 1 := by
    by_cases h1 : L.length = 1
    · exact h1
    · rw [dirS_len h1] at h
      exact absurd h (by decide)
  have hw : isWord L = decide (0 ≤ dirS L) := isWord_one h1
  obtain ⟨c, rfl⟩ := list_one h1
  have hd := dirS_sing c
  have e1 : rbaOk l b [c] = rbOk l b [c] := by
    unfold rbaOk rbOk
    rw [hw]
    congr 1
    unfold goesX
    rw [hd]
    show (List.all [0] fun k => goodX (splitP l) (atX b [c] (k + 1))) = _
    simp [atX, stepX]
  refine ⟨e1, ?_⟩
  unfold rbaV rbV
  rw [e1, hd]
  rfl
theorem rb_none {l : List UInt8} {b : Bx} {L : List UInt8} (h : ¬ 0 ≤ dirS L) : rbOk l b L = false ∧ rbV l b L = zeroX := by
  have e : rbOk l b L = false := by unfold rbOk; rw [decide_eq_false h, Bool.and_false]; rfl
  exact ⟨e, by unfold rbV; rw [e]; rfl⟩
set_option maxHeartbeats 1600000 in
theorem implRB_any (s : ByteArray) (b : Bx) (v : ByteArray) (w : World) (hs : s.size ≤ 1048576) (hv : v.size ≤ maxLen) (hg : Glob w) : Calls Tryd.prog 19 #[.string s, Bx.v b, .string v] w fun e w' => e = .returned (.tuple #[Bx.v (rbV s.data.toList b v.data.toList), .bool (rbOk s.data.toList b v.data.toList)]) ∧ Below w.heap.size w w' := by
  have q0 : Below w.heap.size w ((w.alloc (.cells #[.int .i64 b.x, .int .i64 b.y, .int .i64 b.p] 27)).alloc (.cells #[.int .i64 0, .int .i64 0, .int .i64 0] 27)) := by go_grown
  have X0 : IsX ((w.alloc (.cells #[.int .i64 b.x, .int .i64 b.y, .int .i64 b.p] 27)).alloc (.cells #[.int .i64 0, .int .i64 0, .int .i64 0] 27)) w.heap.size b 27 := IsX.new.alloc _
  have R0 : IsX ((w.alloc (.cells #[.int .i64 b.x, .int .i64 b.y, .int .i64 b.p] 27)).alloc (.cells #[.int .i64 0, .int .i64 0, .int .i64 0] 27)) (w.heap.size + 1) ⟨0, 0, 0⟩ 27 := IsX.new2 (q := ⟨0, 0, 0⟩)
  have HGL := hide (show Glob ((w.alloc (.cells #[.int .i64 b.x, .int .i64 b.y, .int .i64 b.p] 27)).alloc (.cells #[.int .i64 0, .int .i64 0, .int .i64 0] 27)) from glob_to (w0 := w) q0 hg rfl)
  clear hg
  by_cases hd : 0 ≤ dirS v.data.toList
  · obtain ⟨e1, e2⟩ := rb_word (l := s.data.toList) (b := b) hd
    rw [← e1, ← e2]
    have HD := hide (show decide (0 ≤ dirS v.data.toList) = true from decide_eq_true hd)
    clear hd e1 e2
    obtain ⟨r, hr⟩ : ∃ r, r = rbaV s.data.toList b v.data.toList := ⟨_, rfl⟩
    obtain ⟨ok, hok⟩ : ∃ ok, ok = rbaOk s.data.toList b v.data.toList := ⟨_, rfl⟩
    rw [← hr, ← hok]
    have HR := hide hr
    have HOK := hide hok
    clear hr hok
    go_enter Tryd.func19, Tryd.ntmps19
    go_wp2_with fail
    generalize (w.alloc (.cells #[.int .i64 b.x, .int .i64 b.y, .int .i64 b.p] 27)).alloc (.cells #[.int .i64 0, .int .i64 0, .int .i64 0] 27) = W0 at q0 X0 R0 HGL ⊢
    refine (isDirection_any v _ hv).mono ?_
    rintro e w1 ⟨rfl, rfl⟩
    rw [HD.out]
    obtain ⟨l0, ⟨c0, c1, c2⟩, -⟩ := X0.all
    go_wp2_with fail
    clear c0 c1 c2 l0
    refine (implRBA_any s b v _ hs hv HGL.out).mono ?_
    rintro e w2 ⟨rfl, hb2⟩
    rw [← HR.out, ← HOK.out]
    have R1 := isX_to hb2 R0 rfl
    have q1 := below_to hb2 q0 q0.size rfl rfl rfl rfl
    obtain ⟨l1, ⟨r0, r1, r2⟩, k0, k1, k2⟩ := R1.all
    clear hb2 R0 q0 X0 HGL
    go_wp2
    refine bodyPost_ret (ret_box2 Tryd.results19 rfl rfl (R1.set3 r)) rfl ⟨rfl, ?_⟩
    exact below_setX q1 (by omega) r
  · obtain ⟨e1, e2⟩ := rb_none (l := s.data.toList) (b := b) hd
    rw [e1, e2]
    have HD := hide (show decide (0 ≤ dirS v.data.toList) = false from decide_eq_false hd)
    clear hd e1 e2
    go_enter Tryd.func19, Tryd.ntmps19
    go_wp2_with fail
    generalize (w.alloc (.cells #[.int .i64 b.x, .int .i64 b.y, .int .i64 b.p] 27)).alloc (.cells #[.int .i64 0, .int .i64 0, .int .i64 0] 27) = W0 at q0 X0 R0 HGL ⊢
    refine (isDirection_any v _ hv).mono ?_
    rintro e w1 ⟨rfl, rfl⟩
    rw [HD.out]
    obtain ⟨l1, ⟨r0, r1, r2⟩, k0, k1, k2⟩ := R0.all
    go_wp2
    refine bodyPost_ret (ret_box2 Tryd.results19 rfl rfl (R0.set3 ⟨0, 0, 0⟩)) rfl ⟨rfl, ?_⟩
    exact below_setX q0 (by omega) ⟨0, 0, 0⟩
set_option maxHeartbeats 1600000 in
theorem specRB_no (s : ByteArray) (b : Bx) (v : ByteArray) (w : World) (hs : s.size ≤ 1048576) (h : askX s.data.toList b = false ∨ ¬ 0 ≤ dirS v.data.toList) : Calls Tryd.prog 18 #[.string s, Bx.v b, .string v] w fun e w' => e = .returned (.tuple #[Bx.v zeroX, .bool false]) ∧ Below w.heap.size w w' := by
  have q0 : Below w.heap.size w ((w.alloc (.cells #[.int .i64 b.x, .int .i64 b.y, .int .i64 b.p] 27)).alloc (.cells #[.int .i64 0, .int .i64 0, .int .i64 0] 27)) := by go_grown
  have R0 : IsX ((w.alloc (.cells #[.int .i64 b.x, .int .i64 b.y, .int .i64 b.p] 27)).alloc (.cells #[.int .i64 0, .int .i64 0, .int .i64 0] 27)) (w.heap.size + 1) ⟨0, 0, 0⟩ 27 := IsX.new2 (q := ⟨0, 0, 0⟩)
  have key : ∀ W0 : World, Calls Tryd.prog 39 #[.string s, Bx.v b] W0 fun e w' => ∃ x y a m c, e = .returned (.tuple #[.agg #[.int .i64 x, .int .i64 y, .slice a m c], .bool (askX s.data.toList b)]) ∧ Below W0.heap.size W0 w' := by
    intro W0
    unfold askX
    cases hgd : isGd s.data.toList
    · exact (bxAsked_bad s b W0 hs hgd).mono fun e w' hp => ⟨0, 0, none, 0, 0, hp.1, hp.2⟩
    · exact (bxAsked_in s b W0 hs hgd).mono fun e w' hp => by
        obtain ⟨W, Hh, n, g, cap, _, he, _, hb⟩ := hp
        exact ⟨_, _, _, _, _, he, hb⟩
  have HK := hide key
  clear key
  cases ha : askX s.data.toList b
  · rw [ha] at HK
    clear h ha
    go_enter Tryd.func18, Tryd.ntmps18
    go_wp2_with fail
    generalize (w.alloc (.cells #[.int .i64 b.x, .int .i64 b.y, .int .i64 b.p] 27)).alloc (.cells #[.int .i64 0, .int .i64 0, .int .i64 0] 27) = W0 at q0 R0 ⊢
    refine (HK.out _).mono ?_
    rintro e w1 ⟨x, y, a, m, c, rfl, hb1⟩
    have R1 := isX_to hb1 R0 rfl
    have q1 := below_to hb1 q0 q0.size rfl rfl rfl rfl
    obtain ⟨l1, ⟨r0, r1, r2⟩, k0, k1, k2⟩ := R1.all
    have R2 := (R1.set3 ⟨0, 0, 0⟩).alloc (.cells #[.int .i64 x, .int .i64 y, .slice a m c] 44)
    have qs := below_setX q1 (show w.heap.size ≤ w.heap.size + 1 by omega) ⟨0, 0, 0⟩
    have q2 := qs.alloc qs.size (.cells #[.int .i64 x, .int .i64 y, .slice a m c] 44)
    clear hb1 R0 q0 R1 q1
    go_wp2
    exact bodyPost_ret (ret_box2 Tryd.results18 rfl rfl R2) rfl ⟨rfl, q2⟩
  · have hd : dirS v.data.toList < 0 := by
      rcases h with h | h
      · rw [ha] at h; cases h
      · omega
    rw [ha] at HK
    have HDD := hide (fun wx => diDir_any v wx)
    generalize dirS v.data.toList = d at hd HDD
    clear h ha
    go_enter Tryd.func18, Tryd.ntmps18
    go_wp2_with fail
    generalize (w.alloc (.cells #[.int .i64 b.x, .int .i64 b.y, .int .i64 b.p] 27)).alloc (.cells #[.int .i64 0, .int .i64 0, .int .i64 0] 27) = W0 at q0 R0 ⊢
    refine (HK.out _).mono ?_
    rintro e w1 ⟨x, y, a, m, c, rfl, hb1⟩
    have R1 := isX_to hb1 R0 rfl
    have q1 := below_to hb1 q0 q0.size rfl rfl rfl rfl
    have R2 := R1.alloc (.cells #[.int .i64 x, .int .i64 y, .slice a m c] 44)
    have q2 := q1.alloc q1.size (.cells #[.int .i64 x, .int .i64 y, .slice a m c] 44)
    clear hb1 R0 q0 R1 q1
    go_wp2_with fail
    generalize w1.alloc (.cells #[.int .i64 x, .int .i64 y, .slice a m c] 44) = W2 at R2 q2 ⊢
    refine (HDD.out _).mono ?_
    rintro e w2 ⟨rfl, rfl⟩
    obtain ⟨l1, ⟨r0, r1, r2⟩, k0, k1, k2⟩ := R2.all
    go_wp2
    refine bodyPost_ret (ret_box2 Tryd.results18 rfl rfl (R2.set3 ⟨0, 0, 0⟩)) rfl ⟨rfl, ?_⟩
    exact below_setX q2 (by omega) ⟨0, 0, 0⟩
theorem dirS_le (L : List UInt8) : dirS L ≤ 3 := by
  unfold dirS
  split
  · omega
  · split
    · omega
    · split
      · omega
      · split <;> omega
set_option maxHeartbeats 1600000 in
theorem specRB_yes (s : ByteArray) (b : Bx) (v : ByteArray) (w : World) (hs : s.size ≤ 1048576) (h : askX s.data.toList b = true) (hd : 0 ≤ dirS v.data.toList) : Calls Tryd.prog 18 #[.string s, Bx.v b, .string v] w fun e w' => e = .returned (.tuple #[Bx.v (rbV s.data.toList b v.data.toList), .bool (rbOk s.data.toList b v.data.toList)]) ∧ Below w.heap.size w w' := by
  have ha := h
  unfold askX at ha
  rw [Bool.and_eq_true] at ha
  have H := hide ha.1
  have HB := hide ha.2
  have hnr := good_near ha.1 ha.2
  have hd3 := dirS_le v.data.toList
  have HOK := hide (show rbOk s.data.toList b v.data.toList = goodX (splitP s.data.toList) (tipX b (dirS v.data.toList)) from by unfold rbOk; rw [h, decide_eq_true hd]; rfl)
  have HV := hide (show rbV s.data.toList b v.data.toList = rolX s.data.toList b (dirS v.data.toList) from by unfold rbV rolX; rw [HOK.out])
  rw [HOK.out, HV.out]
  have HDD := hide (fun wx => diDir_any v wx)
  generalize dirS v.data.toList = d at hd hd3 HDD ⊢
  have HBR := hide (fun (W H n g cap : Nat) (hG : GndOk s.data.toList W H n) (wx : World) (hAx : BytesAt wx g (splitP s.data.toList).flatten) => bxRoll_any s.data.toList W H n hG g cap b d wx hAx hnr ⟨hd, hd3⟩)
  generalize rolX s.data.toList b d = r at HBR ⊢
  generalize goodX (splitP s.data.toList) (tipX b d) = ok at HBR ⊢
  have q0 : Below w.heap.size w ((w.alloc (.cells #[.int .i64 b.x, .int .i64 b.y, .int .i64 b.p] 27)).alloc (.cells #[.int .i64 0, .int .i64 0, .int .i64 0] 27)) := by go_grown
  have X0 : IsX ((w.alloc (.cells #[.int .i64 b.x, .int .i64 b.y, .int .i64 b.p] 27)).alloc (.cells #[.int .i64 0, .int .i64 0, .int .i64 0] 27)) w.heap.size b 27 := IsX.new.alloc _
  have R0 : IsX ((w.alloc (.cells #[.int .i64 b.x, .int .i64 b.y, .int .i64 b.p] 27)).alloc (.cells #[.int .i64 0, .int .i64 0, .int .i64 0] 27)) (w.heap.size + 1) ⟨0, 0, 0⟩ 27 := IsX.new2 (q := ⟨0, 0, 0⟩)
  clear h ha hnr HOK HV
  go_enter Tryd.func18, Tryd.ntmps18
  go_wp2_with fail
  generalize (w.alloc (.cells #[.int .i64 b.x, .int .i64 b.y, .int .i64 b.p] 27)).alloc (.cells #[.int .i64 0, .int .i64 0, .int .i64 0] 27) = W0 at q0 X0 R0 ⊢
  refine (bxAsked_in s b _ hs H.out).mono ?_
  rintro e w1 ⟨W, Hh, n, g, cap, hG, rfl, hA, hb1⟩
  rw [HB.out]
  have HG := hide hG
  have hlx := (isX_to hb1 R0 rfl).lt
  have X2 := (isX_to hb1 X0 rfl).alloc (.cells #[.int .i64 (W : Int), .int .i64 (Hh : Int), .slice (some ⟨g, 0, none⟩) n cap] 44)
  have R2 := (isX_to hb1 R0 rfl).alloc (.cells #[.int .i64 (W : Int), .int .i64 (Hh : Int), .slice (some ⟨g, 0, none⟩) n cap] 44)
  have G2 : IsG (w1.alloc (.cells #[.int .i64 (W : Int), .int .i64 (Hh : Int), .slice (some ⟨g, 0, none⟩) n cap] 44)) w1.heap.size (W : Int) (Hh : Int) (.slice (some ⟨g, 0, none⟩) n cap) := IsG.new
  have A2 : BytesAt (w1.alloc (.cells #[.int .i64 (W : Int), .int .i64 (Hh : Int), .slice (some ⟨g, 0, none⟩) n cap] 44)) g (splitP s.data.toList).flatten := bytesAt_to ((Below.refl _ _).alloc (Nat.le_refl _) _) hA rfl
  have q1 := below_to hb1 q0 q0.size rfl rfl rfl rfl
  have q2 := q1.alloc q1.size (.cells #[.int .i64 (W : Int), .int .i64 (Hh : Int), .slice (some ⟨g, 0, none⟩) n cap] 44)
  clear hb1 X0 R0 q0 hG q1 hA
  go_wp2_with fail
  generalize w1.alloc (.cells #[.int .i64 (W : Int), .int .i64 (Hh : Int), .slice (some ⟨g, 0, none⟩) n cap] 44) = W2 at X2 R2 G2 A2 q2 ⊢
  generalize w1.heap.size = gB at G2 hlx ⊢
  refine (HDD.out _).mono ?_
  rintro e w2 ⟨rfl, rfl⟩
  have hdn : ¬ d < 0 := by omega
  go_wp2_with fail
  have HA := hide (show BytesAt W2.drew g (splitP s.data.toList).flatten from A2)
  obtain ⟨l0, ⟨a0, a1, a2⟩, -⟩ := X2.all
  obtain ⟨l1, ⟨b0, b1, b2⟩, -⟩ := G2.all
  obtain ⟨l2, ⟨c0, c1, c2⟩, f0, f1, f2⟩ := R2.all
  go_region_held3 (fun w' => w'.cell? ⟨w.heap.size, 0, none⟩ = some (.int .i64 b.x) ∧ w'.cell? ⟨w.heap.size, 1, none⟩ = some (.int .i64 b.y) ∧ w'.cell? ⟨w.heap.size, 2, none⟩ = some (.int .i64 b.p) ∧ w'.cell? ⟨gB, 0, none⟩ = some (.int .i64 (W : Int)) ∧ w'.cell? ⟨gB, 1, none⟩ = some (.int .i64 (Hh : Int)) ∧ w'.cell? ⟨gB, 2, none⟩ = some (.slice (some ⟨g, 0, none⟩) n cap)) (first | (refine ⟨?_, ?_, ?_, ?_, ?_, ?_⟩ <;> with_reducible assumption) | (refine ⟨?_, ?_, ?_, ?_, ?_, ?_⟩ <;> (rw [cell_set3X (by omega)]; with_reducible assumption)) | (refine ⟨?_, ?_, ?_, ?_, ?_, ?_⟩ <;> assumption))
    (first
      | (go_at_call 40; (refine (HDD.out _).mono ?_); rintro e w' ⟨rfl, rfl⟩)
      | (go_at_call 41; (refine (HBR.out W Hh n g cap HG.out _ HA.out).mono ?_); rintro e w3 ⟨rfl, hb3⟩; have X3 := isX_to hb3 X2 rfl; have R3 := isX_to hb3 R2 rfl; have G3 := isG_to hb3 G2 rfl; have Q3 := below_to hb3 q2 q2.size rfl rfl rfl rfl; obtain ⟨m0, ⟨x0, x1, x2⟩, -⟩ := X3.all; obtain ⟨m1, ⟨y0, y1, y2⟩, -⟩ := G3.all; obtain ⟨m2, ⟨z0, z1, z2⟩, g0, g1, g2⟩ := R3.all; clear hb3))
  go_wp2
  refine bodyPost_ret (ret_box2 Tryd.results18 rfl rfl (R3.set3 r)) rfl ⟨rfl, ?_⟩
  exact below_setX Q3 (by omega) r
theorem specRB_any (s : ByteArray) (b : Bx) (v : ByteArray) (w : World) (hs : s.size ≤ 1048576) : Calls Tryd.prog 18 #[.string s, Bx.v b, .string v] w fun e w' => e = .returned (.tuple #[Bx.v (rbV s.data.toList b v.data.toList), .bool (rbOk s.data.toList b v.data.toList)]) ∧ Below w.heap.size w w' := by
  have none_ask : askX s.data.toList b = false → rbOk s.data.toList b v.data.toList = false ∧ rbV s.data.toList b v.data.toList = zeroX := by
    intro h
    have e : rbOk s.data.toList b v.data.toList = false := by unfold rbOk; rw [h]; rfl
    exact ⟨e, by unfold rbV; rw [e]; rfl⟩
  cases ha : askX s.data.toList b
  · obtain ⟨e1, e2⟩ := none_ask ha
    rw [e1, e2]
    exact specRB_no s b v w hs (.inl ha)
  · by_cases hd : 0 ≤ dirS v.data.toList
    · exact specRB_yes s b v w hs ha hd
    · obtain ⟨e1, e2⟩ := rb_none (l := s.data.toList) (b := b) hd
      rw [e1, e2]
      exact specRB_no s b v w hs (.inr hd)
set_option maxHeartbeats 1600000 in
theorem walk_RollBox (v0 : ByteArray) (hv0 : v0.size ≤ maxLen) (x1 : Bx) (v2 : ByteArray) (hv2 : v2.size ≤ maxLen) (w : World) (hg : Glob w) : Calls Tryd.prog 5 #[.string v0, Bx.v x1, .string v2] w fun e w' => e = .returned (.bool true) ∧ Below w.heap.size w w' := by
  have q0 : Below w.heap.size w (w.alloc (.cells #[.int .i64 x1.x, .int .i64 x1.y, .int .i64 x1.p] 24)) := by go_grown
  have HGL := hide (show Glob (w.alloc (.cells #[.int .i64 x1.x, .int .i64 x1.y, .int .i64 x1.p] 24)) from glob_to (w0 := w) q0 hg rfl)
  clear hg
  by_cases h0 : v0.size ≤ 1048576
  · have HS0 := hide h0
    by_cases h2 : v2.size ≤ 1048576
    · have HS2 := hide h2
      obtain ⟨z0, hz0⟩ : ∃ z, z = rbV v0.data.toList x1 v2.data.toList := ⟨_, rfl⟩
      have HZ0 := hide hz0
      clear hz0
      obtain ⟨z1, hz1⟩ : ∃ z, z = rbOk v0.data.toList x1 v2.data.toList := ⟨_, rfl⟩
      have HZ1 := hide hz1
      clear hz1
      have e1 : (z1 != z1) = false := by simp
      go_enter Tryd.func5, Tryd.ntmps5
      go_wp2_with fail
      have X1 : IsX (w.alloc (.cells #[.int .i64 x1.x, .int .i64 x1.y, .int .i64 x1.p] 24)) w.heap.size x1 24 := (IsX.new)
      generalize (w.alloc (.cells #[.int .i64 x1.x, .int .i64 x1.y, .int .i64 x1.p] 24)) = W0 at q0 HGL X1 ⊢
      obtain ⟨l_1, ⟨c_1, d_1, f_1⟩, -⟩ := X1.all
      go_wp2_with fail
      refine (toBox_any x1 _).mono ?_
      rintro e w2 ⟨rfl, hb2⟩
      have Y_x1_2 := isX_to hb2 X1 rfl
      have qb_2 := below_to hb2 q0 q0.size rfl rfl rfl rfl
      have Gb_2 := hide (glob_to hb2 HGL.out rfl)
      clear hb2
      clear l_1 c_1 d_1 f_1
      obtain ⟨l_3, ⟨c_3, d_3, f_3⟩, -⟩ := Y_x1_2.all
      go_wp2_with fail
      refine (specRB_any v0 x1 v2 _ HS0.out).mono ?_
      rintro e w4 ⟨rfl, hb4⟩
      have Y_x1_4 := isX_to hb4 Y_x1_2 rfl
      have qb_4 := below_to hb4 qb_2 qb_2.size rfl rfl rfl rfl
      have Gb_4 := hide (glob_to hb4 Gb_2.out rfl)
      clear hb4
      clear l_3 c_3 d_3 f_3
      obtain ⟨l_5, ⟨c_5, d_5, f_5⟩, -⟩ := Y_x1_4.all
      rw [← HZ0.out, ← HZ1.out]
      go_wp2_with fail
      clear l_5 c_5 d_5 f_5
      have A_x1_6 := Y_x1_4.alloc (.cells #[.int .i64 z0.x, .int .i64 z0.y, .int .i64 z0.p] 27)
      have V_6 : IsX (w4.alloc (.cells #[.int .i64 z0.x, .int .i64 z0.y, .int .i64 z0.p] 27)) w4.heap.size z0 27 := IsX.new
      have qa_6 := qb_4.alloc qb_4.size (.cells #[.int .i64 z0.x, .int .i64 z0.y, .int .i64 z0.p] 27)
      have Ga_6 := hide (show Glob (w4.alloc (.cells #[.int .i64 z0.x, .int .i64 z0.y, .int .i64 z0.p] 27)) from glob_to (w0 := w4) ((Below.refl _ _).alloc (Nat.le_refl _) _) Gb_4.out rfl)
      generalize w4.alloc (.cells #[.int .i64 z0.x, .int .i64 z0.y, .int .i64 z0.p] 27) = Wa_6 at A_x1_6 V_6 qa_6 Ga_6 ⊢
      generalize w4.heap.size = ba_6 at V_6 ⊢
      refine (toBox_any x1 _).mono ?_
      rintro e w7 ⟨rfl, hb7⟩
      have Y_x1_7 := isX_to hb7 A_x1_6 rfl
      have Y_z06_7 := isX_to hb7 V_6 rfl
      have qb_7 := below_to hb7 qa_6 qa_6.size rfl rfl rfl rfl
      have Gb_7 := hide (glob_to hb7 Ga_6.out rfl)
      clear hb7
      obtain ⟨l_8, ⟨c_8, d_8, f_8⟩, -⟩ := Y_x1_7.all
      obtain ⟨l_9, ⟨c_9, d_9, f_9⟩, -⟩ := Y_z06_7.all
      go_wp2_with fail
      refine (implRB_any v0 x1 v2 _ HS0.out hv2 Gb_7.out).mono ?_
      rintro e w10 ⟨rfl, hb10⟩
      have Y_x1_10 := isX_to hb10 Y_x1_7 rfl
      have Y_z06_10 := isX_to hb10 Y_z06_7 rfl
      have qb_10 := below_to hb10 qb_7 qb_7.size rfl rfl rfl rfl
      have Gb_10 := hide (glob_to hb10 Gb_7.out rfl)
      clear hb10
      clear l_8 c_8 d_8 f_8
      clear l_9 c_9 d_9 f_9
      obtain ⟨l_11, ⟨c_11, d_11, f_11⟩, -⟩ := Y_x1_10.all
      obtain ⟨l_12, ⟨c_12, d_12, f_12⟩, -⟩ := Y_z06_10.all
      rw [← HZ0.out, ← HZ1.out]
      go_wp2_with fail
      clear l_11 c_11 d_11 f_11
      clear l_12 c_12 d_12 f_12
      have A_x1_13 := Y_x1_10.alloc (.cells #[.int .i64 z0.x, .int .i64 z0.y, .int .i64 z0.p] 27)
      have A_z06_13 := Y_z06_10.alloc (.cells #[.int .i64 z0.x, .int .i64 z0.y, .int .i64 z0.p] 27)
      have V_13 : IsX (w10.alloc (.cells #[.int .i64 z0.x, .int .i64 z0.y, .int .i64 z0.p] 27)) w10.heap.size z0 27 := IsX.new
      have qa_13 := qb_10.alloc qb_10.size (.cells #[.int .i64 z0.x, .int .i64 z0.y, .int .i64 z0.p] 27)
      have Ga_13 := hide (show Glob (w10.alloc (.cells #[.int .i64 z0.x, .int .i64 z0.y, .int .i64 z0.p] 27)) from glob_to (w0 := w10) ((Below.refl _ _).alloc (Nat.le_refl _) _) Gb_10.out rfl)
      generalize w10.alloc (.cells #[.int .i64 z0.x, .int .i64 z0.y, .int .i64 z0.p] 27) = Wa_13 at A_x1_13 A_z06_13 V_13 qa_13 Ga_13 ⊢
      generalize w10.heap.size = ba_13 at V_13 ⊢
      refine (eqBox_self z0 _).mono ?_
      rintro e w14 ⟨rfl, hb14⟩
      have Y_x1_14 := isX_to hb14 A_x1_13 rfl
      have Y_z06_14 := isX_to hb14 A_z06_13 rfl
      have Y_z013_14 := isX_to hb14 V_13 rfl
      have qb_14 := below_to hb14 qa_13 qa_13.size rfl rfl rfl rfl
      have Gb_14 := hide (glob_to hb14 Ga_13.out rfl)
      clear hb14
      obtain ⟨l_15, ⟨c_15, d_15, f_15⟩, -⟩ := Y_x1_14.all
      obtain ⟨l_16, ⟨c_16, d_16, f_16⟩, -⟩ := Y_z06_14.all
      obtain ⟨l_17, ⟨c_17, d_17, f_17⟩, -⟩ := Y_z013_14.all
      go_wp2
      go_returns
      exact ⟨rfl, qb_14⟩
    · go_enter Tryd.func5, Tryd.ntmps5
      go_wp2
      go_returns
      exact ⟨rfl, by go_grown⟩
  · go_enter Tryd.func5, Tryd.ntmps5
    go_wp2
    go_returns
    exact ⟨rfl, by go_grown⟩
end Go.Proofs.YtoojoghgbmpbpaaDoor
