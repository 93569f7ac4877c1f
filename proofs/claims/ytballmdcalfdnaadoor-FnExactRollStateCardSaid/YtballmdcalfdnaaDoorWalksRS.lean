/- The walks of the law of RollState. -/
import Derived.Test.YtballmdcalfdnaaDoorWalksY
namespace Go.Proofs.YtballmdcalfdnaaDoor
set_option maxRecDepth 100000
set_option linter.all false
open Go.RowKit

theorem list_oneR {l : List UInt8} (h : l.length = 1) : ∃ c, l = [c] := by
  match l, h with
  | [c], _ => exact ⟨c, rfl⟩
theorem dirS_singR (c : UInt8) : dirS [c] = dirIx c.toNat := by
  have h1 : ∀ (c a : UInt8), ([c] = [a]) = ((c.toNat : Int) = (a.toNat : Int)) := by
    intro c a
    simp [← UInt8.toNat_inj]
    omega
  unfold dirS dirIx
  simp only [h1]
  rfl
theorem dirS_lenR {l : List UInt8} (h : l.length ≠ 1) : dirS l = -1 := by
  have h1 : ∀ c : UInt8, l ≠ [c] := by
    intro c e
    subst e
    simp at h
  unfold dirS
  simp [h1]
theorem isWord_oneR {l : List UInt8} (h : l.length = 1) : isWord l = decide (0 ≤ dirS l) := by
  obtain ⟨c, rfl⟩ := list_oneR h
  rw [dirS_singR]
  simp [isWord]
set_option maxHeartbeats 400000 in
theorem isDirectionR_any (s : ByteArray) (w : World) (hs : s.size ≤ maxLen) :
    Calls Tryd.prog 36 #[.string s] w fun e w' => e = .returned (.bool (decide (0 ≤ dirS s.data.toList))) ∧ w = w' := by
  by_cases h1 : s.size = 1
  · have e1 : ((s.size : Int) == 1) = true := by simp [h1]
    have e2 := hide (isWord_oneR (l := s.data.toList) (by simpa using h1))
    have hs' := hs
    clear h1 hs
    go_enter Tryd.func36, Tryd.ntmps36
    go_wp2_with fail
    refine (isRolls_any s _ hs').mono ?_
    rintro e w1 ⟨rfl, rfl⟩
    rw [e2.out]
    go_wp2
    go_returns
    exact ⟨rfl, rfl⟩
  · have e1 : ((s.size : Int) == 1) = false := by simp; omega
    have e2 : decide (0 ≤ dirS s.data.toList) = false := by
      rw [dirS_lenR (by simpa using h1)]
      rfl
    rw [e2]
    clear h1 e2
    go_enter Tryd.func36, Tryd.ntmps36
    go_wp2
    go_returns
    exact ⟨rfl, rfl⟩

/-- What RollState answers. -/
def rsB (l : List UInt8) (t : St) (L : List UInt8) : Bool := isBd l && (stL l t && (decide (0 ≤ dirS L) && canT l t (dirS L)))
def rsV (l : List UInt8) (t : St) (L : List UInt8) : St := if rsB l t L = true then rollT t (dirS L) else ⟨0, 0, ⟨0, 0, 0, 0, 0, 0⟩⟩
/-- One roll along a word of one sign. -/
theorem ra_one (l : List UInt8) (t : St) (L : List UInt8) (h : 0 ≤ dirS L) : raB l t L = rsB l t L ∧ raV l t L = rsV l t L := by
  have hl : L.length = 1 := by
    by_cases e : L.length = 1
    · exact e
    · have := dirS_lenR e
      omega
  obtain ⟨c, rfl⟩ := list_oneR hl
  have hw : isWord [c] = true := by rw [isWord_oneR hl]; simpa using h
  have hs : decide (stopT l t [c] = [c].length) = canT l t (dirS [c]) := by
    rw [dirS_singR]
    unfold stopT
    cases e : canT l t (dirIx c.toNat)
    · simp
    · simp [stopT]
  have hb : raB l t [c] = rsB l t [c] := by
    unfold raB rsB
    rw [hw, hs, show decide (0 ≤ dirS [c]) = true from by simpa using h]
  refine ⟨hb, ?_⟩
  unfold raV rsV
  rw [hb]
  split
  · rw [show ([c] : List UInt8).length = 0 + 1 from rfl, atT_succ t [c] 0 c rfl, dirS_singR]
    rfl
  · rfl

set_option maxHeartbeats 1600000 in
theorem implRS_no (s : ByteArray) (t : St) (v : ByteArray) (w : World) (hv : v.size ≤ maxLen) (h3 : ¬ 0 ≤ dirS v.data.toList) : Calls Tryd.prog 12 #[.string s, St.v t, .string v] w (fun e w' => e = .returned (.tuple #[St.v ⟨0, 0, ⟨0, 0, 0, 0, 0, 0⟩⟩, .bool false]) ∧ Below w.heap.size w w') := by
  have HD := hide (show decide (0 ≤ dirS v.data.toList) = false from by simpa using h3)
  clear h3
  go_enter Tryd.func12, Tryd.ntmps12
  go_wp2_with fail
  refine (isDirectionR_any v _ hv).mono ?_
  rintro e w1 ⟨rfl, rfl⟩
  rw [HD.out]
  have R1 := IsS.new2 (w := w) (o := (.cells #[.int .i64 t.x, .int .i64 t.y, .int .i64 t.d.t, .int .i64 t.d.n, .int .i64 t.d.e, .int .i64 t.d.s, .int .i64 t.d.w, .int .i64 t.d.b] 28)) (s := ⟨0, 0, ⟨0, 0, 0, 0, 0, 0⟩⟩) (ty := 28)
  have q1 : Below w.heap.size w ((w.alloc (.cells #[.int .i64 t.x, .int .i64 t.y, .int .i64 t.d.t, .int .i64 t.d.n, .int .i64 t.d.e, .int .i64 t.d.s, .int .i64 t.d.w, .int .i64 t.d.b] 28)).alloc (.cells #[.int .i64 0, .int .i64 0, .int .i64 0, .int .i64 0, .int .i64 0, .int .i64 0, .int .i64 0, .int .i64 0] 28)) := by go_grown
  generalize (w.alloc (.cells #[.int .i64 t.x, .int .i64 t.y, .int .i64 t.d.t, .int .i64 t.d.n, .int .i64 t.d.e, .int .i64 t.d.s, .int .i64 t.d.w, .int .i64 t.d.b] 28)).alloc (.cells #[.int .i64 0, .int .i64 0, .int .i64 0, .int .i64 0, .int .i64 0, .int .i64 0, .int .i64 0, .int .i64 0] 28) = W0 at R1 q1 ⊢
  obtain ⟨m1, ⟨c0, c1, c2, c3, c4, c5, c6, c7⟩, f0, f1, f2, f3, f4, f5, f6, f7⟩ := R1.all
  go_wp2
  refine bodyPost_ret (ret_state2 Tryd.results12 rfl rfl (R1.set8 ⟨0, 0, ⟨0, 0, 0, 0, 0, 0⟩⟩)) rfl ⟨rfl, ?_⟩
  exact below_set8 q1 (show w.heap.size ≤ w.heap.size + 1 from by omega) ⟨0, 0, ⟨0, 0, 0, 0, 0, 0⟩⟩

set_option maxHeartbeats 1600000 in
theorem implRS_go (s : ByteArray) (t : St) (v : ByteArray) (w : World) (hs : s.size ≤ 1048576) (hv : v.size ≤ 1048576) (hg : Glob w) (h3 : 0 ≤ dirS v.data.toList) : Calls Tryd.prog 12 #[.string s, St.v t, .string v] w (fun e w' => e = .returned (.tuple #[St.v (rsV s.data.toList t v.data.toList), .bool (rsB s.data.toList t v.data.toList)]) ∧ Below w.heap.size w w') := by
  have HG := hide (show Glob ((w.alloc (.cells #[.int .i64 t.x, .int .i64 t.y, .int .i64 t.d.t, .int .i64 t.d.n, .int .i64 t.d.e, .int .i64 t.d.s, .int .i64 t.d.w, .int .i64 t.d.b] 28)).alloc (.cells #[.int .i64 0, .int .i64 0, .int .i64 0, .int .i64 0, .int .i64 0, .int .i64 0, .int .i64 0, .int .i64 0] 28)) from glob_to (w0 := w) (by go_grown) hg rfl)
  have HD := hide (show decide (0 ≤ dirS v.data.toList) = true from by simpa using h3)
  have HO := hide (ra_one s.data.toList t v.data.toList h3)
  clear h3 hg
  go_enter Tryd.func12, Tryd.ntmps12
  go_wp2_with fail
  refine (isDirectionR_any v _ (bigLen hv)).mono ?_
  rintro e w1 ⟨rfl, rfl⟩
  rw [HD.out]
  have S1 := (IsS.new (w := w) (s := t) (ty := 28)).alloc (.cells #[.int .i64 0, .int .i64 0, .int .i64 0, .int .i64 0, .int .i64 0, .int .i64 0, .int .i64 0, .int .i64 0] 28)
  obtain ⟨m0, ⟨a0, a1, a2, a3, a4, a5, a6, a7⟩, -⟩ := S1.all
  go_wp2_with fail
  clear a0 a1 a2 a3 a4 a5 a6 a7 m0 S1
  refine (implRA_any s t v _ hs hv HG.out).mono ?_
  rintro e w1 ⟨rfl, hb1⟩
  rw [HO.out.1, HO.out.2]
  have R1 := isS_to hb1 (IsS.new2 (w := w) (o := (.cells #[.int .i64 t.x, .int .i64 t.y, .int .i64 t.d.t, .int .i64 t.d.n, .int .i64 t.d.e, .int .i64 t.d.s, .int .i64 t.d.w, .int .i64 t.d.b] 28)) (s := ⟨0, 0, ⟨0, 0, 0, 0, 0, 0⟩⟩) (ty := 28)) rfl
  have q1 : Below w.heap.size w w1 := below_after (by go_grown) hb1 (by simp; omega)
  clear hb1
  generalize hx : rsV s.data.toList t v.data.toList = x
  generalize hy : rsB s.data.toList t v.data.toList = y
  have HX := hide hx
  have HY := hide hy
  clear hx hy HO
  obtain ⟨m1, ⟨c0, c1, c2, c3, c4, c5, c6, c7⟩, f0, f1, f2, f3, f4, f5, f6, f7⟩ := R1.all
  go_wp2
  refine bodyPost_ret (ret_state2 Tryd.results12 rfl rfl (R1.set8 x)) rfl ⟨by rw [HX.out, HY.out], ?_⟩
  exact below_set8 q1 (show w.heap.size ≤ w.heap.size + 1 from by omega) x

set_option maxHeartbeats 3200000 in
theorem specRS_bad (s : ByteArray) (t : St) (v : ByteArray) (w : World) (hs : s.size ≤ 1048576) (h : isBd s.data.toList = false) : Calls Tryd.prog 10 #[.string s, St.v t, .string v] w (fun e w' => e = .returned (.tuple #[St.v ⟨0, 0, ⟨0, 0, 0, 0, 0, 0⟩⟩, .bool false]) ∧ Below w.heap.size w w') := by
  have H := hide h
  clear h
  go_enter Tryd.func10, Tryd.ntmps10
  go_wp2_with fail
  refine (boAsked_bad s t _ hs H.out).mono ?_
  rintro e w1 ⟨rfl, hb1⟩
  have R0 := (isS_to hb1 (IsS.new2 (w := w) (o := (.cells #[.int .i64 t.x, .int .i64 t.y, .int .i64 t.d.t, .int .i64 t.d.n, .int .i64 t.d.e, .int .i64 t.d.s, .int .i64 t.d.w, .int .i64 t.d.b] 28)) (s := ⟨0, 0, ⟨0, 0, 0, 0, 0, 0⟩⟩) (ty := 28)) rfl).alloc (.cells #[.int .i64 0, .int .i64 0, .slice none 0 0] 50)
  have q0 : Below w.heap.size w w1 := below_after (by go_grown) hb1 (by simp; omega)
  have q1 := q0.alloc q0.size (.cells #[.int .i64 0, .int .i64 0, .slice none 0 0] 50)
  clear hb1 q0
  obtain ⟨m1, ⟨c0, c1, c2, c3, c4, c5, c6, c7⟩, f0, f1, f2, f3, f4, f5, f6, f7⟩ := R0.all
  go_wp2
  refine bodyPost_ret (ret_state2 Tryd.results10 rfl rfl (R0.set8 ⟨0, 0, ⟨0, 0, 0, 0, 0, 0⟩⟩)) rfl ⟨rfl, ?_⟩
  exact below_set8 q1 (show w.heap.size ≤ w.heap.size + 1 from by omega) ⟨0, 0, ⟨0, 0, 0, 0, 0, 0⟩⟩

set_option maxHeartbeats 3200000 in
theorem specRS_off (s : ByteArray) (t : St) (v : ByteArray) (w : World) (hs : s.size ≤ 1048576) (h : isBd s.data.toList = true) (h2 : stL s.data.toList t = false) : Calls Tryd.prog 10 #[.string s, St.v t, .string v] w (fun e w' => e = .returned (.tuple #[St.v ⟨0, 0, ⟨0, 0, 0, 0, 0, 0⟩⟩, .bool false]) ∧ Below w.heap.size w w') := by
  have H := hide h
  have HST := hide h2
  clear h h2
  go_enter Tryd.func10, Tryd.ntmps10
  go_wp2_with fail
  refine (boAsked_in s t _ hs H.out).mono ?_
  rintro e w1 ⟨W, Hh, n, g, cap, hG, rfl, hA, hb1⟩
  rw [HST.out]
  have R0 := isS_to hb1 (IsS.new2 (w := w) (o := (.cells #[.int .i64 t.x, .int .i64 t.y, .int .i64 t.d.t, .int .i64 t.d.n, .int .i64 t.d.e, .int .i64 t.d.s, .int .i64 t.d.w, .int .i64 t.d.b] 28)) (s := ⟨0, 0, ⟨0, 0, 0, 0, 0, 0⟩⟩) (ty := 28)) rfl
  have q0 : Below w.heap.size w w1 := below_after (by go_grown) hb1 (by simp; omega)
  have R1 := R0.alloc (.cells #[.int .i64 (W : Int), .int .i64 (Hh : Int), .slice (some ⟨g, 0, none⟩) n cap] 50)
  have q1 := q0.alloc q0.size (.cells #[.int .i64 (W : Int), .int .i64 (Hh : Int), .slice (some ⟨g, 0, none⟩) n cap] 50)
  clear hb1 q0 R0 hG hA
  obtain ⟨m1, ⟨c0, c1, c2, c3, c4, c5, c6, c7⟩, f0, f1, f2, f3, f4, f5, f6, f7⟩ := R1.all
  go_wp2
  refine bodyPost_ret (ret_state2 Tryd.results10 rfl rfl (R1.set8 ⟨0, 0, ⟨0, 0, 0, 0, 0, 0⟩⟩)) rfl ⟨rfl, ?_⟩
  exact below_set8 q1 (show w.heap.size ≤ w.heap.size + 1 from by omega) ⟨0, 0, ⟨0, 0, 0, 0, 0, 0⟩⟩

set_option maxHeartbeats 3200000 in
theorem specRS_dir (s : ByteArray) (t : St) (v : ByteArray) (w : World) (hs : s.size ≤ 1048576) (h : isBd s.data.toList = true) (h2 : stL s.data.toList t = true) (h3 : ¬ 0 ≤ dirS v.data.toList) : Calls Tryd.prog 10 #[.string s, St.v t, .string v] w (fun e w' => e = .returned (.tuple #[St.v ⟨0, 0, ⟨0, 0, 0, 0, 0, 0⟩⟩, .bool false]) ∧ Below w.heap.size w w') := by
  have H := hide h
  have HST := hide h2
  have HD := hide h3
  clear h h2 h3
  go_enter Tryd.func10, Tryd.ntmps10
  go_wp2_with fail
  refine (boAsked_in s t _ hs H.out).mono ?_
  rintro e w1 ⟨W, Hh, n, g, cap, hG, rfl, hA, hb1⟩
  rw [HST.out]
  have R0 := isS_to hb1 (IsS.new2 (w := w) (o := (.cells #[.int .i64 t.x, .int .i64 t.y, .int .i64 t.d.t, .int .i64 t.d.n, .int .i64 t.d.e, .int .i64 t.d.s, .int .i64 t.d.w, .int .i64 t.d.b] 28)) (s := ⟨0, 0, ⟨0, 0, 0, 0, 0, 0⟩⟩) (ty := 28)) rfl
  have q0 : Below w.heap.size w w1 := below_after (by go_grown) hb1 (by simp; omega)
  have R1 := R0.alloc (.cells #[.int .i64 (W : Int), .int .i64 (Hh : Int), .slice (some ⟨g, 0, none⟩) n cap] 50)
  have q1 := q0.alloc q0.size (.cells #[.int .i64 (W : Int), .int .i64 (Hh : Int), .slice (some ⟨g, 0, none⟩) n cap] 50)
  clear hb1 q0 R0 hG hA
  go_wp2_with fail
  refine (diDir_any v _).mono ?_
  rintro e w2 ⟨rfl, rfl⟩
  generalize hkk : dirS v.data.toList = k at HD
  have hk : k < 0 := by have := HD.out; omega
  clear hkk
  obtain ⟨m1, ⟨c0, c1, c2, c3, c4, c5, c6, c7⟩, f0, f1, f2, f3, f4, f5, f6, f7⟩ := R1.all
  go_wp2
  refine bodyPost_ret (ret_state2 Tryd.results10 rfl rfl (R1.set8 ⟨0, 0, ⟨0, 0, 0, 0, 0, 0⟩⟩)) rfl ⟨rfl, ?_⟩
  exact below_set8 q1 (show w.heap.size ≤ w.heap.size + 1 from by omega) ⟨0, 0, ⟨0, 0, 0, 0, 0, 0⟩⟩

set_option maxHeartbeats 3200000 in
theorem specRS_go (s : ByteArray) (t : St) (v : ByteArray) (w : World) (hs : s.size ≤ 1048576) (h : isBd s.data.toList = true) (h2 : stL s.data.toList t = true) (h3 : 0 ≤ dirS v.data.toList) : Calls Tryd.prog 10 #[.string s, St.v t, .string v] w (fun e w' => e = .returned (.tuple #[St.v (rolT s.data.toList t (dirS v.data.toList)), .bool (canT s.data.toList t (dirS v.data.toList))]) ∧ Below w.heap.size w w') := by
  have hfl : floorL s.data.toList t.x t.y = true := (Bool.and_eq_true_iff.1 h2).1
  have HN := hide (floor_near h hfl)
  clear hfl
  have H := hide h
  have HST := hide h2
  have HD := hide h3
  clear h h2 h3
  go_enter Tryd.func10, Tryd.ntmps10
  go_wp2_with fail
  refine (boAsked_in s t _ hs H.out).mono ?_
  rintro e w1 ⟨W, Hh, n, g, cap, hG, rfl, hA, hb1⟩
  rw [HST.out]
  have R0 := isS_to hb1 (IsS.new2 (w := w) (o := (.cells #[.int .i64 t.x, .int .i64 t.y, .int .i64 t.d.t, .int .i64 t.d.n, .int .i64 t.d.e, .int .i64 t.d.s, .int .i64 t.d.w, .int .i64 t.d.b] 28)) (s := ⟨0, 0, ⟨0, 0, 0, 0, 0, 0⟩⟩) (ty := 28)) rfl
  have q0 : Below w.heap.size w w1 := below_after (by go_grown) hb1 (by simp; omega)
  have R1 := R0.alloc (.cells #[.int .i64 (W : Int), .int .i64 (Hh : Int), .slice (some ⟨g, 0, none⟩) n cap] 50)
  have q1 := q0.alloc q0.size (.cells #[.int .i64 (W : Int), .int .i64 (Hh : Int), .slice (some ⟨g, 0, none⟩) n cap] 50)
  have S1 := (isS_to hb1 ((IsS.new (w := w) (s := t) (ty := 28)).alloc (.cells #[.int .i64 0, .int .i64 0, .int .i64 0, .int .i64 0, .int .i64 0, .int .i64 0, .int .i64 0, .int .i64 0] 28)) rfl).alloc (.cells #[.int .i64 (W : Int), .int .i64 (Hh : Int), .slice (some ⟨g, 0, none⟩) n cap] 50)
  have G1 := IsG.new (w := w1) (x := (W : Int)) (y := (Hh : Int)) (v := .slice (some ⟨g, 0, none⟩) n cap)
  have A1 : BytesAt (w1.alloc (.cells #[.int .i64 (W : Int), .int .i64 (Hh : Int), .slice (some ⟨g, 0, none⟩) n cap] 50)) g (splitP s.data.toList).flatten := bytesAt_to ((Below.refl _ _).alloc (Nat.le_refl _) _) hA rfl
  have HG := hide hG
  have hz := R0.lt
  clear hb1 q0 R0 hA hG
  go_wp2_with fail
  refine (diDir_any v _).mono ?_
  rintro e w2 ⟨rfl, rfl⟩
  have HDD := hide (show ∀ wx : World, Calls Tryd.prog 33 #[.string v] wx (fun e w' => e = .returned (.int .i64 (dirS v.data.toList)) ∧ wx = w') from fun wx => diDir_any v wx)
  have HBR := hide (fun (wx : World) (hAx : BytesAt wx g (splitP s.data.toList).flatten) => boRoll_any s.data.toList W Hh n HG.out g cap t (dirS v.data.toList) wx hAx HN.out.1 HN.out.2)
  generalize hk : dirS v.data.toList = k at HD HDD HBR ⊢
  generalize hr : rolT s.data.toList t k = r at HBR ⊢
  generalize hb : canT s.data.toList t k = b at HBR ⊢
  have HK := hide hk
  have HR := hide hr
  have HB := hide hb
  clear hk hr hb
  have hk0 : ¬ k < 0 := by have := HD.out; omega
  generalize hB : w1.heap.size = B at G1 hz ⊢
  generalize w1.alloc (.cells #[.int .i64 (W : Int), .int .i64 (Hh : Int), .slice (some ⟨g, 0, none⟩) n cap] 50) = W1 at R1 S1 G1 A1 q1 ⊢
  clear hB
  have HA := hide (show BytesAt W1.drew g (splitP s.data.toList).flatten from A1)
  clear A1
  go_upto_region 4 with (fail)
  obtain ⟨l0, ⟨a0, a1, a2, a3, a4, a5, a6, a7⟩, -⟩ := S1.all
  obtain ⟨l2, ⟨d0, d1, d2⟩, -⟩ := G1.all
  go_region_held3 (fun w' => w'.cell? ⟨w.heap.size, 0, none⟩ = some (.int .i64 t.x) ∧ w'.cell? ⟨w.heap.size, 1, none⟩ = some (.int .i64 t.y) ∧ w'.cell? ⟨w.heap.size, 2, none⟩ = some (.int .i64 t.d.t) ∧ w'.cell? ⟨w.heap.size, 3, none⟩ = some (.int .i64 t.d.n) ∧ w'.cell? ⟨w.heap.size, 4, none⟩ = some (.int .i64 t.d.e) ∧ w'.cell? ⟨w.heap.size, 5, none⟩ = some (.int .i64 t.d.s) ∧ w'.cell? ⟨w.heap.size, 6, none⟩ = some (.int .i64 t.d.w) ∧ w'.cell? ⟨w.heap.size, 7, none⟩ = some (.int .i64 t.d.b) ∧ w'.cell? ⟨B, 0, none⟩ = some (.int .i64 (W : Int)) ∧ w'.cell? ⟨B, 1, none⟩ = some (.int .i64 (Hh : Int)) ∧ w'.cell? ⟨B, 2, none⟩ = some (.slice (some ⟨g, 0, none⟩) n cap)) (first | (refine ⟨?_, ?_, ?_, ?_, ?_, ?_, ?_, ?_, ?_, ?_, ?_⟩ <;> with_reducible assumption) | (refine ⟨?_, ?_, ?_, ?_, ?_, ?_, ?_, ?_, ?_, ?_, ?_⟩ <;> (rw [cell_set8 (by omega)]; with_reducible assumption)) | (refine ⟨?_, ?_, ?_, ?_, ?_, ?_, ?_, ?_, ?_, ?_, ?_⟩ <;> assumption))
    (first
      | (go_at_call 33; (refine (HDD.out _).mono ?_); rintro e w' ⟨rfl, rfl⟩)
      | (go_at_call 34; (refine (HBR.out _ HA.out).mono ?_); rintro e w2 ⟨rfl, hb2⟩; have R2 := isS_to hb2 R1 rfl; have Q2 := below_to hb2 q1 q1.size rfl rfl rfl rfl; obtain ⟨m0, ⟨x0, x1, x2, x3, x4, x5, x6, x7⟩, -⟩ := (isS_to hb2 S1 rfl).all; obtain ⟨m2, ⟨y0, y1, y2⟩, -⟩ := (isG_to hb2 G1 rfl).all; obtain ⟨m1, ⟨c0, c1, c2, c3, c4, c5, c6, c7⟩, f0, f1, f2, f3, f4, f5, f6, f7⟩ := R2.all; clear hb2))
  go_wp2
  refine bodyPost_ret (ret_state2 Tryd.results10 rfl rfl (R2.set8 r)) rfl ⟨by rw [HK.out, HR.out, HB.out], ?_⟩
  exact below_set8 Q2 (show w.heap.size ≤ w.heap.size + 1 from by omega) r

theorem specRS_any (s : ByteArray) (t : St) (v : ByteArray) (w : World) (hs : s.size ≤ 1048576) (hv : v.size ≤ 1048576) : Calls Tryd.prog 10 #[.string s, St.v t, .string v] w fun e w' => e = .returned (.tuple #[St.v (rsV s.data.toList t v.data.toList), .bool (rsB s.data.toList t v.data.toList)]) ∧ Below w.heap.size w w' := by
  unfold rsV
  cases h : isBd s.data.toList
  · have e : rsB s.data.toList t v.data.toList = false := by unfold rsB; rw [h]; rfl
    rw [e, if_neg (by decide)]
    exact specRS_bad s t v w hs h
  · cases h2 : stL s.data.toList t
    · have e : rsB s.data.toList t v.data.toList = false := by unfold rsB; rw [h, h2]; rfl
      rw [e, if_neg (by decide)]
      exact specRS_off s t v w hs h h2
    · by_cases h3 : 0 ≤ dirS v.data.toList
      · have e : rsB s.data.toList t v.data.toList = canT s.data.toList t (dirS v.data.toList) := by
          unfold rsB
          rw [h, h2, show decide (0 ≤ dirS v.data.toList) = true from by simpa using h3]
          rfl
        rw [e]
        have := specRS_go s t v w hs h h2 h3
        exact this
      · have e : rsB s.data.toList t v.data.toList = false := by
          unfold rsB
          rw [h, h2, show decide (0 ≤ dirS v.data.toList) = false from by simpa using h3]
          rfl
        rw [e, if_neg (by decide)]
        exact specRS_dir s t v w hs h h2 h3
theorem implRS_any (s : ByteArray) (t : St) (v : ByteArray) (w : World) (hs : s.size ≤ 1048576) (hv : v.size ≤ 1048576) (hg : Glob w) : Calls Tryd.prog 12 #[.string s, St.v t, .string v] w fun e w' => e = .returned (.tuple #[St.v (rsV s.data.toList t v.data.toList), .bool (rsB s.data.toList t v.data.toList)]) ∧ Below w.heap.size w w' := by
  by_cases h3 : 0 ≤ dirS v.data.toList
  · exact implRS_go s t v w hs hv hg h3
  · have e : rsB s.data.toList t v.data.toList = false := by
      unfold rsB
      rw [show decide (0 ≤ dirS v.data.toList) = false from by simpa using h3]
      simp
    unfold rsV
    rw [e, if_neg (by decide)]
    exact implRS_no s t v w (bigLen hv) h3

set_option maxHeartbeats 1600000 in
theorem walk_RollState (v : ByteArray) (hv : v.size ≤ maxLen) (t : St) (htx : (Lit.int .i64 t.x).wf = true) (hty : (Lit.int .i64 t.y).wf = true) (u : ByteArray) (hu : u.size ≤ maxLen) (w : World) (hg : Glob w) : Calls Tryd.prog 3 #[.string v, St.v t, .string u] w fun e w' => e = .returned (.bool true) ∧ Below w.heap.size w w' := by
  have HGL := hide hg
  clear hg
  by_cases h0 : v.size ≤ 1048576
  · have HS0 := hide h0
    by_cases h1 : u.size ≤ 1048576
    · have HS1 := hide h1
      go_enter Tryd.func3, Tryd.ntmps3
      go_wp2_with fail
      refine (toState_any t _).mono ?_
      rintro e w1 ⟨rfl, hb1⟩
      have u1 := isS_to hb1 (IsS.new (w := w) (s := t) (ty := 25)) rfl
      have q1 : Below w.heap.size w w1 := below_after (by go_grown) hb1 (by simp)
      clear hb1
      go_wp2_with fail
      refine (specRS_any v t u _ HS0.out HS1.out).mono ?_
      rintro e w2 ⟨rfl, hb2⟩
      have u2 := isS_to hb2 u1 rfl
      have q2 := below_to hb2 q1 q1.size rfl rfl rfl rfl
      clear hb2 u1 q1
      generalize hz0 : rsV v.data.toList t u.data.toList = z0
      have HZ0 := hide hz0
      clear hz0
      generalize hz1 : rsB v.data.toList t u.data.toList = z1
      have HZ1 := hide hz1
      clear hz1
      obtain ⟨l1, ⟨c0, c1, c2, c3, c4, c5, c6, c7⟩, -⟩ := u2.all
      go_wp2_with fail
      clear c0 c1 c2 c3 c4 c5 c6 c7 l1
      refine (toState_any t _).mono ?_
      rintro e w3 ⟨rfl, hb3⟩
      have v3 := isS_to hb3 (IsS.new (w := w2) (s := z0) (ty := 28)) rfl
      have q3 : Below w.heap.size w w3 := below_to hb3 (q2.alloc q2.size (.cells #[.int .i64 z0.x, .int .i64 z0.y, .int .i64 z0.d.t, .int .i64 z0.d.n, .int .i64 z0.d.e, .int .i64 z0.d.s, .int .i64 z0.d.w, .int .i64 z0.d.b] 28)) (by have := q2.size; simp; omega) rfl rfl rfl rfl
      have hg3 := hide (show Glob w3 from by
        have hl := HGL.out.lt
        obtain ⟨m, hm⟩ := HGL.out
        exact ⟨m, (q3.cell (p := ⟨0, 0, none⟩) hl).trans hm⟩)
      clear hb3 u2 q2
      go_wp2_with fail
      refine (implRS_any v t u _ HS0.out HS1.out hg3.out).mono ?_
      rintro e w4 ⟨rfl, hb4⟩
      rw [HZ0.out, HZ1.out]
      have q4 := below_to hb4 q3 q3.size rfl rfl rfl rfl
      have v4 := isS_to hb4 v3 rfl
      obtain ⟨l4, ⟨c0, c1, c2, c3, c4, c5, c6, c7⟩, -⟩ := v4.all
      clear hb4 v3 q3
      go_wp2_with fail
      clear c0 c1 c2 c3 c4 c5 c6 c7
      refine (eqState_self z0 _).mono ?_
      rintro e w5 ⟨rfl, hb5⟩
      have q5 : Below w.heap.size w w5 := below_after (q4.alloc q4.size _) hb5 (by simp; have := q4.size; omega)
      have e1 : (z1 != z1) = false := by simp
      go_wp2
      go_returns
      exact ⟨rfl, q5⟩
    · go_enter Tryd.func3, Tryd.ntmps3
      go_wp2
      go_returns
      exact ⟨rfl, by go_grown⟩
  · go_enter Tryd.func3, Tryd.ntmps3
    go_wp2
    go_returns
    exact ⟨rfl, by go_grown⟩
end Go.Proofs.YtballmdcalfdnaaDoor
