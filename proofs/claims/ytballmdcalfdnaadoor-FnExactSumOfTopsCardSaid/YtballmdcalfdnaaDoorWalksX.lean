/- The walks of the law of FirstStop. -/
import Derived.Test.YtballmdcalfdnaaDoorWay
import Derived.Test.YtballmdcalfdnaaDoorWayI
namespace Go.Proofs.YtballmdcalfdnaaDoor
set_option maxRecDepth 100000
set_option linter.all false
open Go.RowKit

def fsB (l : List UInt8) (t : St) (L : List UInt8) : Bool := isBd l && (stL l t && isWord L)
def fsV (l : List UInt8) (t : St) (L : List UInt8) : Int := if fsB l t L = true then (stopT l t L : Int) else 0
theorem stop_le (l : List UInt8) : ∀ (L : List UInt8) (s : St), stopT l s L ≤ L.length
  | [], _ => Nat.le_refl _
  | c :: cs, s => by
    unfold stopT
    split
    · have := stop_le l cs (stepT s c)
      simp
      omega
    · omega
theorem bigLen {v : ByteArray} (h : v.size ≤ 1048576) : v.size ≤ maxLen := by unfold maxLen; omega

set_option maxHeartbeats 1600000 in
theorem specFS_bad (s : ByteArray) (t : St) (v : ByteArray) (w : World) (hs : s.size ≤ 1048576) (hv : v.size ≤ maxLen) (h : isBd s.data.toList = false) : Calls Tryd.prog 28 #[.string s, St.v t, .string v] w (fun e w' => e = .returned (.tuple #[.int .i64 0, .bool false]) ∧ Below w.heap.size w w') := by
  have H := hide h
  clear h
  go_enter Tryd.func28, Tryd.ntmps28
  go_wp2_with fail
  refine (boAsked_bad s t _ hs H.out).mono ?_
  rintro e w1 ⟨rfl, hb1⟩
  have q0 : Below w.heap.size w w1 := below_after (by go_grown) hb1 (by simp)
  clear hb1
  go_wp2
  go_returns
  exact ⟨rfl, q0.alloc q0.size _⟩

set_option maxHeartbeats 1600000 in
theorem specFS_off (s : ByteArray) (t : St) (v : ByteArray) (w : World) (hs : s.size ≤ 1048576) (hv : v.size ≤ maxLen) (h : isBd s.data.toList = true) (h2 : stL s.data.toList t = false) : Calls Tryd.prog 28 #[.string s, St.v t, .string v] w (fun e w' => e = .returned (.tuple #[.int .i64 0, .bool false]) ∧ Below w.heap.size w w') := by
  have H := hide h
  have HST := hide h2
  clear h h2
  go_enter Tryd.func28, Tryd.ntmps28
  go_wp2_with fail
  refine (boAsked_in s t _ hs H.out).mono ?_
  rintro e w1 ⟨W, Hh, n, g, cap, hG, rfl, hA, hb1⟩
  rw [HST.out]
  have q0 : Below w.heap.size w w1 := below_after (by go_grown) hb1 (by simp)
  clear hb1 hG hA
  go_wp2
  go_returns
  exact ⟨rfl, q0.alloc q0.size _⟩

set_option maxHeartbeats 1600000 in
theorem specFS_word (s : ByteArray) (t : St) (v : ByteArray) (w : World) (hs : s.size ≤ 1048576) (hv : v.size ≤ maxLen) (h : isBd s.data.toList = true) (h2 : stL s.data.toList t = true) (h3 : isWord v.data.toList = false) : Calls Tryd.prog 28 #[.string s, St.v t, .string v] w (fun e w' => e = .returned (.tuple #[.int .i64 0, .bool false]) ∧ Below w.heap.size w w') := by
  have H := hide h
  have HST := hide h2
  have HW := hide h3
  clear h h2 h3
  go_enter Tryd.func28, Tryd.ntmps28
  go_wp2_with fail
  refine (boAsked_in s t _ hs H.out).mono ?_
  rintro e w1 ⟨W, Hh, n, g, cap, hG, rfl, hA, hb1⟩
  rw [HST.out]
  have q0 : Below w.heap.size w w1 := below_after (by go_grown) hb1 (by simp)
  clear hb1 hG hA
  go_wp2_with fail
  refine (diWord_any v _ hv).mono ?_
  rintro e w2 ⟨rfl, rfl⟩
  rw [HW.out]
  go_wp2
  go_returns
  exact ⟨rfl, q0.alloc q0.size _⟩

set_option maxHeartbeats 1600000 in
theorem specFS_on (s : ByteArray) (t : St) (v : ByteArray) (w : World) (hs : s.size ≤ 1048576) (hv : v.size ≤ maxLen) (h : isBd s.data.toList = true) (h2 : stL s.data.toList t = true) (h3 : isWord v.data.toList = true) : Calls Tryd.prog 28 #[.string s, St.v t, .string v] w (fun e w' => e = .returned (.tuple #[.int .i64 (stopT s.data.toList t v.data.toList : Int), .bool true]) ∧ Below w.heap.size w w') := by
  have hlen : v.size ≤ 60 := by have := isWord_len h3; simpa using this
  have HFL := hide (show floorL s.data.toList t.x t.y = true from (Bool.and_eq_true_iff.1 h2).1)
  have H := hide h
  have HST := hide h2
  have HW := hide h3
  clear h h2 h3
  go_enter Tryd.func28, Tryd.ntmps28
  go_wp2_with fail
  refine (boAsked_in s t _ hs H.out).mono ?_
  rintro e w1 ⟨W, Hh, n, g, cap, hG, rfl, hA, hb1⟩
  rw [HST.out]
  have S1 := (isS_to hb1 (IsS.new (w := w) (s := t) (ty := 28)) rfl).alloc (.cells #[.int .i64 (W : Int), .int .i64 (Hh : Int), .slice (some ⟨g, 0, none⟩) n cap] 50)
  have q0 : Below w.heap.size w w1 := below_after (by go_grown) hb1 (by simp)
  have q1 := q0.alloc q0.size (.cells #[.int .i64 (W : Int), .int .i64 (Hh : Int), .slice (some ⟨g, 0, none⟩) n cap] 50)
  have HA := hide (show BytesAt (w1.alloc (.cells #[.int .i64 (W : Int), .int .i64 (Hh : Int), .slice (some ⟨g, 0, none⟩) n cap] 50)) g (splitP s.data.toList).flatten from bytesAt_to ((Below.refl _ _).alloc (Nat.le_refl _) _) hA rfl)
  have G1 := IsG.new (w := w1) (x := (W : Int)) (y := (Hh : Int)) (v := .slice (some ⟨g, 0, none⟩) n cap)
  have HG := hide hG
  clear hb1 hG hA q0
  go_wp2_with fail
  refine (diWord_any v _ hv).mono ?_
  rintro e w2 ⟨rfl, rfl⟩
  rw [HW.out]
  obtain ⟨l0, ⟨a0, a1, a2, a3, a4, a5, a6, a7⟩, -⟩ := S1.all
  obtain ⟨l1, ⟨b0, b1, b2⟩, -⟩ := G1.all
  go_wp2_with fail
  clear a0 a1 a2 a3 a4 a5 a6 a7 l0 b0 b1 b2 l1 S1 G1
  refine (boAlong_any s.data.toList W Hh n HG.out g cap t v _ hlen HA.out HFL.out).mono ?_
  rintro e w2 ⟨gq, cq, rfl, -, hb2⟩
  have q2 := below_to hb2 q1 q1.size rfl rfl rfl rfl
  have hK := stop_le s.data.toList v.data.toList t
  have hKv : stopT s.data.toList t v.data.toList ≤ 60 := by simp at hK; omega
  clear hb2 q1 hK
  generalize hk : stopT s.data.toList t v.data.toList = K at hKv ⊢
  have HKK := hide hk
  clear hk
  have y1 : (((K + 1 : Nat) : Int)) - 1 = (K : Int) := by omega
  go_wp2
  go_returns
  exact ⟨by rw [HKK.out]; go_num, q2⟩

set_option maxHeartbeats 1600000 in
theorem implFS_bad (s : ByteArray) (t : St) (v : ByteArray) (w : World) (hs : s.size ≤ 1048576) (hv : v.size ≤ maxLen) (hg : Glob w) (h : isBd s.data.toList = false) : Calls Tryd.prog 29 #[.string s, St.v t, .string v] w (fun e w' => e = .returned (.tuple #[.int .i64 0, .bool false]) ∧ Below w.heap.size w w') := by
  have HG := hide (show Glob (w.alloc (.cells #[.int .i64 t.x, .int .i64 t.y, .int .i64 t.d.t, .int .i64 t.d.n, .int .i64 t.d.e, .int .i64 t.d.s, .int .i64 t.d.w, .int .i64 t.d.b] 28)) from glob_to (w0 := w) ((Below.refl _ _).alloc (Nat.le_refl _) _) hg rfl)
  clear hg
  have H := hide h
  clear h
  go_enter Tryd.func29, Tryd.ntmps29
  go_wp2_with fail
  refine (way_bad s t v _ hs hv HG.out H.out).mono ?_
  rintro e w1 ⟨rfl, hb1⟩
  have q0 : Below w.heap.size w w1 := below_after (by go_grown) hb1 (by simp)
  clear hb1
  go_wp2
  go_returns
  exact ⟨rfl, q0⟩

set_option maxHeartbeats 1600000 in
theorem implFS_off (s : ByteArray) (t : St) (v : ByteArray) (w : World) (hs : s.size ≤ 1048576) (hv : v.size ≤ maxLen) (hg : Glob w) (h : isBd s.data.toList = true) (h2 : stL s.data.toList t = false) : Calls Tryd.prog 29 #[.string s, St.v t, .string v] w (fun e w' => e = .returned (.tuple #[.int .i64 0, .bool false]) ∧ Below w.heap.size w w') := by
  have HG := hide (show Glob (w.alloc (.cells #[.int .i64 t.x, .int .i64 t.y, .int .i64 t.d.t, .int .i64 t.d.n, .int .i64 t.d.e, .int .i64 t.d.s, .int .i64 t.d.w, .int .i64 t.d.b] 28)) from glob_to (w0 := w) ((Below.refl _ _).alloc (Nat.le_refl _) _) hg rfl)
  clear hg
  have H := hide h
  have HST := hide h2
  clear h h2
  go_enter Tryd.func29, Tryd.ntmps29
  go_wp2_with fail
  refine (way_off s t v _ hs hv HG.out H.out HST.out).mono ?_
  rintro e w1 ⟨rfl, hb1⟩
  have q0 : Below w.heap.size w w1 := below_after (by go_grown) hb1 (by simp)
  clear hb1
  go_wp2
  go_returns
  exact ⟨rfl, q0⟩

set_option maxHeartbeats 1600000 in
theorem implFS_word (s : ByteArray) (t : St) (v : ByteArray) (w : World) (hs : s.size ≤ 1048576) (hv : v.size ≤ maxLen) (hg : Glob w) (h : isBd s.data.toList = true) (h2 : stL s.data.toList t = true) (h3 : isWord v.data.toList = false) : Calls Tryd.prog 29 #[.string s, St.v t, .string v] w (fun e w' => e = .returned (.tuple #[.int .i64 0, .bool false]) ∧ Below w.heap.size w w') := by
  have HG := hide (show Glob (w.alloc (.cells #[.int .i64 t.x, .int .i64 t.y, .int .i64 t.d.t, .int .i64 t.d.n, .int .i64 t.d.e, .int .i64 t.d.s, .int .i64 t.d.w, .int .i64 t.d.b] 28)) from glob_to (w0 := w) ((Below.refl _ _).alloc (Nat.le_refl _) _) hg rfl)
  clear hg
  have H := hide h
  have HST := hide h2
  have HW := hide h3
  clear h h2 h3
  go_enter Tryd.func29, Tryd.ntmps29
  go_wp2_with fail
  refine (way_word s t v _ hs hv HG.out H.out HST.out HW.out).mono ?_
  rintro e w1 ⟨rfl, hb1⟩
  have q0 : Below w.heap.size w w1 := below_after (by go_grown) hb1 (by simp)
  clear hb1
  go_wp2
  go_returns
  exact ⟨rfl, q0⟩

set_option maxHeartbeats 1600000 in
theorem implFS_on (s : ByteArray) (t : St) (v : ByteArray) (w : World) (hs : s.size ≤ 1048576) (hv : v.size ≤ maxLen) (hg : Glob w) (h : isBd s.data.toList = true) (h2 : stL s.data.toList t = true) (h3 : isWord v.data.toList = true) : Calls Tryd.prog 29 #[.string s, St.v t, .string v] w (fun e w' => e = .returned (.tuple #[.int .i64 (stopT s.data.toList t v.data.toList : Int), .bool true]) ∧ Below w.heap.size w w') := by
  have HG := hide (show Glob (w.alloc (.cells #[.int .i64 t.x, .int .i64 t.y, .int .i64 t.d.t, .int .i64 t.d.n, .int .i64 t.d.e, .int .i64 t.d.s, .int .i64 t.d.w, .int .i64 t.d.b] 28)) from glob_to (w0 := w) ((Below.refl _ _).alloc (Nat.le_refl _) _) hg rfl)
  clear hg
  have hlen : v.size ≤ 60 := by have := isWord_len h3; simpa using this
  have H := hide h
  have HST := hide h2
  have HW := hide h3
  clear h h2 h3
  go_enter Tryd.func29, Tryd.ntmps29
  go_wp2_with fail
  refine (way_on s t v _ hs hv HG.out H.out HST.out HW.out).mono ?_
  rintro e w1 ⟨gq, rfl, -, hb1⟩
  have q0 : Below w.heap.size w w1 := below_after (by go_grown) hb1 (by simp)
  have hK := stop_le s.data.toList v.data.toList t
  have hKv : stopT s.data.toList t v.data.toList ≤ 60 := by simp at hK; omega
  clear hb1 hK
  generalize hk : stopT s.data.toList t v.data.toList = K at hKv ⊢
  have HKK := hide hk
  clear hk
  have y1 : (((K + 1 : Nat) : Int)) - 1 = (K : Int) := by omega
  go_wp2
  go_returns
  exact ⟨by rw [HKK.out]; go_num, q0⟩
theorem specFS_any (s : ByteArray) (t : St) (v : ByteArray) (w : World) (hs : s.size ≤ 1048576) (hv : v.size ≤ 1048576) : Calls Tryd.prog 28 #[.string s, St.v t, .string v] w fun e w' => e = .returned (.tuple #[.int .i64 (fsV s.data.toList t v.data.toList), .bool (fsB s.data.toList t v.data.toList)]) ∧ Below w.heap.size w w' := by
  unfold fsV
  cases h : isBd s.data.toList
  · have e : fsB s.data.toList t v.data.toList = false := by unfold fsB; rw [h]; rfl
    rw [e, if_neg (by decide)]
    exact specFS_bad s t v w hs (bigLen hv) h
  · cases h2 : stL s.data.toList t
    · have e : fsB s.data.toList t v.data.toList = false := by unfold fsB; rw [h, h2]; rfl
      rw [e, if_neg (by decide)]
      exact specFS_off s t v w hs (bigLen hv) h h2
    · cases h3 : isWord v.data.toList
      · have e : fsB s.data.toList t v.data.toList = false := by unfold fsB; rw [h, h2, h3]; rfl
        rw [e, if_neg (by decide)]
        exact specFS_word s t v w hs (bigLen hv) h h2 h3
      · have e : fsB s.data.toList t v.data.toList = true := by unfold fsB; rw [h, h2, h3]; rfl
        rw [e, if_pos rfl]
        exact specFS_on s t v w hs (bigLen hv) h h2 h3
theorem implFS_any (s : ByteArray) (t : St) (v : ByteArray) (w : World) (hs : s.size ≤ 1048576) (hv : v.size ≤ 1048576) (hg : Glob w) : Calls Tryd.prog 29 #[.string s, St.v t, .string v] w fun e w' => e = .returned (.tuple #[.int .i64 (fsV s.data.toList t v.data.toList), .bool (fsB s.data.toList t v.data.toList)]) ∧ Below w.heap.size w w' := by
  unfold fsV
  cases h : isBd s.data.toList
  · have e : fsB s.data.toList t v.data.toList = false := by unfold fsB; rw [h]; rfl
    rw [e, if_neg (by decide)]
    exact implFS_bad s t v w hs (bigLen hv) hg h
  · cases h2 : stL s.data.toList t
    · have e : fsB s.data.toList t v.data.toList = false := by unfold fsB; rw [h, h2]; rfl
      rw [e, if_neg (by decide)]
      exact implFS_off s t v w hs (bigLen hv) hg h h2
    · cases h3 : isWord v.data.toList
      · have e : fsB s.data.toList t v.data.toList = false := by unfold fsB; rw [h, h2, h3]; rfl
        rw [e, if_neg (by decide)]
        exact implFS_word s t v w hs (bigLen hv) hg h h2 h3
      · have e : fsB s.data.toList t v.data.toList = true := by unfold fsB; rw [h, h2, h3]; rfl
        rw [e, if_pos rfl]
        exact implFS_on s t v w hs (bigLen hv) hg h h2 h3

set_option maxHeartbeats 1600000 in
theorem walk_FirstStop (v : ByteArray) (hv : v.size ≤ maxLen) (t : St) (htx : (Lit.int .i64 t.x).wf = true) (hty : (Lit.int .i64 t.y).wf = true) (u : ByteArray) (hu : u.size ≤ maxLen) (w : World) (hg : Glob w) : Calls Tryd.prog 8 #[.string v, St.v t, .string u] w fun e w' => e = .returned (.bool true) ∧ Below w.heap.size w w' := by
  have HGL := hide hg
  clear hg
  by_cases h0 : v.size ≤ 1048576
  · have HS0 := hide h0
    by_cases h1 : u.size ≤ 1048576
    · have HS1 := hide h1
      go_enter Tryd.func8, Tryd.ntmps8
      go_wp2_with fail
      refine (toState_any t _).mono ?_
      rintro e w1 ⟨rfl, hb1⟩
      have u1 := isS_to hb1 (IsS.new (w := w) (s := t) (ty := 25)) rfl
      have q1 : Below w.heap.size w w1 := below_after (by go_grown) hb1 (by simp)
      clear hb1
      go_wp2_with fail
      refine (specFS_any v t u _ HS0.out HS1.out).mono ?_
      rintro e w2 ⟨rfl, hb2⟩
      have u2 := isS_to hb2 u1 rfl
      have q2 := below_to hb2 q1 q1.size rfl rfl rfl rfl
      clear hb2 u1 q1
      generalize hz0 : fsV v.data.toList t u.data.toList = z0
      have HZ0 := hide hz0
      clear hz0
      generalize hz1 : fsB v.data.toList t u.data.toList = z1
      have HZ1 := hide hz1
      clear hz1
      obtain ⟨l1, ⟨c0, c1, c2, c3, c4, c5, c6, c7⟩, -⟩ := u2.all
      go_wp2_with fail
      clear c0 c1 c2 c3 c4 c5 c6 c7 l1
      refine (toState_any t _).mono ?_
      rintro e w3 ⟨rfl, hb3⟩
      have q3 := below_to hb3 q2 q2.size rfl rfl rfl rfl
      have hg3 := hide (show Glob w3 from by
        have hl := HGL.out.lt
        obtain ⟨m, hm⟩ := HGL.out
        exact ⟨m, (q3.cell (p := ⟨0, 0, none⟩) hl).trans hm⟩)
      clear hb3 u2 q2
      go_wp2_with fail
      refine (implFS_any v t u _ HS0.out HS1.out hg3.out).mono ?_
      rintro e w4 ⟨rfl, hb4⟩
      rw [HZ0.out, HZ1.out]
      have q4 := below_to hb4 q3 q3.size rfl rfl rfl rfl
      have e1 : (z1 != z1) = false := by simp
      go_wp2
      go_returns
      exact ⟨rfl, q4⟩
    · go_enter Tryd.func8, Tryd.ntmps8
      go_wp2
      go_returns
      exact ⟨rfl, by go_grown⟩
  · go_enter Tryd.func8, Tryd.ntmps8
    go_wp2
    go_returns
    exact ⟨rfl, by go_grown⟩
end Go.Proofs.YtballmdcalfdnaaDoor
