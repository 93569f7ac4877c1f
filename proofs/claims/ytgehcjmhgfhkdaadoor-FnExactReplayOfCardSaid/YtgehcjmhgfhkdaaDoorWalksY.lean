/- The contract of impl.StatesAlong, and the walks of the law of RollAlong. -/
import Derived.Test.YtgehcjmhgfhkdaaDoorWalksX
namespace Go.Proofs.YtgehcjmhgfhkdaaDoor
set_option maxRecDepth 100000
set_option linter.all false
open Go.RowKit

set_option maxHeartbeats 1600000 in
theorem sa_bad (s : ByteArray) (t : St) (v : ByteArray) (w : World) (hs : s.size ≤ 1048576) (hv : v.size ≤ maxLen) (hg : Glob w) (h : isBd s.data.toList = false) : Calls Tryd.prog 68 #[.string s, St.v t, .string v] w (fun e w' => e = .returned (.tuple #[.slice none 0 0, .bool false]) ∧ Below w.heap.size w w') := by
  have HG := hide (show Glob (w.alloc (.cells #[.int .i64 t.x, .int .i64 t.y, .int .i64 t.d.t, .int .i64 t.d.n, .int .i64 t.d.e, .int .i64 t.d.s, .int .i64 t.d.w, .int .i64 t.d.b] 32)) from glob_to (w0 := w) ((Below.refl _ _).alloc (Nat.le_refl _) _) hg rfl)
  clear hg
  have H := hide h
  clear h
  go_enter Tryd.func68, Tryd.ntmps68
  go_wp2_with fail
  refine (way_bad s t v _ hs hv HG.out H.out).mono ?_
  rintro e w1 ⟨rfl, hb1⟩
  have q0 : Below w.heap.size w w1 := below_after (by go_grown) hb1 (by simp)
  clear hb1
  go_wp2
  go_returns
  exact ⟨rfl, q0⟩

set_option maxHeartbeats 1600000 in
theorem sa_off (s : ByteArray) (t : St) (v : ByteArray) (w : World) (hs : s.size ≤ 1048576) (hv : v.size ≤ maxLen) (hg : Glob w) (h : isBd s.data.toList = true) (h2 : stL s.data.toList t = false) : Calls Tryd.prog 68 #[.string s, St.v t, .string v] w (fun e w' => e = .returned (.tuple #[.slice none 0 0, .bool false]) ∧ Below w.heap.size w w') := by
  have HG := hide (show Glob (w.alloc (.cells #[.int .i64 t.x, .int .i64 t.y, .int .i64 t.d.t, .int .i64 t.d.n, .int .i64 t.d.e, .int .i64 t.d.s, .int .i64 t.d.w, .int .i64 t.d.b] 32)) from glob_to (w0 := w) ((Below.refl _ _).alloc (Nat.le_refl _) _) hg rfl)
  clear hg
  have H := hide h
  have HST := hide h2
  clear h h2
  go_enter Tryd.func68, Tryd.ntmps68
  go_wp2_with fail
  refine (way_off s t v _ hs hv HG.out H.out HST.out).mono ?_
  rintro e w1 ⟨rfl, hb1⟩
  have q0 : Below w.heap.size w w1 := below_after (by go_grown) hb1 (by simp)
  clear hb1
  go_wp2
  go_returns
  exact ⟨rfl, q0⟩

set_option maxHeartbeats 1600000 in
theorem sa_word (s : ByteArray) (t : St) (v : ByteArray) (w : World) (hs : s.size ≤ 1048576) (hv : v.size ≤ maxLen) (hg : Glob w) (h : isBd s.data.toList = true) (h2 : stL s.data.toList t = true) (h3 : isWord v.data.toList = false) : Calls Tryd.prog 68 #[.string s, St.v t, .string v] w (fun e w' => e = .returned (.tuple #[.slice none 0 0, .bool false]) ∧ Below w.heap.size w w') := by
  have HG := hide (show Glob (w.alloc (.cells #[.int .i64 t.x, .int .i64 t.y, .int .i64 t.d.t, .int .i64 t.d.n, .int .i64 t.d.e, .int .i64 t.d.s, .int .i64 t.d.w, .int .i64 t.d.b] 32)) from glob_to (w0 := w) ((Below.refl _ _).alloc (Nat.le_refl _) _) hg rfl)
  clear hg
  have H := hide h
  have HST := hide h2
  have HW := hide h3
  clear h h2 h3
  go_enter Tryd.func68, Tryd.ntmps68
  go_wp2_with fail
  refine (way_word s t v _ hs hv HG.out H.out HST.out HW.out).mono ?_
  rintro e w1 ⟨rfl, hb1⟩
  have q0 : Below w.heap.size w w1 := below_after (by go_grown) hb1 (by simp)
  clear hb1
  go_wp2
  go_returns
  exact ⟨rfl, q0⟩

set_option maxHeartbeats 1600000 in
theorem sa_short (s : ByteArray) (t : St) (v : ByteArray) (w : World) (hs : s.size ≤ 1048576) (hv : v.size ≤ maxLen) (hg : Glob w) (h : isBd s.data.toList = true) (h2 : stL s.data.toList t = true) (h3 : isWord v.data.toList = true) (h4 : stopT s.data.toList t v.data.toList ≠ v.size) : Calls Tryd.prog 68 #[.string s, St.v t, .string v] w (fun e w' => e = .returned (.tuple #[.slice none 0 0, .bool false]) ∧ Below w.heap.size w w') := by
  have HG := hide (show Glob (w.alloc (.cells #[.int .i64 t.x, .int .i64 t.y, .int .i64 t.d.t, .int .i64 t.d.n, .int .i64 t.d.e, .int .i64 t.d.s, .int .i64 t.d.w, .int .i64 t.d.b] 32)) from glob_to (w0 := w) ((Below.refl _ _).alloc (Nat.le_refl _) _) hg rfl)
  clear hg
  have hlen : v.size ≤ 60 := by have := isWord_len h3; simpa using this
  have HK := hide h4
  have H := hide h
  have HST := hide h2
  have HW := hide h3
  clear h h2 h3 h4
  go_enter Tryd.func68, Tryd.ntmps68
  go_wp2_with fail
  refine (way_on s t v _ hs hv HG.out H.out HST.out HW.out).mono ?_
  rintro e w1 ⟨gq, rfl, hown, hb1⟩
  have q0 : Below w.heap.size w w1 := below_after (by go_grown) hb1 (by simp)
  have hK := stop_le s.data.toList v.data.toList t
  have hkk := HK.out
  have hle : stopT s.data.toList t v.data.toList + 1 ≤ v.size := by simp at hK; omega
  clear hb1 hK hown hkk
  generalize stopT s.data.toList t v.data.toList = K at hle ⊢
  have hle2 : (K : Int) + 1 ≤ (v.size : Int) := by omega
  go_wp2
  go_returns
  exact ⟨rfl, q0⟩

set_option maxHeartbeats 1600000 in
theorem sa_all (s : ByteArray) (t : St) (v : ByteArray) (w : World) (hs : s.size ≤ 1048576) (hv : v.size ≤ maxLen) (hg : Glob w) (h : isBd s.data.toList = true) (h2 : stL s.data.toList t = true) (h3 : isWord v.data.toList = true) (h4 : stopT s.data.toList t v.data.toList = v.size) : Calls Tryd.prog 68 #[.string s, St.v t, .string v] w (fun e w' => ∃ gq, e = .returned (.tuple #[.slice (some ⟨gq, 0, none⟩) (v.size + 1) (v.size + 1), .bool true]) ∧ w'.ownsRow w.heap.size 32 8 (.slice (some ⟨gq, 0, none⟩) (v.size + 1) (v.size + 1)) (v.size + 1) (cellsS (waysT t v.data.toList v.size)) ∧ Below w.heap.size w w') := by
  have HG := hide (show Glob (w.alloc (.cells #[.int .i64 t.x, .int .i64 t.y, .int .i64 t.d.t, .int .i64 t.d.n, .int .i64 t.d.e, .int .i64 t.d.s, .int .i64 t.d.w, .int .i64 t.d.b] 32)) from glob_to (w0 := w) ((Below.refl _ _).alloc (Nat.le_refl _) _) hg rfl)
  clear hg
  have hlen : v.size ≤ 60 := by have := isWord_len h3; simpa using this
  have HK := hide h4
  have H := hide h
  have HST := hide h2
  have HW := hide h3
  clear h h2 h3 h4
  go_enter Tryd.func68, Tryd.ntmps68
  go_wp2_with fail
  refine (way_on s t v _ hs hv HG.out H.out HST.out HW.out).mono ?_
  rintro e w1 ⟨gq, rfl, hown, hb1⟩
  have q0 : Below w.heap.size w w1 := below_after (by go_grown) hb1 (by simp)
  rw [HK.out] at hown ⊢
  have HO := hide (own_mono hown (show w.heap.size ≤ _ from by simp))
  clear hown hb1
  have hle2 : ¬ ((v.size : Int) + 1 ≤ (v.size : Int)) := by omega
  go_wp2
  go_returns
  exact ⟨gq, rfl, HO.out, q0⟩

/-- What RollAlong answers. -/
def raB (l : List UInt8) (t : St) (L : List UInt8) : Bool := isBd l && (stL l t && (isWord L && decide (stopT l t L = L.length)))
def raV (l : List UInt8) (t : St) (L : List UInt8) : St := if raB l t L = true then atT t L L.length else ⟨0, 0, ⟨0, 0, 0, 0, 0, 0⟩⟩

set_option maxHeartbeats 1600000 in
theorem implRA_bad (s : ByteArray) (t : St) (v : ByteArray) (w : World) (hs : s.size ≤ 1048576) (hv : v.size ≤ maxLen) (hg : Glob w) (h : isBd s.data.toList = false) : Calls Tryd.prog 39 #[.string s, St.v t, .string v] w (fun e w' => e = .returned (.tuple #[St.v ⟨0, 0, ⟨0, 0, 0, 0, 0, 0⟩⟩, .bool false]) ∧ Below w.heap.size w w') := by
  have HG := hide (show Glob ((w.alloc (.cells #[.int .i64 t.x, .int .i64 t.y, .int .i64 t.d.t, .int .i64 t.d.n, .int .i64 t.d.e, .int .i64 t.d.s, .int .i64 t.d.w, .int .i64 t.d.b] 32)).alloc (.cells #[.int .i64 0, .int .i64 0, .int .i64 0, .int .i64 0, .int .i64 0, .int .i64 0, .int .i64 0, .int .i64 0] 32)) from glob_to (w0 := w) (by go_grown) hg rfl)
  clear hg
  have H := hide h
  clear h
  go_enter Tryd.func39, Tryd.ntmps39
  go_wp2_with fail
  refine (sa_bad s t v _ hs hv HG.out H.out).mono ?_
  rintro e w1 ⟨rfl, hb1⟩
  have R1 := isS_to hb1 (IsS.new2 (w := w) (o := (.cells #[.int .i64 t.x, .int .i64 t.y, .int .i64 t.d.t, .int .i64 t.d.n, .int .i64 t.d.e, .int .i64 t.d.s, .int .i64 t.d.w, .int .i64 t.d.b] 32)) (s := ⟨0, 0, ⟨0, 0, 0, 0, 0, 0⟩⟩) (ty := 32)) rfl
  have q1 : Below w.heap.size w w1 := below_after (by go_grown) hb1 (by simp; omega)
  clear hb1
  obtain ⟨m1, ⟨c0, c1, c2, c3, c4, c5, c6, c7⟩, f0, f1, f2, f3, f4, f5, f6, f7⟩ := R1.all
  go_wp2
  refine bodyPost_ret (ret_state2 Tryd.results39 rfl rfl (R1.set8 ⟨0, 0, ⟨0, 0, 0, 0, 0, 0⟩⟩)) rfl ⟨rfl, ?_⟩
  exact below_set8 q1 (show w.heap.size ≤ w.heap.size + 1 from by omega) ⟨0, 0, ⟨0, 0, 0, 0, 0, 0⟩⟩

set_option maxHeartbeats 1600000 in
theorem implRA_off (s : ByteArray) (t : St) (v : ByteArray) (w : World) (hs : s.size ≤ 1048576) (hv : v.size ≤ maxLen) (hg : Glob w) (h : isBd s.data.toList = true) (h2 : stL s.data.toList t = false) : Calls Tryd.prog 39 #[.string s, St.v t, .string v] w (fun e w' => e = .returned (.tuple #[St.v ⟨0, 0, ⟨0, 0, 0, 0, 0, 0⟩⟩, .bool false]) ∧ Below w.heap.size w w') := by
  have HG := hide (show Glob ((w.alloc (.cells #[.int .i64 t.x, .int .i64 t.y, .int .i64 t.d.t, .int .i64 t.d.n, .int .i64 t.d.e, .int .i64 t.d.s, .int .i64 t.d.w, .int .i64 t.d.b] 32)).alloc (.cells #[.int .i64 0, .int .i64 0, .int .i64 0, .int .i64 0, .int .i64 0, .int .i64 0, .int .i64 0, .int .i64 0] 32)) from glob_to (w0 := w) (by go_grown) hg rfl)
  clear hg
  have H := hide h
  have HST := hide h2
  clear h h2
  go_enter Tryd.func39, Tryd.ntmps39
  go_wp2_with fail
  refine (sa_off s t v _ hs hv HG.out H.out HST.out).mono ?_
  rintro e w1 ⟨rfl, hb1⟩
  have R1 := isS_to hb1 (IsS.new2 (w := w) (o := (.cells #[.int .i64 t.x, .int .i64 t.y, .int .i64 t.d.t, .int .i64 t.d.n, .int .i64 t.d.e, .int .i64 t.d.s, .int .i64 t.d.w, .int .i64 t.d.b] 32)) (s := ⟨0, 0, ⟨0, 0, 0, 0, 0, 0⟩⟩) (ty := 32)) rfl
  have q1 : Below w.heap.size w w1 := below_after (by go_grown) hb1 (by simp; omega)
  clear hb1
  obtain ⟨m1, ⟨c0, c1, c2, c3, c4, c5, c6, c7⟩, f0, f1, f2, f3, f4, f5, f6, f7⟩ := R1.all
  go_wp2
  refine bodyPost_ret (ret_state2 Tryd.results39 rfl rfl (R1.set8 ⟨0, 0, ⟨0, 0, 0, 0, 0, 0⟩⟩)) rfl ⟨rfl, ?_⟩
  exact below_set8 q1 (show w.heap.size ≤ w.heap.size + 1 from by omega) ⟨0, 0, ⟨0, 0, 0, 0, 0, 0⟩⟩

set_option maxHeartbeats 1600000 in
theorem implRA_word (s : ByteArray) (t : St) (v : ByteArray) (w : World) (hs : s.size ≤ 1048576) (hv : v.size ≤ maxLen) (hg : Glob w) (h : isBd s.data.toList = true) (h2 : stL s.data.toList t = true) (h3 : isWord v.data.toList = false) : Calls Tryd.prog 39 #[.string s, St.v t, .string v] w (fun e w' => e = .returned (.tuple #[St.v ⟨0, 0, ⟨0, 0, 0, 0, 0, 0⟩⟩, .bool false]) ∧ Below w.heap.size w w') := by
  have HG := hide (show Glob ((w.alloc (.cells #[.int .i64 t.x, .int .i64 t.y, .int .i64 t.d.t, .int .i64 t.d.n, .int .i64 t.d.e, .int .i64 t.d.s, .int .i64 t.d.w, .int .i64 t.d.b] 32)).alloc (.cells #[.int .i64 0, .int .i64 0, .int .i64 0, .int .i64 0, .int .i64 0, .int .i64 0, .int .i64 0, .int .i64 0] 32)) from glob_to (w0 := w) (by go_grown) hg rfl)
  clear hg
  have H := hide h
  have HST := hide h2
  have HW := hide h3
  clear h h2 h3
  go_enter Tryd.func39, Tryd.ntmps39
  go_wp2_with fail
  refine (sa_word s t v _ hs hv HG.out H.out HST.out HW.out).mono ?_
  rintro e w1 ⟨rfl, hb1⟩
  have R1 := isS_to hb1 (IsS.new2 (w := w) (o := (.cells #[.int .i64 t.x, .int .i64 t.y, .int .i64 t.d.t, .int .i64 t.d.n, .int .i64 t.d.e, .int .i64 t.d.s, .int .i64 t.d.w, .int .i64 t.d.b] 32)) (s := ⟨0, 0, ⟨0, 0, 0, 0, 0, 0⟩⟩) (ty := 32)) rfl
  have q1 : Below w.heap.size w w1 := below_after (by go_grown) hb1 (by simp; omega)
  clear hb1
  obtain ⟨m1, ⟨c0, c1, c2, c3, c4, c5, c6, c7⟩, f0, f1, f2, f3, f4, f5, f6, f7⟩ := R1.all
  go_wp2
  refine bodyPost_ret (ret_state2 Tryd.results39 rfl rfl (R1.set8 ⟨0, 0, ⟨0, 0, 0, 0, 0, 0⟩⟩)) rfl ⟨rfl, ?_⟩
  exact below_set8 q1 (show w.heap.size ≤ w.heap.size + 1 from by omega) ⟨0, 0, ⟨0, 0, 0, 0, 0, 0⟩⟩

set_option maxHeartbeats 1600000 in
theorem implRA_short (s : ByteArray) (t : St) (v : ByteArray) (w : World) (hs : s.size ≤ 1048576) (hv : v.size ≤ maxLen) (hg : Glob w) (h : isBd s.data.toList = true) (h2 : stL s.data.toList t = true) (h3 : isWord v.data.toList = true) (h4 : stopT s.data.toList t v.data.toList ≠ v.size) : Calls Tryd.prog 39 #[.string s, St.v t, .string v] w (fun e w' => e = .returned (.tuple #[St.v ⟨0, 0, ⟨0, 0, 0, 0, 0, 0⟩⟩, .bool false]) ∧ Below w.heap.size w w') := by
  have HG := hide (show Glob ((w.alloc (.cells #[.int .i64 t.x, .int .i64 t.y, .int .i64 t.d.t, .int .i64 t.d.n, .int .i64 t.d.e, .int .i64 t.d.s, .int .i64 t.d.w, .int .i64 t.d.b] 32)).alloc (.cells #[.int .i64 0, .int .i64 0, .int .i64 0, .int .i64 0, .int .i64 0, .int .i64 0, .int .i64 0, .int .i64 0] 32)) from glob_to (w0 := w) (by go_grown) hg rfl)
  clear hg
  have hlen : v.size ≤ 60 := by have := isWord_len h3; simpa using this
  have HK := hide h4
  have H := hide h
  have HST := hide h2
  have HW := hide h3
  clear h h2 h3 h4
  go_enter Tryd.func39, Tryd.ntmps39
  go_wp2_with fail
  refine (sa_short s t v _ hs hv HG.out H.out HST.out HW.out HK.out).mono ?_
  rintro e w1 ⟨rfl, hb1⟩
  have R1 := isS_to hb1 (IsS.new2 (w := w) (o := (.cells #[.int .i64 t.x, .int .i64 t.y, .int .i64 t.d.t, .int .i64 t.d.n, .int .i64 t.d.e, .int .i64 t.d.s, .int .i64 t.d.w, .int .i64 t.d.b] 32)) (s := ⟨0, 0, ⟨0, 0, 0, 0, 0, 0⟩⟩) (ty := 32)) rfl
  have q1 : Below w.heap.size w w1 := below_after (by go_grown) hb1 (by simp; omega)
  clear hb1
  obtain ⟨m1, ⟨c0, c1, c2, c3, c4, c5, c6, c7⟩, f0, f1, f2, f3, f4, f5, f6, f7⟩ := R1.all
  go_wp2
  refine bodyPost_ret (ret_state2 Tryd.results39 rfl rfl (R1.set8 ⟨0, 0, ⟨0, 0, 0, 0, 0, 0⟩⟩)) rfl ⟨rfl, ?_⟩
  exact below_set8 q1 (show w.heap.size ≤ w.heap.size + 1 from by omega) ⟨0, 0, ⟨0, 0, 0, 0, 0, 0⟩⟩

set_option maxHeartbeats 1600000 in
theorem implRA_all (s : ByteArray) (t : St) (v : ByteArray) (w : World) (hs : s.size ≤ 1048576) (hv : v.size ≤ maxLen) (hg : Glob w) (h : isBd s.data.toList = true) (h2 : stL s.data.toList t = true) (h3 : isWord v.data.toList = true) (h4 : stopT s.data.toList t v.data.toList = v.size) : Calls Tryd.prog 39 #[.string s, St.v t, .string v] w (fun e w' => e = .returned (.tuple #[St.v (atT t v.data.toList v.size), .bool true]) ∧ Below w.heap.size w w') := by
  have HG := hide (show Glob ((w.alloc (.cells #[.int .i64 t.x, .int .i64 t.y, .int .i64 t.d.t, .int .i64 t.d.n, .int .i64 t.d.e, .int .i64 t.d.s, .int .i64 t.d.w, .int .i64 t.d.b] 32)).alloc (.cells #[.int .i64 0, .int .i64 0, .int .i64 0, .int .i64 0, .int .i64 0, .int .i64 0, .int .i64 0, .int .i64 0] 32)) from glob_to (w0 := w) (by go_grown) hg rfl)
  clear hg
  have hlen : v.size ≤ 60 := by have := isWord_len h3; simpa using this
  have HK := hide h4
  have H := hide h
  have HST := hide h2
  have HW := hide h3
  clear h h2 h3 h4
  go_enter Tryd.func39, Tryd.ntmps39
  go_wp2_with fail
  refine (sa_all s t v _ hs hv HG.out H.out HST.out HW.out HK.out).mono ?_
  rintro e w1 ⟨gq, rfl, hown, hb1⟩
  have R1 := isS_to hb1 (IsS.new2 (w := w) (o := (.cells #[.int .i64 t.x, .int .i64 t.y, .int .i64 t.d.t, .int .i64 t.d.n, .int .i64 t.d.e, .int .i64 t.d.s, .int .i64 t.d.w, .int .i64 t.d.b] 32)) (s := ⟨0, 0, ⟨0, 0, 0, 0, 0, 0⟩⟩) (ty := 32)) rfl
  have q1 : Below w.heap.size w w1 := below_after (by go_grown) hb1 (by simp; omega)
  clear hb1
  obtain ⟨a0, a1, a2, a3, a4, a5, a6, a7⟩ := row_cells hown (waysT_get t v.data.toList v.size v.size (Nat.le_refl _))
  clear hown
  generalize hx : atT t v.data.toList v.size = x at a0 a1 a2 a3 a4 a5 a6 a7
  have HX := hide hx
  clear hx
  have hk0 : (0 : Int) ≤ (v.size : Int) := by omega
  have hk1 : (v.size : Int) < (v.size : Int) + 1 := by omega
  have hk2 : (v.size : Int) < ((v.size + 1 : Nat) : Int) := by omega
  have hk3 : (v.size : Int) + 1 - 1 = (v.size : Int) := by omega
  obtain ⟨m1, ⟨c0, c1, c2, c3, c4, c5, c6, c7⟩, f0, f1, f2, f3, f4, f5, f6, f7⟩ := R1.all
  go_wp2
  refine bodyPost_ret (ret_state2 Tryd.results39 rfl rfl (R1.set8 x)) rfl ⟨by rw [HX.out], ?_⟩
  exact below_set8 q1 (show w.heap.size ≤ w.heap.size + 1 from by omega) x
theorem implRA_any (s : ByteArray) (t : St) (v : ByteArray) (w : World) (hs : s.size ≤ 1048576) (hv : v.size ≤ 1048576) (hg : Glob w) : Calls Tryd.prog 39 #[.string s, St.v t, .string v] w fun e w' => e = .returned (.tuple #[St.v (raV s.data.toList t v.data.toList), .bool (raB s.data.toList t v.data.toList)]) ∧ Below w.heap.size w w' := by
  unfold raV
  have hl : v.data.toList.length = v.size := by simp
  cases h : isBd s.data.toList
  · have e : raB s.data.toList t v.data.toList = false := by unfold raB; rw [h]; rfl
    rw [e, if_neg (by decide)]
    exact implRA_bad s t v w hs (bigLen hv) hg h
  · cases h2 : stL s.data.toList t
    · have e : raB s.data.toList t v.data.toList = false := by unfold raB; rw [h, h2]; rfl
      rw [e, if_neg (by decide)]
      exact implRA_off s t v w hs (bigLen hv) hg h h2
    · cases h3 : isWord v.data.toList
      · have e : raB s.data.toList t v.data.toList = false := by unfold raB; rw [h, h2, h3]; rfl
        rw [e, if_neg (by decide)]
        exact implRA_word s t v w hs (bigLen hv) hg h h2 h3
      · by_cases h4 : stopT s.data.toList t v.data.toList = v.size
        · have e : raB s.data.toList t v.data.toList = true := by unfold raB; rw [h, h2, h3, hl, h4]; simp
          rw [e, if_pos rfl, hl]
          exact implRA_all s t v w hs (bigLen hv) hg h h2 h3 h4
        · have e : raB s.data.toList t v.data.toList = false := by unfold raB; rw [h, h2, h3, hl]; simp [h4]
          rw [e, if_neg (by decide)]
          exact implRA_short s t v w hs (bigLen hv) hg h h2 h3 h4

end Go.Proofs.YtgehcjmhgfhkdaaDoor
