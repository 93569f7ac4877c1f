/- The contract of impl.StatesAlong, and the walks of the law of RollAlong. -/
import Derived.Test.YtmlfkcmmjmdhmaaDoorWalksX
namespace Go.Proofs.YtmlfkcmmjmdhmaaDoor
set_option maxRecDepth 100000
set_option linter.all false
open Go.RowKit

set_option maxHeartbeats 1600000 in
theorem sa_bad (s : ByteArray) (t : St) (v : ByteArray) (w : World) (hs : s.size ≤ 1048576) (hv : v.size ≤ maxLen) (hg : Glob w) (h : isBd s.data.toList = false) : Calls Tryd.prog 20 #[.string s, St.v t, .string v] w (fun e w' => e = .returned (.tuple #[.slice none 0 0, .bool false]) ∧ Below w.heap.size w w') := by
  have HG := hide (show Glob (w.alloc (.cells #[.int .i64 t.x, .int .i64 t.y, .int .i64 t.d.t, .int .i64 t.d.n, .int .i64 t.d.e, .int .i64 t.d.s, .int .i64 t.d.w, .int .i64 t.d.b] 30)) from glob_to (w0 := w) ((Below.refl _ _).alloc (Nat.le_refl _) _) hg rfl)
  clear hg
  have H := hide h
  clear h
  go_enter Tryd.func20, Tryd.ntmps20
  go_wp2_with fail
  refine (way_bad s t v _ hs hv HG.out H.out).mono ?_
  rintro e w1 ⟨rfl, hb1⟩
  have q0 : Below w.heap.size w w1 := below_after (by go_grown) hb1 (by simp)
  clear hb1
  go_wp2
  go_returns
  exact ⟨rfl, q0⟩

set_option maxHeartbeats 1600000 in
theorem sa_off (s : ByteArray) (t : St) (v : ByteArray) (w : World) (hs : s.size ≤ 1048576) (hv : v.size ≤ maxLen) (hg : Glob w) (h : isBd s.data.toList = true) (h2 : stL s.data.toList t = false) : Calls Tryd.prog 20 #[.string s, St.v t, .string v] w (fun e w' => e = .returned (.tuple #[.slice none 0 0, .bool false]) ∧ Below w.heap.size w w') := by
  have HG := hide (show Glob (w.alloc (.cells #[.int .i64 t.x, .int .i64 t.y, .int .i64 t.d.t, .int .i64 t.d.n, .int .i64 t.d.e, .int .i64 t.d.s, .int .i64 t.d.w, .int .i64 t.d.b] 30)) from glob_to (w0 := w) ((Below.refl _ _).alloc (Nat.le_refl _) _) hg rfl)
  clear hg
  have H := hide h
  have HST := hide h2
  clear h h2
  go_enter Tryd.func20, Tryd.ntmps20
  go_wp2_with fail
  refine (way_off s t v _ hs hv HG.out H.out HST.out).mono ?_
  rintro e w1 ⟨rfl, hb1⟩
  have q0 : Below w.heap.size w w1 := below_after (by go_grown) hb1 (by simp)
  clear hb1
  go_wp2
  go_returns
  exact ⟨rfl, q0⟩

set_option maxHeartbeats 1600000 in
theorem sa_word (s : ByteArray) (t : St) (v : ByteArray) (w : World) (hs : s.size ≤ 1048576) (hv : v.size ≤ maxLen) (hg : Glob w) (h : isBd s.data.toList = true) (h2 : stL s.data.toList t = true) (h3 : isWord v.data.toList = false) : Calls Tryd.prog 20 #[.string s, St.v t, .string v] w (fun e w' => e = .returned (.tuple #[.slice none 0 0, .bool false]) ∧ Below w.heap.size w w') := by
  have HG := hide (show Glob (w.alloc (.cells #[.int .i64 t.x, .int .i64 t.y, .int .i64 t.d.t, .int .i64 t.d.n, .int .i64 t.d.e, .int .i64 t.d.s, .int .i64 t.d.w, .int .i64 t.d.b] 30)) from glob_to (w0 := w) ((Below.refl _ _).alloc (Nat.le_refl _) _) hg rfl)
  clear hg
  have H := hide h
  have HST := hide h2
  have HW := hide h3
  clear h h2 h3
  go_enter Tryd.func20, Tryd.ntmps20
  go_wp2_with fail
  refine (way_word s t v _ hs hv HG.out H.out HST.out HW.out).mono ?_
  rintro e w1 ⟨rfl, hb1⟩
  have q0 : Below w.heap.size w w1 := below_after (by go_grown) hb1 (by simp)
  clear hb1
  go_wp2
  go_returns
  exact ⟨rfl, q0⟩

set_option maxHeartbeats 1600000 in
theorem sa_short (s : ByteArray) (t : St) (v : ByteArray) (w : World) (hs : s.size ≤ 1048576) (hv : v.size ≤ maxLen) (hg : Glob w) (h : isBd s.data.toList = true) (h2 : stL s.data.toList t = true) (h3 : isWord v.data.toList = true) (h4 : stopT s.data.toList t v.data.toList ≠ v.size) : Calls Tryd.prog 20 #[.string s, St.v t, .string v] w (fun e w' => e = .returned (.tuple #[.slice none 0 0, .bool false]) ∧ Below w.heap.size w w') := by
  have HG := hide (show Glob (w.alloc (.cells #[.int .i64 t.x, .int .i64 t.y, .int .i64 t.d.t, .int .i64 t.d.n, .int .i64 t.d.e, .int .i64 t.d.s, .int .i64 t.d.w, .int .i64 t.d.b] 30)) from glob_to (w0 := w) ((Below.refl _ _).alloc (Nat.le_refl _) _) hg rfl)
  clear hg
  have hlen : v.size ≤ 60 := by have := isWord_len h3; simpa using this
  have HK := hide h4
  have H := hide h
  have HST := hide h2
  have HW := hide h3
  clear h h2 h3 h4
  go_enter Tryd.func20, Tryd.ntmps20
  go_wp2_with fail
  refine (way_on s t v _ hs hv HG.out H.out HST.out HW.out).mono ?_
  rintro e w1 ⟨gq, rfl, hown, hb1⟩
  have q0 : Below w.heap.size w w1 := below_after (by go_grown) hb1 (by simp)
  have hK := stop_le s.data.toList v.data.toList t
  have hkk := HK.out
  have hle : stopT s.data.toList t v.data.toList + 1 ≤ v.size := by simp at hK; omega
  clear hb1 hK hown hkk
  generalize stopT s.data.toList t v.data.toList = K at hle ⊢
  have hle2 : (K : Int) + 1 ≤ (v.size : Int) := by omega
  go_wp2
  go_returns
  exact ⟨rfl, q0⟩

set_option maxHeartbeats 1600000 in
theorem sa_all (s : ByteArray) (t : St) (v : ByteArray) (w : World) (hs : s.size ≤ 1048576) (hv : v.size ≤ maxLen) (hg : Glob w) (h : isBd s.data.toList = true) (h2 : stL s.data.toList t = true) (h3 : isWord v.data.toList = true) (h4 : stopT s.data.toList t v.data.toList = v.size) : Calls Tryd.prog 20 #[.string s, St.v t, .string v] w (fun e w' => ∃ gq, e = .returned (.tuple #[.slice (some ⟨gq, 0, none⟩) (v.size + 1) (v.size + 1), .bool true]) ∧ w'.ownsRow w.heap.size 30 8 (.slice (some ⟨gq, 0, none⟩) (v.size + 1) (v.size + 1)) (v.size + 1) (cellsS (waysT t v.data.toList v.size)) ∧ Below w.heap.size w w') := by
  have HG := hide (show Glob (w.alloc (.cells #[.int .i64 t.x, .int .i64 t.y, .int .i64 t.d.t, .int .i64 t.d.n, .int .i64 t.d.e, .int .i64 t.d.s, .int .i64 t.d.w, .int .i64 t.d.b] 30)) from glob_to (w0 := w) ((Below.refl _ _).alloc (Nat.le_refl _) _) hg rfl)
  clear hg
  have hlen : v.size ≤ 60 := by have := isWord_len h3; simpa using this
  have HK := hide h4
  have H := hide h
  have HST := hide h2
  have HW := hide h3
  clear h h2 h3 h4
  go_enter Tryd.func20, Tryd.ntmps20
  go_wp2_with fail
  refine (way_on s t v _ hs hv HG.out H.out HST.out HW.out).mono ?_
  rintro e w1 ⟨gq, rfl, hown, hb1⟩
  have q0 : Below w.heap.size w w1 := below_after (by go_grown) hb1 (by simp)
  rw [HK.out] at hown ⊢
  have HO := hide (own_mono hown (show w.heap.size ≤ _ from by simp))
  clear hown hb1
  have hle2 : ¬ ((v.size : Int) + 1 ≤ (v.size : Int)) := by omega
  go_wp2
  go_returns
  exact ⟨gq, rfl, HO.out, q0⟩

/-- What RollAlong answers. -/
def raB (l : List UInt8) (t : St) (L : List UInt8) : Bool := isBd l && (stL l t && (isWord L && decide (stopT l t L = L.length)))
def raV (l : List UInt8) (t : St) (L : List UInt8) : St := if raB l t L = true then atT t L L.length else ⟨0, 0, ⟨0, 0, 0, 0, 0, 0⟩⟩

end Go.Proofs.YtmlfkcmmjmdhmaaDoor
