/- The contract of spec.boWay. -/
import Derived.Test.YtgehcjmhgfhkdaaDoorAlong
import Derived.Test.YtgehcjmhgfhkdaaDoorWalksA
namespace Go.Proofs.YtgehcjmhgfhkdaaDoor
set_option maxRecDepth 100000
set_option linter.all false
open Go.RowKit

set_option maxHeartbeats 1600000 in
theorem boWay_bad (s : ByteArray) (t : St) (v : ByteArray) (w : World) (hs : s.size ≤ 1048576) (hv : v.size ≤ maxLen) (h : isBd s.data.toList = false) : Calls Tryd.prog 36 #[.string s, St.v t, .string v] w (fun e w' => e = .returned (.tuple #[.slice none 0 0, .bool false]) ∧ Below w.heap.size w w') := by
  have H := hide h
  clear h
  go_enter Tryd.func36, Tryd.ntmps36
  go_wp2_with fail
  refine (boAsked_bad s t _ hs H.out).mono ?_
  rintro e w1 ⟨rfl, hb1⟩
  have q0 : Below w.heap.size w w1 := below_after (by go_grown) hb1 (by simp)
  clear hb1
  go_wp2
  go_returns
  exact ⟨rfl, q0.alloc q0.size _⟩

set_option maxHeartbeats 1600000 in
theorem boWay_off (s : ByteArray) (t : St) (v : ByteArray) (w : World) (hs : s.size ≤ 1048576) (hv : v.size ≤ maxLen) (h : isBd s.data.toList = true) (h2 : stL s.data.toList t = false) : Calls Tryd.prog 36 #[.string s, St.v t, .string v] w (fun e w' => e = .returned (.tuple #[.slice none 0 0, .bool false]) ∧ Below w.heap.size w w') := by
  have H := hide h
  have HST := hide h2
  clear h h2
  go_enter Tryd.func36, Tryd.ntmps36
  go_wp2_with fail
  refine (boAsked_in s t _ hs H.out).mono ?_
  rintro e w1 ⟨W, Hh, n, g, cap, hG, rfl, hA, hb1⟩
  rw [HST.out]
  have q0 : Below w.heap.size w w1 := below_after (by go_grown) hb1 (by simp)
  clear hb1 hG hA
  go_wp2
  go_returns
  exact ⟨rfl, q0.alloc q0.size _⟩

set_option maxHeartbeats 1600000 in
theorem boWay_word (s : ByteArray) (t : St) (v : ByteArray) (w : World) (hs : s.size ≤ 1048576) (hv : v.size ≤ maxLen) (h : isBd s.data.toList = true) (h2 : stL s.data.toList t = true) (h3 : isWord v.data.toList = false) : Calls Tryd.prog 36 #[.string s, St.v t, .string v] w (fun e w' => e = .returned (.tuple #[.slice none 0 0, .bool false]) ∧ Below w.heap.size w w') := by
  have H := hide h
  have HST := hide h2
  have HW := hide h3
  clear h h2 h3
  go_enter Tryd.func36, Tryd.ntmps36
  go_wp2_with fail
  refine (boAsked_in s t _ hs H.out).mono ?_
  rintro e w1 ⟨W, Hh, n, g, cap, hG, rfl, hA, hb1⟩
  rw [HST.out]
  have q0 : Below w.heap.size w w1 := below_after (by go_grown) hb1 (by simp)
  clear hb1 hG hA
  go_wp2_with fail
  refine (diWord_any v _ hv).mono ?_
  rintro e w2 ⟨rfl, rfl⟩
  rw [HW.out]
  go_wp2
  go_returns
  exact ⟨rfl, q0.alloc q0.size _⟩

set_option maxHeartbeats 1600000 in
theorem boWay_short (s : ByteArray) (t : St) (v : ByteArray) (w : World) (hs : s.size ≤ 1048576) (hv : v.size ≤ maxLen) (h : isBd s.data.toList = true) (h2 : stL s.data.toList t = true) (h3 : isWord v.data.toList = true) (h4 : stopT s.data.toList t v.data.toList ≠ v.size) : Calls Tryd.prog 36 #[.string s, St.v t, .string v] w (fun e w' => e = .returned (.tuple #[.slice none 0 0, .bool false]) ∧ Below w.heap.size w w') := by
  have hlen : v.size ≤ 60 := by have := isWord_len h3; simpa using this
  have HFL := hide (show floorL s.data.toList t.x t.y = true from (Bool.and_eq_true_iff.1 h2).1)
  have H := hide h
  have HST := hide h2
  have HW := hide h3
  have HK := hide h4
  clear h h2 h3 h4
  go_enter Tryd.func36, Tryd.ntmps36
  go_wp2_with fail
  refine (boAsked_in s t _ hs H.out).mono ?_
  rintro e w1 ⟨W, Hh, n, g, cap, hG, rfl, hA, hb1⟩
  rw [HST.out]
  have S1 := (isS_to hb1 (IsS.new (w := w) (s := t) (ty := 32)) rfl).alloc (.cells #[.int .i64 (W : Int), .int .i64 (Hh : Int), .slice (some ⟨g, 0, none⟩) n cap] 77)
  have q0 : Below w.heap.size w w1 := below_after (by go_grown) hb1 (by simp)
  have q1 := q0.alloc q0.size (.cells #[.int .i64 (W : Int), .int .i64 (Hh : Int), .slice (some ⟨g, 0, none⟩) n cap] 77)
  have HA := hide (show BytesAt (w1.alloc (.cells #[.int .i64 (W : Int), .int .i64 (Hh : Int), .slice (some ⟨g, 0, none⟩) n cap] 77)) g (splitP s.data.toList).flatten from bytesAt_to ((Below.refl _ _).alloc (Nat.le_refl _) _) hA rfl)
  have G1 := IsG.new (w := w1) (x := (W : Int)) (y := (Hh : Int)) (v := .slice (some ⟨g, 0, none⟩) n cap)
  have HG := hide hG
  clear hb1 hG hA q0
  go_wp2_with fail
  refine (diWord_any v _ hv).mono ?_
  rintro e w2 ⟨rfl, rfl⟩
  rw [HW.out]
  obtain ⟨l0, ⟨a0, a1, a2, a3, a4, a5, a6, a7⟩, -⟩ := S1.all
  obtain ⟨l1, ⟨b0, b1, b2⟩, -⟩ := G1.all
  go_wp2_with fail
  clear a0 a1 a2 a3 a4 a5 a6 a7 l0 b0 b1 b2 l1 S1 G1
  refine (boAlong_any s.data.toList W Hh n HG.out g cap t v _ hlen HA.out HFL.out).mono ?_
  rintro e w2 ⟨gq, cq, rfl, hown, hb2⟩
  have q2 := below_to hb2 q1 q1.size rfl rfl rfl rfl
  have HO := hide (own_mono hown (show w.heap.size ≤ _ from q1.size))
  clear hown hb2 q1
  have hk := HK.out
  generalize stopT s.data.toList t v.data.toList = K at hk ⊢
  have hne : ¬ ((K : Int) + 1 = (v.size : Int) + 1) := by omega
  have hne2 : ¬ (((K + 1 : Nat) : Int) = (v.size : Int) + 1) := by omega
  go_wp2
  go_returns
  exact ⟨rfl, q2⟩

set_option maxHeartbeats 1600000 in
theorem boWay_all (s : ByteArray) (t : St) (v : ByteArray) (w : World) (hs : s.size ≤ 1048576) (hv : v.size ≤ maxLen) (h : isBd s.data.toList = true) (h2 : stL s.data.toList t = true) (h3 : isWord v.data.toList = true) (h4 : stopT s.data.toList t v.data.toList = v.size) : Calls Tryd.prog 36 #[.string s, St.v t, .string v] w (fun e w' => ∃ gq cq, e = .returned (.tuple #[.slice (some ⟨gq, 0, none⟩) (v.size + 1) cq, .bool true]) ∧ w'.ownsRow w.heap.size 32 8 (.slice (some ⟨gq, 0, none⟩) (v.size + 1) cq) (v.size + 1) (cellsS (waysT t v.data.toList v.size)) ∧ Below w.heap.size w w') := by
  have hlen : v.size ≤ 60 := by have := isWord_len h3; simpa using this
  have HFL := hide (show floorL s.data.toList t.x t.y = true from (Bool.and_eq_true_iff.1 h2).1)
  have H := hide h
  have HST := hide h2
  have HW := hide h3
  have HK := hide h4
  clear h h2 h3 h4
  go_enter Tryd.func36, Tryd.ntmps36
  go_wp2_with fail
  refine (boAsked_in s t _ hs H.out).mono ?_
  rintro e w1 ⟨W, Hh, n, g, cap, hG, rfl, hA, hb1⟩
  rw [HST.out]
  have S1 := (isS_to hb1 (IsS.new (w := w) (s := t) (ty := 32)) rfl).alloc (.cells #[.int .i64 (W : Int), .int .i64 (Hh : Int), .slice (some ⟨g, 0, none⟩) n cap] 77)
  have q0 : Below w.heap.size w w1 := below_after (by go_grown) hb1 (by simp)
  have q1 := q0.alloc q0.size (.cells #[.int .i64 (W : Int), .int .i64 (Hh : Int), .slice (some ⟨g, 0, none⟩) n cap] 77)
  have HA := hide (show BytesAt (w1.alloc (.cells #[.int .i64 (W : Int), .int .i64 (Hh : Int), .slice (some ⟨g, 0, none⟩) n cap] 77)) g (splitP s.data.toList).flatten from bytesAt_to ((Below.refl _ _).alloc (Nat.le_refl _) _) hA rfl)
  have G1 := IsG.new (w := w1) (x := (W : Int)) (y := (Hh : Int)) (v := .slice (some ⟨g, 0, none⟩) n cap)
  have HG := hide hG
  clear hb1 hG hA q0
  go_wp2_with fail
  refine (diWord_any v _ hv).mono ?_
  rintro e w2 ⟨rfl, rfl⟩
  rw [HW.out]
  obtain ⟨l0, ⟨a0, a1, a2, a3, a4, a5, a6, a7⟩, -⟩ := S1.all
  obtain ⟨l1, ⟨b0, b1, b2⟩, -⟩ := G1.all
  go_wp2_with fail
  clear a0 a1 a2 a3 a4 a5 a6 a7 l0 b0 b1 b2 l1 S1 G1
  refine (boAlong_any s.data.toList W Hh n HG.out g cap t v _ hlen HA.out HFL.out).mono ?_
  rintro e w2 ⟨gq, cq, rfl, hown, hb2⟩
  have q2 := below_to hb2 q1 q1.size rfl rfl rfl rfl
  have HO := hide (own_mono hown (show w.heap.size ≤ _ from q1.size))
  clear hown hb2 q1
  rw [HK.out] at HO ⊢
  go_wp2
  go_returns
  exact ⟨gq, cq, rfl, HO.out, q2⟩
end Go.Proofs.YtgehcjmhgfhkdaaDoor
