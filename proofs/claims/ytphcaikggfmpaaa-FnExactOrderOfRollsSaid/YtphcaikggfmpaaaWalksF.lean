/- The walk of the law of AreSameRolls. -/
import Derived.Test.YtphcaikggfmpaaaGood
import Derived.Test.YtphcaikggfmpaaaFaces
import Derived.Test.YtphcaikggfmpaaaRun
import Derived.Test.YtphcaikggfmpaaaWalksA
import Derived.Test.YtphcaikggfmpaaaPure
import Derived.Test.YtphcaikggfmpaaaEql
import Derived.Test.YtphcaikggfmpaaaState
import Derived.Deep.RegionHeld3
namespace Go.Proofs.Ytphcaikggfmpaaa
set_option maxRecDepth 100000
set_option linter.all false
open Go.RowKit

theorem ret_two {a b c d : Bool} (h : a = c) (h2 : b = d) : Ending.returned (.tuple #[.bool a, .bool b]) = .returned (.tuple #[.bool c, .bool d]) := by rw [h, h2]

set_option maxHeartbeats 400000 in
theorem specSame_yes (v s : ByteArray) (w : World) (hv : v.size ≤ maxLen) (hs : s.size ≤ maxLen) (h1 : isWord v.data.toList = true) (h2 : isWord s.data.toList = true) :
    Calls Try.prog 23 #[.string v, .string s] w fun e w' => e = .returned (.tuple #[.bool (decide (runK unitD v.data.toList = runK unitD s.data.toList)), .bool true]) ∧ Below w.heap.size w w' := by
  have H1 := hide h1
  have H2 := hide h2
  clear h1 h2
  go_enter Try.func23, Try.ntmps23
  go_wp2_with fail
  refine (diWord_any v _ hv).mono ?_
  rintro e w1 ⟨rfl, rfl⟩
  rw [H1.out]
  go_wp2_with fail
  refine (diWord_any s _ hs).mono ?_
  rintro e w1 ⟨rfl, rfl⟩
  rw [H2.out]
  go_wp2_with fail
  refine (diUnit_any _).mono ?_
  rintro e w1 ⟨rfl, hb1⟩
  go_wp2_with fail
  refine (diRun_any unitD v _ hv).mono ?_
  rintro e w2 ⟨rfl, hb2⟩
  have q2 := below_after hb1 hb2 hb1.size
  clear hb1 hb2
  go_wp2_with fail
  refine (diUnit_any _).mono ?_
  rintro e w3 ⟨rfl, hb3⟩
  have q3 := below_after q2 hb3 q2.size
  clear q2 hb3
  go_wp2_with fail
  refine (diRun_any unitD s _ hs).mono ?_
  rintro e w4 ⟨rfl, hb4⟩
  have q4 := below_after q3 hb4 q3.size
  clear q3 hb4
  generalize hx : runK unitD v.data.toList = x
  generalize hy : runK unitD s.data.toList = y
  have HX := hide hx
  have HY := hide hy
  clear hx hy
  have heq := fun wx => eql_die x y wx
  go_wp2
  go_returns
  exact ⟨ret_two (by rw [HX.out, HY.out]) rfl, q4⟩

set_option maxHeartbeats 400000 in
theorem specSame_no1 (v s : ByteArray) (w : World) (hv : v.size ≤ maxLen) (hs : s.size ≤ maxLen) (h1 : isWord v.data.toList = false) :
    Calls Try.prog 23 #[.string v, .string s] w fun e w' => e = .returned (.tuple #[.bool false, .bool false]) ∧ Below w.heap.size w w' := by
  have H1 := hide h1
  clear h1
  skip
  skip
  go_enter Try.func23, Try.ntmps23
  go_wp2_with fail
  refine (diWord_any v _ hv).mono ?_
  rintro e w1 ⟨rfl, rfl⟩
  rw [H1.out]
  go_wp2
  go_returns
  exact ⟨rfl, Below.refl _ _⟩

set_option maxHeartbeats 400000 in
theorem specSame_no2 (v s : ByteArray) (w : World) (hv : v.size ≤ maxLen) (hs : s.size ≤ maxLen) (h1 : isWord v.data.toList = true) (h2 : isWord s.data.toList = false) :
    Calls Try.prog 23 #[.string v, .string s] w fun e w' => e = .returned (.tuple #[.bool false, .bool false]) ∧ Below w.heap.size w w' := by
  have H1 := hide h1
  clear h1
  have H2 := hide h2
  clear h2
  go_enter Try.func23, Try.ntmps23
  go_wp2_with fail
  refine (diWord_any v _ hv).mono ?_
  rintro e w1 ⟨rfl, rfl⟩
  rw [H1.out]
  go_wp2_with fail
  refine (diWord_any s _ hs).mono ?_
  rintro e w1 ⟨rfl, rfl⟩
  rw [H2.out]
  go_wp2
  go_returns
  exact ⟨rfl, Below.refl _ _⟩

set_option maxHeartbeats 400000 in
theorem implSame_yes (v s : ByteArray) (w : World) (hv : v.size ≤ maxLen) (hs : s.size ≤ maxLen) (h1 : isWord v.data.toList = true) (h2 : isWord s.data.toList = true) :
    Calls Try.prog 24 #[.string v, .string s] w fun e w' => e = .returned (.tuple #[.bool (decide (runC markD v.data.toList = runC markD s.data.toList)), .bool true]) ∧ Below w.heap.size w w' := by
  have H1 := hide h1
  have H2 := hide h2
  clear h1 h2
  go_enter Try.func24, Try.ntmps24
  go_wp2_with fail
  refine (isRolls_any v _ hv).mono ?_
  rintro e w1 ⟨rfl, rfl⟩
  rw [H1.out]
  go_wp2_with fail
  refine (isRolls_any s _ hs).mono ?_
  rintro e w1 ⟨rfl, rfl⟩
  rw [H2.out]
  go_wp2_with fail
  refine (markedDie_any _).mono ?_
  rintro e w1 ⟨rfl, hb1⟩
  go_wp2_with fail
  have g1 : IsD (w1.alloc (.cells #[.int .i64 1, .int .i64 2, .int .i64 3, .int .i64 4, .int .i64 5, .int .i64 6] 24)) w1.heap.size markD 24 := IsD.new (d := markD)
  have q1 := hb1.alloc hb1.size (.cells #[.int .i64 1, .int .i64 2, .int .i64 3, .int .i64 4, .int .i64 5, .int .i64 6] 24)
  generalize hB : w1.heap.size = B at g1 ⊢
  generalize w1.alloc (.cells #[.int .i64 1, .int .i64 2, .int .i64 3, .int .i64 4, .int .i64 5, .int .i64 6] 24) = W at g1 q1 ⊢
  clear hB hb1
  obtain ⟨l1, ⟨c0, c1, c2, c3, c4, c5⟩, -⟩ := g1.all
  simp only [markD] at c0 c1 c2 c3 c4 c5
  generalize hx : runC markD v.data.toList = x
  generalize hy : runC markD s.data.toList = y
  have HX := hide hx
  have HY := hide hy
  clear hx hy
  have heq := fun wx => eql_die x y wx
  go_region_held3 (fun w' => (w'.cell? ⟨B, 0, none⟩ = some (.int .i64 1) ∧ w'.cell? ⟨B, 1, none⟩ = some (.int .i64 2) ∧ w'.cell? ⟨B, 2, none⟩ = some (.int .i64 3) ∧ w'.cell? ⟨B, 3, none⟩ = some (.int .i64 4) ∧ w'.cell? ⟨B, 4, none⟩ = some (.int .i64 5) ∧ w'.cell? ⟨B, 5, none⟩ = some (.int .i64 6))) (go_keep)
    (first | (go_at_call_of 38 (Value.string v); refine (rolledAlong_any markD v _ hv).mono ?_; rintro e w2 ⟨rfl, hb2⟩; rw [HX.out]; have g2 := isD_to hb2 g1 rfl; have q2 := below_to hb2 q1 q1.size rfl rfl rfl rfl; obtain ⟨l2, ⟨d0, d1, d2, d3, d4, d5⟩, -⟩ := g2.all; simp only [markD] at d0 d1 d2 d3 d4 d5; clear hb2) | (go_at_call_of 38 (Value.string s); refine (rolledAlong_any markD s _ hs).mono ?_; rintro e w3 ⟨rfl, hb3⟩; rw [HY.out]; have g3 := isD_to hb3 g2 rfl; have q3 := below_to hb3 q2 q2.size rfl rfl rfl rfl; obtain ⟨l3, ⟨e0, e1, e2, e3, e4, e5⟩, -⟩ := g3.all; simp only [markD] at e0 e1 e2 e3 e4 e5; clear hb3))
  go_wp2
  go_returns
  exact ⟨ret_two (by rw [HX.out, HY.out]) rfl, q3⟩

set_option maxHeartbeats 400000 in
theorem implSame_no1 (v s : ByteArray) (w : World) (hv : v.size ≤ maxLen) (hs : s.size ≤ maxLen) (h1 : isWord v.data.toList = false) :
    Calls Try.prog 24 #[.string v, .string s] w fun e w' => e = .returned (.tuple #[.bool false, .bool false]) ∧ Below w.heap.size w w' := by
  have H1 := hide h1
  clear h1
  skip
  skip
  go_enter Try.func24, Try.ntmps24
  go_wp2_with fail
  refine (isRolls_any v _ hv).mono ?_
  rintro e w1 ⟨rfl, rfl⟩
  rw [H1.out]
  go_wp2
  go_returns
  exact ⟨rfl, Below.refl _ _⟩

set_option maxHeartbeats 400000 in
theorem implSame_no2 (v s : ByteArray) (w : World) (hv : v.size ≤ maxLen) (hs : s.size ≤ maxLen) (h1 : isWord v.data.toList = true) (h2 : isWord s.data.toList = false) :
    Calls Try.prog 24 #[.string v, .string s] w fun e w' => e = .returned (.tuple #[.bool false, .bool false]) ∧ Below w.heap.size w w' := by
  have H1 := hide h1
  clear h1
  have H2 := hide h2
  clear h2
  go_enter Try.func24, Try.ntmps24
  go_wp2_with fail
  refine (isRolls_any v _ hv).mono ?_
  rintro e w1 ⟨rfl, rfl⟩
  rw [H1.out]
  go_wp2_with fail
  refine (isRolls_any s _ hs).mono ?_
  rintro e w1 ⟨rfl, rfl⟩
  rw [H2.out]
  go_wp2
  go_returns
  exact ⟨rfl, Below.refl _ _⟩

/-- What both say. -/
def asS (v s : List UInt8) : Bool := if isWord v = true ∧ isWord s = true then decide (runC unitD v = runC unitD s) else false
def asF (v s : List UInt8) : Bool := isWord v && isWord s
theorem specSame_any (v s : ByteArray) (w : World) (hv : v.size ≤ maxLen) (hs : s.size ≤ maxLen) : Calls Try.prog 23 #[.string v, .string s] w fun e w' => e = .returned (.tuple #[.bool (asS v.data.toList s.data.toList), .bool (asF v.data.toList s.data.toList)]) ∧ Below w.heap.size w w' := by
  cases h : isWord v.data.toList
  · simpa [asS, asF, h] using specSame_no1 v s w hv hs h
  · cases h2 : isWord s.data.toList
    · simpa [asS, asF, h, h2] using specSame_no2 v s w hv hs h h2
    · have hh := specSame_yes v s w hv hs h h2
      rw [← runC_K h, ← runC_K h2] at hh
      have e1 : asS v.data.toList s.data.toList = decide (runC unitD v.data.toList = runC unitD s.data.toList) := by simp [asS, h, h2]
      have e2 : asF v.data.toList s.data.toList = true := by simp [asF, h, h2]
      rw [e1, e2]
      exact hh
theorem implSame_any (v s : ByteArray) (w : World) (hv : v.size ≤ maxLen) (hs : s.size ≤ maxLen) : Calls Try.prog 24 #[.string v, .string s] w fun e w' => e = .returned (.tuple #[.bool (asS v.data.toList s.data.toList), .bool (asF v.data.toList s.data.toList)]) ∧ Below w.heap.size w w' := by
  cases h : isWord v.data.toList
  · simpa [asS, asF, h] using implSame_no1 v s w hv hs h
  · cases h2 : isWord s.data.toList
    · simpa [asS, asF, h, h2] using implSame_no2 v s w hv hs h h2
    · have hh := implSame_yes v s w hv hs h h2
      rw [same_marks] at hh
      have e1 : asS v.data.toList s.data.toList = decide (runC unitD v.data.toList = runC unitD s.data.toList) := by simp [asS, h, h2]
      have e2 : asF v.data.toList s.data.toList = true := by simp [asF, h, h2]
      rw [e1, e2]
      exact hh

set_option maxHeartbeats 800000 in
theorem walk_AreSameRolls (v : ByteArray) (hv : v.size ≤ maxLen) (s : ByteArray) (hs : s.size ≤ maxLen) (w : World) : Calls Try.prog 8 #[.string v, .string s] w fun e w' => e = .returned (.bool true) ∧ Below w.heap.size w w' := by
  by_cases h1 : v.size ≤ 1048576
  · by_cases h2 : s.size ≤ 1048576
    · go_enter Try.func8, Try.ntmps8
      go_wp2_with fail
      refine (specSame_any v s _ hv hs).mono ?_
      rintro e w1 ⟨rfl, hb1⟩
      generalize hx : asS v.data.toList s.data.toList = x
      generalize hg : asF v.data.toList s.data.toList = g
      have HX := hide hx
      have HG := hide hg
      clear hx hg
      go_wp2_with fail
      refine (implSame_any v s _ hv hs).mono ?_
      rintro e w2 ⟨rfl, hb2⟩
      rw [HX.out, HG.out]
      have e1 : (x != x) = false := by simp
      have e2 : (g != g) = false := by simp
      go_wp2
      go_returns
      exact ⟨rfl, below_after hb1 hb2 hb1.size⟩
    · go_enter Try.func8, Try.ntmps8
      go_wp2
      go_returns
      exact ⟨rfl, Below.refl _ _⟩
  · go_enter Try.func8, Try.ntmps8
    go_wp2
    go_returns
    exact ⟨rfl, Below.refl _ _⟩
end Go.Proofs.Ytphcaikggfmpaaa
