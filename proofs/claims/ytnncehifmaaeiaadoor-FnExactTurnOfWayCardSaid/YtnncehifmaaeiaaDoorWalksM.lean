/- The walk of the law of TurnOfWay. -/
import Derived.Test.YtnncehifmaaeiaaDoorWalksI
import Derived.Test.YtnncehifmaaeiaaDoorWalksK
namespace Go.Proofs.YtnncehifmaaeiaaDoor
set_option maxRecDepth 100000
set_option linter.all false
open Go.RowKit Go.Maps

set_option maxHeartbeats 800000 in
theorem specTW_no1 (v : ByteArray) (w : World) (hv : v.size ≤ maxLen) (h : isWord v.data.toList = false) : Calls Tryd.prog 6 #[.string v] w fun e w' => e = .returned (.tuple #[.string ⟨#[]⟩, .bool false]) ∧ Below w.heap.size w w' := by
  have H := hide h
  clear h
  go_enter Tryd.func6, Tryd.ntmps6
  go_wp2_with fail
  refine (diWord_any v _ hv).mono ?_
  rintro e w1 ⟨rfl, rfl⟩
  rw [H.out]
  go_wp2
  go_returns
  exact ⟨rfl, Below.refl _ _⟩
set_option maxHeartbeats 800000 in
theorem specTW_no2 (v : ByteArray) (w : World) (hv : v.size ≤ maxLen) (h : isWord v.data.toList = true) (hc : closedB v.data.toList = false) : Calls Tryd.prog 6 #[.string v] w fun e w' => e = .returned (.tuple #[.string ⟨#[]⟩, .bool false]) ∧ Below w.heap.size w w' := by
  have H := hide h
  have HC := hide hc
  clear h hc
  go_enter Tryd.func6, Tryd.ntmps6
  go_wp2_with fail
  refine (diWord_any v _ hv).mono ?_
  rintro e w1 ⟨rfl, rfl⟩
  rw [H.out]
  go_wp2_with fail
  refine (boClosed_any v _ H.out).mono ?_
  rintro e w1 ⟨rfl, rfl⟩
  rw [HC.out]
  go_wp2
  go_returns
  exact ⟨rfl, Below.refl _ _⟩
set_option maxHeartbeats 800000 in
theorem specTW_yes (v : ByteArray) (w : World) (hv : v.size ≤ maxLen) (h : isWord v.data.toList = true) (hc : closedB v.data.toList = true) : Calls Tryd.prog 6 #[.string v] w fun e w' => e = .returned (.tuple #[.string (wordOf (bfs unitD) (runC unitD v.data.toList)), .bool true]) ∧ Below w.heap.size w w' := by
  have HK := hide (known_marks v.data.toList)
  have HR := hide (runC_K h unitD)
  have H := hide h
  have HC := hide hc
  clear h hc
  generalize hwo : wordOf (bfs unitD) (runC unitD v.data.toList) = wo
  have HWO := hide hwo
  clear hwo
  go_enter Tryd.func6, Tryd.ntmps6
  go_wp2_with fail
  refine (diWord_any v _ hv).mono ?_
  rintro e w1 ⟨rfl, rfl⟩
  rw [H.out]
  go_wp2_with fail
  refine (boClosed_any v _ H.out).mono ?_
  rintro e w1 ⟨rfl, rfl⟩
  rw [HC.out]
  go_wp2_with fail
  refine (diUnit_any _).mono ?_
  rintro e w1 ⟨rfl, hb1⟩
  go_wp2_with fail
  refine (diUnit_any _).mono ?_
  rintro e w2 ⟨rfl, hb2⟩
  have q2 := below_after hb1 hb2 hb1.size
  clear hb1 hb2
  go_wp2_with fail
  refine (diRun_any unitD v _ hv).mono ?_
  rintro e w3 ⟨rfl, hb3⟩
  have q3 := below_after q2 hb3 q2.size
  clear q2 hb3
  rw [← HR.out]
  go_wp2_with fail
  refine (diWordTo_any unitD (runC unitD v.data.toList) _).mono ?_
  rintro e w4 ⟨rfl, hb4⟩
  have q4 := below_after q3 hb4 q3.size
  clear q3 hb4
  rw [HK.out, HWO.out]
  go_wp2
  go_returns
  exact ⟨rfl, q4⟩

set_option maxHeartbeats 800000 in
theorem implTW_no (v : ByteArray) (w : World) (hc : closedB v.data.toList = false) : Calls Tryd.prog 7 #[.string v] w fun e w' => e = .returned (.tuple #[.string ⟨#[]⟩, .bool false]) ∧ Below w.heap.size w w' := by
  have HC := hide hc
  clear hc
  go_enter Tryd.func7, Tryd.ntmps7
  go_wp2_with fail
  refine (isClosed_any v _).mono ?_
  rintro e w1 ⟨rfl, rfl⟩
  rw [HC.out]
  go_wp2
  go_returns
  exact ⟨rfl, Below.refl _ _⟩
theorem implShortT_any (v : ByteArray) (w : World) (hv : v.size ≤ maxLen) : Calls Tryd.prog 20 #[.string v] w fun e w' => e = .returned (.tuple #[.string (if isWord v.data.toList = true then wordOf (bfs unitD) (runC unitD v.data.toList) else ⟨#[]⟩), .bool (isWord v.data.toList)]) ∧ Below w.heap.size w w' := by
  cases h : isWord v.data.toList
  · simpa [h] using implShort_no v w hv h
  · have hh := implShort_yes v w hv h
    rw [word_marks] at hh
    simpa [h] using hh
set_option maxHeartbeats 800000 in
theorem implTW_yes (v : ByteArray) (w : World) (hv : v.size ≤ maxLen) (hc : closedB v.data.toList = true) : Calls Tryd.prog 7 #[.string v] w fun e w' => e = .returned (.tuple #[.string (if isWord v.data.toList = true then wordOf (bfs unitD) (runC unitD v.data.toList) else ⟨#[]⟩), .bool (isWord v.data.toList)]) ∧ Below w.heap.size w w' := by
  have HC := hide hc
  clear hc
  generalize hx : (if isWord v.data.toList = true then wordOf (bfs unitD) (runC unitD v.data.toList) else ⟨#[]⟩) = x
  generalize hg : isWord v.data.toList = g at hx
  have HX := hide hx
  have HG := hide hg
  clear hx hg
  go_enter Tryd.func7, Tryd.ntmps7
  go_wp2_with fail
  refine (isClosed_any v _).mono ?_
  rintro e w1 ⟨rfl, rfl⟩
  rw [HC.out]
  go_wp2_with fail
  refine (implShortT_any v _ hv).mono ?_
  rintro e w1 ⟨rfl, hb1⟩
  rw [HG.out, HX.out]
  go_wp2
  go_returns
  exact ⟨rfl, hb1⟩

/-- What both say. -/
def twS (l : List UInt8) : ByteArray := if isWord l = true ∧ closedB l = true then wordOf (bfs unitD) (runC unitD l) else ⟨#[]⟩
def twF (l : List UInt8) : Bool := isWord l && closedB l
theorem specTW_any (v : ByteArray) (w : World) (hv : v.size ≤ maxLen) : Calls Tryd.prog 6 #[.string v] w fun e w' => e = .returned (.tuple #[.string (twS v.data.toList), .bool (twF v.data.toList)]) ∧ Below w.heap.size w w' := by
  cases h : isWord v.data.toList
  · simpa [twS, twF, h] using specTW_no1 v w hv h
  · cases hc : closedB v.data.toList
    · simpa [twS, twF, h, hc] using specTW_no2 v w hv h hc
    · simpa [twS, twF, h, hc] using specTW_yes v w hv h hc
theorem implTW_any (v : ByteArray) (w : World) (hv : v.size ≤ maxLen) : Calls Tryd.prog 7 #[.string v] w fun e w' => e = .returned (.tuple #[.string (twS v.data.toList), .bool (twF v.data.toList)]) ∧ Below w.heap.size w w' := by
  cases hc : closedB v.data.toList
  · simpa [twS, twF, hc] using implTW_no v w hc
  · have hh := implTW_yes v w hv hc
    cases h : isWord v.data.toList
    · simpa [twS, twF, h, hc] using hh
    · simpa [twS, twF, h, hc] using hh

set_option maxHeartbeats 800000 in
theorem walk_TurnOfWay (v : ByteArray) (hv : v.size ≤ maxLen) (w : World) (_ : Glob w) : Calls Tryd.prog 3 #[.string v] w fun e w' => e = .returned (.bool true) ∧ Below w.heap.size w w' := by
  by_cases h1 : v.size ≤ 1048576
  · go_enter Tryd.func3, Tryd.ntmps3
    go_wp2_with fail
    refine (specTW_any v _ hv).mono ?_
    rintro e w1 ⟨rfl, hb1⟩
    generalize hx : twS v.data.toList = x
    generalize hg : twF v.data.toList = g
    have HX := hide hx
    have HG := hide hg
    clear hx hg
    go_wp2_with fail
    refine (implTW_any v _ hv).mono ?_
    rintro e w2 ⟨rfl, hb2⟩
    rw [HX.out, HG.out]
    have e1 : (x.toList != x.toList) = false := by simp
    have e2 : (g != g) = false := by simp
    go_wp2
    go_returns
    exact ⟨rfl, below_after hb1 hb2 hb1.size⟩
  · go_enter Tryd.func3, Tryd.ntmps3
    go_wp2
    go_returns
    exact ⟨rfl, Below.refl _ _⟩
end Go.Proofs.YtnncehifmaaeiaaDoor
