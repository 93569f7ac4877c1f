/- The laws of FoldNet, PlacesOfNet. -/
import Derived.Test.YtbfclnigjijkbaaNeK
namespace Go.Proofs.Ytbfclnigjijkbaa
set_option maxRecDepth 100000
set_option linter.all false
open Go.RowKit

set_option maxHeartbeats 800000 in
theorem walk_FoldNet (v : ByteArray) (hv : v.size ≤ maxLen) (w : World) : Calls Try.prog 5 #[.string v] w fun e w' => e = .returned (.bool true) ∧ Below w.heap.size w w' := by
  by_cases h1 : v.size ≤ 1048576
  · have h1i : (v.size : Int) ≤ 1048576 := by omega
    have key : ∀ (x : D) (ok : Bool), Hid (∀ wx, Calls Try.prog 12 #[.string v] wx fun e w' => e = .returned (.tuple #[D.v x, .bool ok]) ∧ Below wx.heap.size wx w') → Hid (∀ wx, Calls Try.prog 13 #[.string v] wx fun e w' => e = .returned (.tuple #[D.v x, .bool ok]) ∧ Below wx.heap.size wx w') → Calls Try.prog 5 #[.string v] w fun e w' => e = .returned (.bool true) ∧ Below w.heap.size w w' := by
      intro x ok HS HP
      have e1 : (ok != ok) = false := by simp
      have HE := hide e1
      go_enter Try.func5, Try.ntmps5
      have q0 : Below w.heap.size w (w.alloc (.cells #[.int .i64 0, .int .i64 0, .int .i64 0, .int .i64 0, .int .i64 0, .int .i64 0] 24)) := by go_grown
      go_wp2_with fail
      refine (HS.out _).mono ?_
      rintro e w1 ⟨rfl, hb1⟩
      have hs1 := hb1.size
      have q1 : Below w.heap.size w w1 := below_after (Below.refl _ _) hb1 (Nat.le_refl _)
      clear hb1
      go_wp2_with fail
      have q2 := q1.alloc q1.size (.cells #[.int .i64 x.t, .int .i64 x.n, .int .i64 x.e, .int .i64 x.s, .int .i64 x.w, .int .i64 x.b] 24)
      have g2 := IsD.new (w := w1) (d := x) (ty := 24)
      refine (HP.out _).mono ?_
      rintro e w3 ⟨rfl, hb3⟩
      have g3 := isD_to hb3 g2 rfl
      have q3 := below_to hb3 q2 q2.size rfl rfl rfl rfl
      clear q1 q2 g2 hb3 q0
      have g4 := g3.alloc (.cells #[.int .i64 x.t, .int .i64 x.n, .int .i64 x.e, .int .i64 x.s, .int .i64 x.w, .int .i64 x.b] 24)
      have q4 := q3.alloc q3.size (.cells #[.int .i64 x.t, .int .i64 x.n, .int .i64 x.e, .int .i64 x.s, .int .i64 x.w, .int .i64 x.b] 24)
      obtain ⟨l1, ⟨c0, c1, c2, c3, c4, c5⟩, -⟩ := g4.all
      go_wp2_with fail
      refine (eqDie_any x x _).mono ?_
      rintro e w5 ⟨rfl, hb5⟩
      have q5 := below_to hb5 q4 q4.size rfl rfl rfl rfl
      rw [decide_eq_true (rfl : x = x)]
      go_wp2
      go_returns
      exact ⟨rfl, q5⟩
    cases hn : netB v.data.toList
    · exact key zeroD false (hide (fun wx => specFold_no v wx hn)) (hide (fun wx => implFoldNet_no v wx h1 hn))
    · exact key _ true (hide (fun wx => specFold_yes v wx hn)) (hide (fun wx => implFoldNet_yes v wx h1 hn))
  · have h1i : (1048576 : Int) < (v.size : Int) := by omega
    clear h1
    go_enter Try.func5, Try.ntmps5
    go_wp2
    go_returns
    exact ⟨rfl, by go_grown⟩
set_option maxHeartbeats 800000 in
theorem walk_PlacesOfNet (v : ByteArray) (hv : v.size ≤ maxLen) (w : World) : Calls Try.prog 6 #[.string v] w fun e w' => e = .returned (.bool true) ∧ Below w.heap.size w w' := by
  by_cases h1 : v.size ≤ 1048576
  · have h1i : (v.size : Int) ≤ 1048576 := by omega
    have key : ∀ (x : ByteArray) (ok : Bool), Hid (∀ wx, Calls Try.prog 15 #[.string v] wx fun e w' => e = .returned (.tuple #[.string x, .bool ok]) ∧ Below wx.heap.size wx w') → Hid (∀ wx, Calls Try.prog 16 #[.string v] wx fun e w' => e = .returned (.tuple #[.string x, .bool ok]) ∧ Below wx.heap.size wx w') → Calls Try.prog 6 #[.string v] w fun e w' => e = .returned (.bool true) ∧ Below w.heap.size w w' := by
      intro x ok HS HP
      have e1 : (ok != ok) = false := by simp
      have e2 : (x.toList != x.toList) = false := by simp
      go_enter Try.func6, Try.ntmps6
      go_wp2_with fail
      refine (HS.out _).mono ?_
      rintro e w1 ⟨rfl, hb1⟩
      go_wp2_with fail
      refine (HP.out _).mono ?_
      rintro e w2 ⟨rfl, hb2⟩
      go_wp2
      go_returns
      exact ⟨rfl, below_after hb1 hb2 hb1.size⟩
    cases hn : netB v.data.toList
    · exact key _ false (hide (fun wx => specPlaces_no v wx hn)) (hide (fun wx => implPlaces_no v wx h1 hn))
    · exact key _ true (hide (fun wx => specPlaces_yes v wx hn)) (hide (fun wx => implPlaces_yes v wx h1 hn))
  · have h1i : (1048576 : Int) < (v.size : Int) := by omega
    clear h1
    go_enter Try.func6, Try.ntmps6
    go_wp2
    go_returns
    exact ⟨rfl, Below.refl _ _⟩
end Go.Proofs.Ytbfclnigjijkbaa
