/- The walk of the law of ShortestRolls. -/
import Derived.Test.YtnncehifmaaeiaaDoorWalksG
import Derived.Test.YtnncehifmaaeiaaDoorWalksF
namespace Go.Proofs.YtnncehifmaaeiaaDoor
set_option maxRecDepth 100000
set_option linter.all false
open Go.RowKit Go.Maps

/-! ### The plain law: the unit die and the marked die have the same words -/
theorem runC_ways (l : List UInt8) : ∀ p ∈ ways, runC p l ∈ ways := by
  induction l with
  | nil => exact fun p hp => hp
  | cons a l ih => exact fun p hp => ih _ (ways_closed' hp _)
theorem runC_orbit (d : D) (l : List UInt8) : ∀ p ∈ orbit d, runC p l ∈ orbit d := by
  induction l with
  | nil => exact fun p hp => hp
  | cons a l ih => exact fun p hp => ih _ (orbit_closed hp _)
theorem good_mark : goodB markD = true := by decide +kernel
theorem run_good (l : List UInt8) : goodB (runC markD l) = true := orbit_good good_mark (runC_orbit markD l _ (orbit_self markD))
def foundAs (L : Found) (x : D) : Option (List UInt8) := (L.find? (fun p => decide (p.1 = x))).map (·.2)
theorem wordOf_as {L M : Found} {x y : D} (h : foundAs L x = foundAs M y) : wordOf L x = wordOf M y := by
  unfold foundAs at h
  unfold wordOf
  cases h1 : L.find? (fun p => decide (p.1 = x)) <;> cases h2 : M.find? (fun p => decide (p.1 = y)) <;> simp_all
set_option maxRecDepth 100000 in
theorem found_ways : ∀ p ∈ ways, foundAs (bfs unitD) p = foundAs (bfs markD) (mapD up p) := by decide +kernel
set_option maxRecDepth 100000 in
theorem known_ways : ∀ p ∈ ways, known (bfs unitD) p = true := by decide +kernel
theorem unit_way : unitD ∈ ways := by decide +kernel
theorem word_marks (l : List UInt8) : wordOf (bfs markD) (runC markD l) = wordOf (bfs unitD) (runC unitD l) := by
  rw [runC_mark]
  exact (wordOf_as (found_ways _ (runC_ways l _ unit_way))).symm
theorem known_marks (l : List UInt8) : known (bfs unitD) (runC unitD l) = true := known_ways _ (runC_ways l _ unit_way)

/-- 'words[x]'. -/
theorem look_one {d : D} (hd : goodB d = true) {L : Found} (hL : Good d L) {x : D} (hx : goodB x = true) {w : World} {b : Nat} (h : MapIs w b L) :
    (Instr.lookup 58 (.map (some b)) (D.v x) false).run Tryd.prog w = .ok (.string (wordOf L x)) w := by
  obtain ⟨kl, hk⟩ := key_die hx
  rcases find_die hd hL hx w with ⟨h1, h2⟩ | ⟨j, p, h1, h2, h3⟩
  · simp [Instr.lookup, run_underlying Tryd.underlying58, MapKept.run_getObj_map h, law.check w _ hk, h1, zero_str, Result.andThen, wordOf_none h2]
  · have e2 := wordOf_at hL h2 h3
    simp [Instr.lookup, run_underlying Tryd.underlying58, MapKept.run_getObj_map h, law.check w _ hk, h1, e2, Result.andThen]

set_option maxHeartbeats 800000 in
theorem implShort_no (v : ByteArray) (w : World) (hv : v.size ≤ maxLen) (h : isWord v.data.toList = false) : Calls Tryd.prog 20 #[.string v] w fun e w' => e = .returned (.tuple #[.string ⟨#[]⟩, .bool false]) ∧ Below w.heap.size w w' := by
  have H := hide h
  clear h
  go_enter Tryd.func20, Tryd.ntmps20
  go_wp2_with fail
  refine (isRolls_any v _ hv).mono ?_
  rintro e w1 ⟨rfl, rfl⟩
  rw [H.out]
  go_wp2
  go_returns
  exact ⟨rfl, Below.refl _ _⟩

set_option maxHeartbeats 800000 in
theorem implShort_yes (v : ByteArray) (w : World) (hv : v.size ≤ maxLen) (h : isWord v.data.toList = true) : Calls Tryd.prog 20 #[.string v] w fun e w' => e = .returned (.tuple #[.string (wordOf (bfs markD) (runC markD v.data.toList)), .bool true]) ∧ Below w.heap.size w w' := by
  have H := hide h
  clear h
  have hgx := run_good v.data.toList
  generalize hx : runC markD v.data.toList = x at hgx ⊢
  have HX := hide hx
  clear hx
  have HG := hide hgx
  clear hgx
  have HB := hide (bfs_good markD)
  have HM := hide good_mark
  generalize hwo : wordOf (bfs markD) x = wo
  have HWO := hide hwo
  clear hwo
  go_enter Tryd.func20, Tryd.ntmps20
  go_wp2_with fail
  refine (isRolls_any v _ hv).mono ?_
  rintro e w1 ⟨rfl, rfl⟩
  rw [H.out]
  go_wp2_with fail
  refine (markedDie_any _).mono ?_
  rintro e w1 ⟨rfl, hb1⟩
  go_wp2_with fail
  have g1 : IsD (w1.alloc (.cells #[.int .i64 1, .int .i64 2, .int .i64 3, .int .i64 4, .int .i64 5, .int .i64 6] 29)) w1.heap.size markD 29 := IsD.new (d := markD)
  have q1 := hb1.alloc hb1.size (.cells #[.int .i64 1, .int .i64 2, .int .i64 3, .int .i64 4, .int .i64 5, .int .i64 6] 29)
  generalize hB : w1.heap.size = B at g1 ⊢
  generalize w1.alloc (.cells #[.int .i64 1, .int .i64 2, .int .i64 3, .int .i64 4, .int .i64 5, .int .i64 6] 29) = W at g1 q1 ⊢
  clear hB hb1
  obtain ⟨l1, ⟨c0, c1, c2, c3, c4, c5⟩, -⟩ := g1.all
  simp only [markD] at c0 c1 c2 c3 c4 c5
  go_region_held3 (fun w' => w'.cell? ⟨B, 0, none⟩ = some (.int .i64 1) ∧ w'.cell? ⟨B, 1, none⟩ = some (.int .i64 2) ∧ w'.cell? ⟨B, 2, none⟩ = some (.int .i64 3) ∧ w'.cell? ⟨B, 3, none⟩ = some (.int .i64 4) ∧ w'.cell? ⟨B, 4, none⟩ = some (.int .i64 5) ∧ w'.cell? ⟨B, 5, none⟩ = some (.int .i64 6)) (go_keep)
    (first
      | (go_at_call 34; refine (firstWords_any markD _ HM.out).mono ?_; rintro e w2 ⟨mb, rfl, hmb, hm, hb2⟩; have g2 := isD_to hb2 g1 rfl; have q2 := below_to hb2 q1 q1.size rfl rfl rfl rfl; obtain ⟨l2, ⟨d0, d1, d2, d3, d4, d5⟩, -⟩ := g2.all; simp only [markD] at d0 d1 d2 d3 d4 d5; clear hb2)
      | (go_at_call 35; refine (rolledAlong_any markD v _ hv).mono ?_; rintro e w3 ⟨rfl, hb3⟩; rw [HX.out]; have hm3 := MapIs.below hb3 hm rfl; have hlk := look_one HM.out HB.out HG.out (b := mb) hm3; rw [HWO.out] at hlk; have g3 := isD_to hb3 g2 rfl; have q3 := below_to hb3 q2 q2.size rfl rfl rfl rfl; obtain ⟨l3, ⟨e0, e1, e2, e3, e4, e5⟩, -⟩ := g3.all; simp only [markD] at e0 e1 e2 e3 e4 e5; clear hb3 hm hm3))
  go_wp2
  go_returns
  exact ⟨rfl, q3⟩

/-- What both say. -/
def srS (l : List UInt8) : ByteArray := if isWord l = true then wordOf (bfs unitD) (runC unitD l) else ⟨#[]⟩
theorem implShort_any (v : ByteArray) (w : World) (hv : v.size ≤ maxLen) : Calls Tryd.prog 20 #[.string v] w fun e w' => e = .returned (.tuple #[.string (srS v.data.toList), .bool (isWord v.data.toList)]) ∧ Below w.heap.size w w' := by
  cases h : isWord v.data.toList
  · simpa [srS, h] using implShort_no v w hv h
  · have hh := implShort_yes v w hv h
    rw [word_marks] at hh
    simpa [srS, h] using hh

end Go.Proofs.YtnncehifmaaeiaaDoor
