/- The walk of the law of OrderOfRolls. -/
import Derived.Test.YtphcaikggfmpaaaWalksF
namespace Go.Proofs.Ytphcaikggfmpaaa
set_option maxRecDepth 100000
set_option linter.all false
open Go.RowKit

/-! ### The plain law: the powers of a way to lie -/
def pp (p : D) : Nat → D
  | 0 => unitD
  | k + 1 => pick (pp p k) p
def ordP (p : D) : Nat := if p = unitD then 1 else if pp p 2 = unitD then 2 else if pp p 3 = unitD then 3 else 4
theorem way_run (l : List UInt8) : ∀ p ∈ ways, runC p l ∈ ways := by
  induction l with
  | nil => exact fun p hp => hp
  | cons a l ih => exact fun p hp => ih _ (ways_closed' hp _)
theorem unit_in : unitD ∈ ways := by decide +kernel
theorem ord_ways : ∀ p ∈ ways, 1 ≤ ordP p ∧ ordP p ≤ 4 ∧ pp p 1 = p ∧ pp p (ordP p) = unitD ∧ ∀ k ∈ [1, 2, 3], k < ordP p → pp p k ≠ unitD := by decide +kernel
theorem run_pick (q : D) (l : List UInt8) : runC q l = pick q (runC unitD l) := by
  have := runC_map q.at l unitD
  exact this
def ordL (l : List UInt8) : Nat := ordP (runC unitD l)
theorem powers (l : List UInt8) : ∃ P : Nat → D, P 1 = runC unitD l ∧ 1 ≤ ordL l ∧ ordL l ≤ 4 ∧ P (ordL l) = unitD ∧ (∀ k, 1 ≤ k → k < ordL l → P k ≠ unitD) ∧ ∀ k, runC (P k) l = P (k + 1) := by
  obtain ⟨h1, h2, h3, h4, h5⟩ := ord_ways _ (way_run l _ unit_in)
  refine ⟨pp (runC unitD l), h3, h1, h2, h4, fun k a b => ?_, fun k => run_pick _ l⟩
  have hk : ordL l ≤ 4 := h2
  exact h5 k (by
    have : k = 1 ∨ k = 2 ∨ k = 3 := by omega
    rcases this with rfl | rfl | rfl <;> simp) b
theorem powersM (l : List UInt8) : ∃ P : Nat → D, P 1 = runC markD l ∧ 1 ≤ ordL l ∧ ordL l ≤ 4 ∧ P (ordL l) = markD ∧ (∀ k, 1 ≤ k → k < ordL l → P k ≠ markD) ∧ ∀ k, runC (P k) l = P (k + 1) := by
  obtain ⟨P, h1, h2, h3, h4, h5, h6⟩ := powers l
  refine ⟨fun k => mapD up (P k), ?_, h2, h3, ?_, fun k a b e => h5 k a b (mapD_inj up_inj (e.trans mark_unit)), fun k => ?_⟩
  · show mapD up (P 1) = _
    rw [runC_mark, h1]
  · show mapD up (P (ordL l)) = _
    rw [mark_unit, h4]
  · show runC (mapD up (P k)) l = mapD up (P (k + 1))
    rw [runC_map, h6]

set_option maxHeartbeats 400000 in
theorem specOrder_no (v : ByteArray) (w : World) (hv : v.size ≤ maxLen) (h : isWord v.data.toList = false) : Calls Try.prog 21 #[.string v] w fun e w' => e = .returned (.tuple #[.int .i64 0, .bool false]) ∧ Below w.heap.size w w' := by
  have H := hide h
  clear h
  go_enter Try.func21, Try.ntmps21
  go_wp2_with fail
  refine (diWord_any v _ hv).mono ?_
  rintro e w1 ⟨rfl, rfl⟩
  rw [H.out]
  go_wp2
  go_returns
  exact ⟨rfl, Below.refl _ _⟩

set_option maxHeartbeats 400000 in
theorem implOrder_no (v : ByteArray) (w : World) (hv : v.size ≤ maxLen) (h : isWord v.data.toList = false) : Calls Try.prog 22 #[.string v] w fun e w' => e = .returned (.tuple #[.int .i64 0, .bool false]) ∧ Below w.heap.size w w' := by
  have H := hide h
  clear h
  go_enter Try.func22, Try.ntmps22
  go_wp2_with fail
  refine (isRolls_any v _ hv).mono ?_
  rintro e w1 ⟨rfl, rfl⟩
  rw [H.out]
  go_wp2
  go_returns
  exact ⟨rfl, Below.refl _ _⟩

set_option maxHeartbeats 1600000 in
theorem specOrder_yes (v : ByteArray) (w : World) (hv : v.size ≤ maxLen) (h : isWord v.data.toList = true) : Calls Try.prog 21 #[.string v] w fun e w' => e = .returned (.tuple #[.int .i64 (ordL v.data.toList), .bool true]) ∧ Below w.heap.size w w' := by
  obtain ⟨P, hP1, hN1, hN4, hPN, hne, hst⟩ := powers v.data.toList
  generalize ordL v.data.toList = N at hN1 hN4 hPN hne ⊢
  have HR := hide (fun d => runC_K h d)
  have H := hide h
  have HP1 := hide hP1
  have HPN := hide hPN
  have HNE := hide hne
  have HST := hide hst
  clear h hP1 hPN hne hst
  go_enter Try.func21, Try.ntmps21
  go_wp2_with fail
  refine (diWord_any v _ hv).mono ?_
  rintro e w1 ⟨rfl, rfl⟩
  rw [H.out]
  go_wp2_with fail
  refine (diUnit_any _).mono ?_
  rintro e w1 ⟨rfl, hb1⟩
  go_wp2_with fail
  refine (diRun_any unitD v _ hv).mono ?_
  rintro e w2 ⟨rfl, hb2⟩
  have q2 := below_after hb1 hb2 hb1.size
  clear hb1 hb2
  rw [← HR.out, ← HP1.out]
  generalize hp : P 1 = p
  have HP := hide hp
  clear hp
  go_wp2_with fail
  have g2 : IsD (w2.alloc (.cells #[.int .i64 p.t, .int .i64 p.n, .int .i64 p.e, .int .i64 p.s, .int .i64 p.w, .int .i64 p.b] 24)) w2.heap.size p 24 := IsD.new (d := p)
  have hBw := q2.size
  have q3 := q2.alloc q2.size (.cells #[.int .i64 p.t, .int .i64 p.n, .int .i64 p.e, .int .i64 p.s, .int .i64 p.w, .int .i64 p.b] 24)
  generalize hB : w2.heap.size = B at g2 hBw ⊢
  generalize w2.alloc (.cells #[.int .i64 p.t, .int .i64 p.n, .int .i64 p.e, .int .i64 p.s, .int .i64 p.w, .int .i64 p.b] 24) = W at g2 q3 ⊢
  clear hB q2
  go_loopw [5] (fun i wr => ∃ k : Nat, 1 ≤ k ∧ k ≤ N ∧ i = .int .i64 k ∧ IsD wr B (P k) 24 ∧ Below w.heap.size w wr) (fun i _ => 4 - (intOf i).toNat)
  case atStart => exact ⟨1, by omega, hN1, rfl, by rw [HP.out]; exact g2, q3⟩
  case round =>
    obtain ⟨k, hk1, hkN, rfl, g, q⟩ := hrel
    clear g2 q3
    generalize hx : P k = x at g
    have HX := hide hx
    clear hx
    obtain ⟨l1, ⟨c0, c1, c2, c3, c4, c5⟩, -⟩ := g.all
    by_cases hlt : k < N
    · have hnx : ¬ (x = (⟨0, 1, 2, 3, 4, 5⟩ : D)) := fun e => HNE.out k hk1 hlt (HX.out.trans e)
      have hneq : ∀ wx, (binOp .neq 24 (D.v x) (D.v ⟨0, 1, 2, 3, 4, 5⟩)).run Try.prog wx = .ok (.bool true) wx := fun wx => by rw [neq_die]; simp [hnx]
      clear hnx
      have hk24 : (k : Int) < 24 := by omega
      go_wp2_with fail
      go_region_held3 (fun w' => w'.cell? ⟨B, 0, none⟩ = some (.int .i64 x.t) ∧ w'.cell? ⟨B, 1, none⟩ = some (.int .i64 x.n) ∧ w'.cell? ⟨B, 2, none⟩ = some (.int .i64 x.e) ∧ w'.cell? ⟨B, 3, none⟩ = some (.int .i64 x.s) ∧ w'.cell? ⟨B, 4, none⟩ = some (.int .i64 x.w) ∧ w'.cell? ⟨B, 5, none⟩ = some (.int .i64 x.b)) (go_keep)
        (first | (go_at_call 41; refine (diUnit_any _).mono ?_; rintro e w3 ⟨rfl, hb3⟩; have g3 := isD_to hb3 g rfl; have q3 := below_to hb3 q q.size rfl rfl rfl rfl; obtain ⟨l3, ⟨e0, e1, e2, e3, e4, e5⟩, -⟩ := g3.all; clear hb3))
      clear hneq c0 c1 c2 c3 c4 c5 l1
      go_wp2_with fail
      clear e0 e1 e2 e3 e4 e5 l3
      refine (diRun_any x v _ hv).mono ?_
      rintro e w4 ⟨rfl, hb4⟩
      rw [← HR.out, show runC x v.data.toList = P (k + 1) from by rw [← HX.out]; exact HST.out k]
      generalize hy : P (k + 1) = y
      have HY := hide hy
      clear hy
      have g4 := isD_to hb4 g3 rfl
      have q4 := below_to hb4 q3 q3.size rfl rfl rfl rfl
      clear hb4 g3 q3 g q
      obtain ⟨l4, ⟨c0, c1, c2, c3, c4, c5⟩, f0, f1, f2, f3, f4, f5⟩ := g4.all
      go_wp2
      go_roundw
      case rel =>
        refine ⟨k + 1, by omega, by omega, by go_num, ?_, ?_⟩
        · rw [HY.out]
          exact g4.set6 y
        · exact below_set6 q4 hBw y
      case measure => simp [intOf]; omega
    · have hkn : k = N := by omega
      have hnx : x = (⟨0, 1, 2, 3, 4, 5⟩ : D) := HX.out.symm.trans (hkn ▸ HPN.out)
      have hneq : ∀ wx, (binOp .neq 24 (D.v x) (D.v ⟨0, 1, 2, 3, 4, 5⟩)).run Try.prog wx = .ok (.bool false) wx := fun wx => by rw [neq_die]; simp [hnx]
      have HK := hide hkn
      clear hnx hkn
      go_wp2_with fail
      first
        | go_region_with (go_at_call 41; refine (diUnit_any _).mono ?_; rintro e w3 ⟨rfl, hb3⟩; have g3 := isD_to hb3 g rfl; have q3 := below_to hb3 q q.size rfl rfl rfl rfl; obtain ⟨l3, ⟨e0, e1, e2, e3, e4, e5⟩, -⟩ := g3.all; clear hb3)
        | fail "the region"
      all_goals go_wp2
      all_goals go_returns
      all_goals exact ⟨by rw [HK.out]; rfl, q3⟩

set_option maxHeartbeats 1600000 in
theorem implOrder_yes (v : ByteArray) (w : World) (hv : v.size ≤ maxLen) (h : isWord v.data.toList = true) : Calls Try.prog 22 #[.string v] w fun e w' => e = .returned (.tuple #[.int .i64 (ordL v.data.toList), .bool true]) ∧ Below w.heap.size w w' := by
  obtain ⟨P, hP1, hN1, hN4, hPN, hne, hst⟩ := powersM v.data.toList
  generalize ordL v.data.toList = N at hN1 hN4 hPN hne ⊢
  have H := hide h
  have HP1 := hide hP1
  have HPN := hide hPN
  have HNE := hide hne
  have HST := hide hst
  clear h hP1 hPN hne hst
  obtain ⟨m, hm⟩ : ∃ m : D, m = markD := ⟨_, rfl⟩
  have HM := hide hm
  clear hm
  go_enter Try.func22, Try.ntmps22
  go_wp2_with fail
  refine (isRolls_any v _ hv).mono ?_
  rintro e w1 ⟨rfl, rfl⟩
  rw [H.out]
  go_wp2_with fail
  refine (markedDie_any _).mono ?_
  rintro e w1 ⟨rfl, hb1⟩
  rw [show (⟨1, 2, 3, 4, 5, 6⟩ : D) = m from HM.out.symm]
  go_wp2_with fail
  have g1 : IsD (w1.alloc (.cells #[.int .i64 m.t, .int .i64 m.n, .int .i64 m.e, .int .i64 m.s, .int .i64 m.w, .int .i64 m.b] 24)) w1.heap.size m 24 := IsD.new (d := m)
  have hAw := hb1.size
  have q1 := hb1.alloc hb1.size (.cells #[.int .i64 m.t, .int .i64 m.n, .int .i64 m.e, .int .i64 m.s, .int .i64 m.w, .int .i64 m.b] 24)
  generalize hA : w1.heap.size = A at g1 hAw ⊢
  generalize w1.alloc (.cells #[.int .i64 m.t, .int .i64 m.n, .int .i64 m.e, .int .i64 m.s, .int .i64 m.w, .int .i64 m.b] 24) = W at g1 q1 ⊢
  clear hA hb1
  obtain ⟨l1, ⟨c0, c1, c2, c3, c4, c5⟩, -⟩ := g1.all
  go_wp2_with fail
  clear c0 c1 c2 c3 c4 c5 l1
  refine (rolledAlong_any m v _ hv).mono ?_
  rintro e w2 ⟨rfl, hb2⟩
  rw [show runC m v.data.toList = P 1 from by rw [HM.out]; exact HP1.out.symm]
  generalize hp : P 1 = p
  have HP := hide hp
  clear hp
  have g2 := isD_to hb2 g1 rfl
  have q2 := below_to hb2 q1 q1.size rfl rfl rfl rfl
  clear hb2 g1 q1
  go_wp2_with fail
  have k1 : IsD (w2.alloc (.cells #[.int .i64 p.t, .int .i64 p.n, .int .i64 p.e, .int .i64 p.s, .int .i64 p.w, .int .i64 p.b] 24)) w2.heap.size p 24 := IsD.new (d := p)
  have g3 := g2.alloc (.cells #[.int .i64 p.t, .int .i64 p.n, .int .i64 p.e, .int .i64 p.s, .int .i64 p.w, .int .i64 p.b] 24)
  have hBw := q2.size
  have hAB : A < w2.heap.size := g2.lt
  have q3 := q2.alloc q2.size (.cells #[.int .i64 p.t, .int .i64 p.n, .int .i64 p.e, .int .i64 p.s, .int .i64 p.w, .int .i64 p.b] 24)
  generalize hB : w2.heap.size = B at k1 hBw hAB ⊢
  generalize w2.alloc (.cells #[.int .i64 p.t, .int .i64 p.n, .int .i64 p.e, .int .i64 p.s, .int .i64 p.w, .int .i64 p.b] 24) = W2 at k1 g3 q3 ⊢
  clear hB q2 g2
  go_loopw [5, 6] (fun i u wr => ∃ k b : Nat, 1 ≤ k ∧ k ≤ N ∧ i = .int .i64 k ∧ u = .pointer (some ⟨b, 0, none⟩) ∧ A < b ∧ IsD wr A m 24 ∧ IsD wr b (P k) 24 ∧ Below w.heap.size w wr) (fun i _ _ => 4 - (intOf i).toNat)
  case atStart => exact ⟨1, B, by omega, hN1, rfl, rfl, hAB, g3, by rw [HP.out]; exact k1, q3⟩
  case round =>
    obtain ⟨k, b, hk1, hkN, rfl, rfl, hab, g, j, q⟩ := hrel
    clear g3 k1 q3 hAB
    generalize hx : P k = x at j
    have HX := hide hx
    clear hx
    obtain ⟨l1, ⟨c0, c1, c2, c3, c4, c5⟩, -⟩ := g.all
    obtain ⟨l2, ⟨d0, d1, d2, d3, d4, d5⟩, -⟩ := j.all
    by_cases hlt : k < N
    · have hnx : ¬ (x = m) := fun e => HNE.out k hk1 hlt (HX.out.trans (e.trans HM.out))
      have hneq : ∀ wx, (binOp .neq 24 (D.v x) (D.v m)).run Try.prog wx = .ok (.bool true) wx := fun wx => by rw [neq_die]; simp [hnx]
      clear hnx
      have hk24 : (k : Int) < 24 := by omega
      go_wp2_with fail
      clear hneq c0 c1 c2 c3 c4 c5 d0 d1 d2 d3 d4 d5 l2
      have k2 : IsD (wr.alloc (.cells #[.int .i64 x.t, .int .i64 x.n, .int .i64 x.e, .int .i64 x.s, .int .i64 x.w, .int .i64 x.b] 24)) wr.heap.size x 24 := IsD.new (d := x)
      have g2 := g.alloc (.cells #[.int .i64 x.t, .int .i64 x.n, .int .i64 x.e, .int .i64 x.s, .int .i64 x.w, .int .i64 x.b] 24)
      have q2 := q.alloc q.size (.cells #[.int .i64 x.t, .int .i64 x.n, .int .i64 x.e, .int .i64 x.s, .int .i64 x.w, .int .i64 x.b] 24)
      refine (rolledAlong_any x v _ hv).mono ?_
      rintro e w3 ⟨rfl, hb3⟩
      rw [show runC x v.data.toList = P (k + 1) from by rw [← HX.out]; exact HST.out k]
      generalize hy : P (k + 1) = y
      have HY := hide hy
      clear hy
      have g3 := isD_to hb3 g2 rfl
      have k3 := isD_to hb3 k2 rfl
      have q3 := below_to hb3 q2 q2.size rfl rfl rfl rfl
      have hbw := q.size
      have hne : A ≠ wr.heap.size := Nat.ne_of_lt l1
      have hlt' : A < wr.heap.size := l1
      clear hb3 g2 k2 q2 g j q l1
      generalize wr.heap.size = c at k3 hbw hne hlt' ⊢
      obtain ⟨l4, ⟨d0, d1, d2, d3, d4, d5⟩, f0, f1, f2, f3, f4, f5⟩ := k3.all
      go_wp2
      go_roundw
      case rel =>
        refine ⟨k + 1, c, by omega, by omega, by go_num, rfl, hlt', ?_, ?_, ?_⟩
        · exact (((((g3.other hne _).other hne _).other hne _).other hne _).other hne _).other hne _
        · rw [HY.out]
          exact k3.set6 y
        · exact below_set6 q3 hbw y
      case measure => simp [intOf]; omega
    · have hkn : k = N := by omega
      have hnx : x = m := HX.out.symm.trans ((hkn ▸ HPN.out : P k = markD).trans HM.out.symm)
      have hneq : ∀ wx, (binOp .neq 24 (D.v x) (D.v m)).run Try.prog wx = .ok (.bool false) wx := fun wx => by rw [neq_die]; simp [hnx]
      have HK := hide hkn
      clear hnx hkn
      go_wp2
      go_returns
      exact ⟨by rw [HK.out]; rfl, q⟩

theorem specOrder_any (v : ByteArray) (w : World) (hv : v.size ≤ maxLen) : Calls Try.prog 21 #[.string v] w fun e w' => e = .returned (.tuple #[.int .i64 (if isWord v.data.toList = true then (ordL v.data.toList : Int) else 0), .bool (isWord v.data.toList)]) ∧ Below w.heap.size w w' := by
  cases h : isWord v.data.toList
  · simpa using specOrder_no v w hv h
  · simpa using specOrder_yes v w hv h
theorem implOrder_any (v : ByteArray) (w : World) (hv : v.size ≤ maxLen) : Calls Try.prog 22 #[.string v] w fun e w' => e = .returned (.tuple #[.int .i64 (if isWord v.data.toList = true then (ordL v.data.toList : Int) else 0), .bool (isWord v.data.toList)]) ∧ Below w.heap.size w w' := by
  cases h : isWord v.data.toList
  · simpa using implOrder_no v w hv h
  · simpa using implOrder_yes v w hv h

set_option maxHeartbeats 800000 in
theorem walk_OrderOfRolls (v : ByteArray) (hv : v.size ≤ maxLen) (w : World) : Calls Try.prog 7 #[.string v] w fun e w' => e = .returned (.bool true) ∧ Below w.heap.size w w' := by
  by_cases h1 : v.size ≤ 1048576
  · go_enter Try.func7, Try.ntmps7
    go_wp2_with fail
    refine (specOrder_any v _ hv).mono ?_
    rintro e w1 ⟨rfl, hb1⟩
    generalize hx : (if isWord v.data.toList = true then (ordL v.data.toList : Int) else 0) = x
    generalize hg : isWord v.data.toList = g
    have HX := hide hx
    have HG := hide hg
    clear hx hg
    go_wp2_with fail
    refine (implOrder_any v _ hv).mono ?_
    rintro e w2 ⟨rfl, hb2⟩
    rw [HX.out, HG.out]
    have e2 : (g != g) = false := by simp
    go_wp2
    go_returns
    exact ⟨rfl, below_after hb1 hb2 hb1.size⟩
  · go_enter Try.func7, Try.ntmps7
    go_wp2
    go_returns
    exact ⟨rfl, Below.refl _ _⟩
end Go.Proofs.Ytphcaikggfmpaaa
