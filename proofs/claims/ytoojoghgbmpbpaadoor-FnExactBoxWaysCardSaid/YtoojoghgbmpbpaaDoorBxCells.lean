/- The contracts of boxes on grounds, the model's side: bxPose, bxCells. -/
import Derived.Test.YtoojoghgbmpbpaaDoorBxRead
import Derived.Test.YtoojoghgbmpbpaaDoorBox
import Derived.Test.YtoojoghgbmpbpaaDoorInts
import Derived.Deep.RegionHeld3
namespace Go.Proofs.YtoojoghgbmpbpaaDoor
set_option maxRecDepth 100000
set_option linter.all false
open Go.RowKit
attribute [local go_sem ↓] Go.wp_at_zero Go.wp_at_succ

def poseOk (b : Bx) : Bool := decide (0 ≤ b.x ∧ b.x ≤ 6) && decide (0 ≤ b.y ∧ b.y ≤ 6) && decide (0 ≤ b.p ∧ b.p ≤ 2)
set_option maxHeartbeats 800000 in
theorem bxPose_any (b : Bx) (w : World) : Calls Tryd.prog 58 #[Bx.v b] w fun e w' => e = .returned (.bool (poseOk b)) ∧ Below w.heap.size w w' := by
  have HP := hide (show poseOk b = (decide (0 ≤ b.x ∧ b.x ≤ 6) && decide (0 ≤ b.y ∧ b.y ≤ 6) && decide (0 ≤ b.p ∧ b.p ≤ 2)) from rfl)
  generalize hx : decide (0 ≤ b.x ∧ b.x ≤ 6) = bx at HP
  generalize hy : decide (0 ≤ b.y ∧ b.y ≤ 6) = bY at HP
  generalize hp : decide (0 ≤ b.p ∧ b.p ≤ 2) = bp at HP
  have HX := hide hx
  have HY := hide hy
  have HQ := hide hp
  clear hx hy hp
  cases bx
  · go_enter Tryd.func58, Tryd.ntmps58
    go_wp2_with (go_at_call 77; (with_reducible refine (l1In_as b.x 0 6 false HX.out _).mono ?_); rintro e w' ⟨rfl, rfl⟩)
    go_returns
    exact ⟨ret_bool (by rw [HP.out]; rfl), by go_grown⟩
  · cases bY
    · go_enter Tryd.func58, Tryd.ntmps58
      go_wp2_with (go_at_call 77; (first | (with_reducible refine (l1In_as b.x 0 6 true HX.out _).mono ?_) | (with_reducible refine (l1In_as b.y 0 6 false HY.out _).mono ?_)); rintro e w' ⟨rfl, rfl⟩)
      go_returns
      exact ⟨ret_bool (by rw [HP.out]; rfl), by go_grown⟩
    · cases bp
      · go_enter Tryd.func58, Tryd.ntmps58
        go_wp2_with (go_at_call 77; (first | (with_reducible refine (l1In_as b.x 0 6 true HX.out _).mono ?_) | (with_reducible refine (l1In_as b.y 0 6 true HY.out _).mono ?_) | (with_reducible refine (l1In_as b.p 0 2 false HQ.out _).mono ?_)); rintro e w' ⟨rfl, rfl⟩)
        go_returns
        exact ⟨ret_bool (by rw [HP.out]; rfl), by go_grown⟩
      · go_enter Tryd.func58, Tryd.ntmps58
        go_wp2_with (go_at_call 77; (first | (with_reducible refine (l1In_as b.x 0 6 true HX.out _).mono ?_) | (with_reducible refine (l1In_as b.y 0 6 true HY.out _).mono ?_) | (with_reducible refine (l1In_as b.p 0 2 true HQ.out _).mono ?_)); rintro e w' ⟨rfl, rfl⟩)
        go_returns
        exact ⟨ret_bool (by rw [HP.out]; rfl), by go_grown⟩

/-- The numbers of a box's cells. -/
def cellsL (b : Bx) : List Int := if b.p = 1 then [b.x, b.y, b.x + 1, b.y] else if b.p = 2 then [b.x, b.y, b.x, b.y + 1] else [b.x, b.y]
theorem own_two (w0 : World) (t : TypeId) (c : Array Value) (x y : Int) : ((w0.alloc (.cells c t)).alloc (.cells #[.int .i64 x, .int .i64 y] 3)).ownsRow (w0.heap.size + 1) 3 1 (.slice (some ⟨w0.heap.size + 1, 0, none⟩) 2 2) 2 (ints [x, y]) := by
  have := World.ownsRow_lit (base := w0.heap.size + 1) (e := 3) (size := 1) (w0.alloc (.cells c t)) #[.int .i64 x, .int .i64 y] 2 (by simp) (by decide) rfl
  simpa [ints] using this
theorem cell_two_newR (w : World) (u v : Value) (t : TypeId) : ∀ (k : Nat) (x : Value), [u, v][k]? = some x → (w.alloc (.cells #[u, v] t)).cell? ((⟨w.heap.size, 0, none⟩ : Addr).add k) = some x := by
  intro k x hx
  have e : (w.alloc (.cells #[u, v] t)).heap[w.heap.size]? = some (.cells #[u, v] t) := by
    show (w.heap.push _)[w.heap.size]? = _
    simp
  have hk : k < 2 := by
    have := (List.getElem?_eq_some_iff.1 hx).1
    simpa using this
  have hk2 : k = 0 ∨ k = 1 := by omega
  rcases hk2 with rfl | rfl
  · simp at hx
    subst hx
    exact cell_of_row _ _ 0 _ _ _ e
  · simp at hx
    subst hx
    exact cell_of_row _ _ 1 _ _ _ e
set_option maxHeartbeats 1600000 in
theorem bxCells_any (b : Bx) (w : World) (h : poseOk b = true) : Calls Tryd.prog 59 #[Bx.v b] w fun e w' => ∃ g cap, e = .returned (.slice (some ⟨g, 0, none⟩) (cellsL b).length cap) ∧ w'.ownsRow w.heap.size 3 1 (.slice (some ⟨g, 0, none⟩) (cellsL b).length cap) (cellsL b).length (ints (cellsL b)) ∧ Below w.heap.size w w' := by
  obtain ⟨i0, hi, hz0, hz1, hz2⟩ := info_parts info_intI
  have HI := hide hi
  have HZ0 := hide hz0
  have HZ1 := hide hz1
  have HZ2 := hide hz2
  clear hi hz0 hz1 hz2
  unfold poseOk at h
  simp only [Bool.and_eq_true, decide_eq_true_eq] at h
  obtain ⟨⟨⟨x0, x6⟩, y0, y6⟩, p0, p2⟩ := h
  by_cases h1 : b.p = 1
  · have q1 : (b.p == 1) = true := beq_iff_eq.2 h1
    have HC4 := hide (show cellsL b = [b.x, b.y] ++ [b.x + 1, b.y] from by unfold cellsL; rw [if_pos h1]; rfl)
    clear h1
    have hu : wrap64 (b.x + 1) = b.x + 1 := IntWalk.wrap64_in _ (by omega)
    rw [HC4.out]
    clear x0 x6 y0 y6 p0 p2 HC4
    go_enter Tryd.func59, Tryd.ntmps59
    go_wp2_with (at_builtin; go_loud (refine wpList_append_own_at _ rfl _ _ 79 rfl (w.heap.size + 1) 3 i0 (.int .i64 0) 1 8 Tryd.underlying79 HI.out HZ0.out HZ1.out HZ2.out rfl (by decide) _ _ _ rfl ((own_two w 27 #[.int .i64 b.x, .int .i64 b.y, .int .i64 b.p] b.x b.y).alloc _) ⟨w.heap.size + 2, 0, none⟩ 2 2 [.int .i64 (b.x + 1), .int .i64 (b.y)] rfl rfl ?c1 ?c2 ?c3 ?c4 ?c5 ?_))
    case c1 =>
      have := cell_two_newR ((w.alloc (.cells #[.int .i64 b.x, .int .i64 b.y, .int .i64 b.p] 27)).alloc (.cells #[.int .i64 b.x, .int .i64 b.y] 3)) (.int .i64 (b.x + 1)) (.int .i64 b.y) 3
      simpa using this
    case c2 =>
      intro x hx
      simp only [List.mem_cons, List.not_mem_nil, or_false] at hx
      rcases hx with rfl | rfl <;> rfl
    case c3 => unfold maxLen; omega
    case c4 => omega
    case c5 => simp
    · intro v' w4 hown4 hg4 _ _
      obtain ⟨g, cap, rfl, hq1, hq2⟩ := own_form hown4 (by omega)
      have Q := hide (show Below w.heap.size w w4 from by
        refine Below.grown (w := ((w.alloc (.cells #[.int .i64 b.x, .int .i64 b.y, .int .i64 b.p] 27)).alloc (.cells #[.int .i64 b.x, .int .i64 b.y] 3)).alloc (.cells #[.int .i64 (b.x + 1), .int .i64 (b.y)] 3)) (by go_grown) hg4 (by simp; omega) (fun j hj => ?_)
        have e : w.heap.size + 1 = j := by simpa [Value.ownBlock] using hj
        omega)
      have HO := hide hown4
      clear hg4 hown4
      go_wp2
      go_returns
      exact ⟨g, cap, rfl, own_mono HO.out (by omega), Q.out⟩
  · have q1 : (b.p == 1) = false := beq_eq_false_iff_ne.2 h1
    by_cases h2 : b.p = 2
    · have q2 : (b.p == 2) = true := beq_iff_eq.2 h2
      have HC4 := hide (show cellsL b = [b.x, b.y] ++ [b.x, b.y + 1] from by unfold cellsL; rw [if_neg h1, if_pos h2]; rfl)
      clear h1 h2
      have hu : wrap64 (b.y + 1) = b.y + 1 := IntWalk.wrap64_in _ (by omega)
      rw [HC4.out]
      clear x0 x6 y0 y6 p0 p2 HC4
      go_enter Tryd.func59, Tryd.ntmps59
      go_wp2_with (at_builtin; refine wpList_append_own_at _ rfl _ _ 79 rfl (w.heap.size + 1) 3 i0 (.int .i64 0) 1 8 Tryd.underlying79 HI.out HZ0.out HZ1.out HZ2.out rfl (by decide) _ _ _ rfl ((own_two w 27 #[.int .i64 b.x, .int .i64 b.y, .int .i64 b.p] b.x b.y).alloc _) ⟨w.heap.size + 2, 0, none⟩ 2 2 [.int .i64 (b.x), .int .i64 (b.y + 1)] rfl rfl ?c1 ?c2 ?c3 ?c4 ?c5 ?_)
      case c1 =>
        have := cell_two_newR ((w.alloc (.cells #[.int .i64 b.x, .int .i64 b.y, .int .i64 b.p] 27)).alloc (.cells #[.int .i64 b.x, .int .i64 b.y] 3)) (.int .i64 b.x) (.int .i64 (b.y + 1)) 3
        simpa using this
      case c2 =>
        intro x hx
        simp only [List.mem_cons, List.not_mem_nil, or_false] at hx
        rcases hx with rfl | rfl <;> rfl
      case c3 => unfold maxLen; omega
      case c4 => omega
      case c5 => simp
      · intro v' w4 hown4 hg4 _ _
        obtain ⟨g, cap, rfl, hq1, hq2⟩ := own_form hown4 (by omega)
        have Q := hide (show Below w.heap.size w w4 from by
          refine Below.grown (w := ((w.alloc (.cells #[.int .i64 b.x, .int .i64 b.y, .int .i64 b.p] 27)).alloc (.cells #[.int .i64 b.x, .int .i64 b.y] 3)).alloc (.cells #[.int .i64 (b.x), .int .i64 (b.y + 1)] 3)) (by go_grown) hg4 (by simp; omega) (fun j hj => ?_)
          have e : w.heap.size + 1 = j := by simpa [Value.ownBlock] using hj
          omega)
        have HO := hide hown4
        clear hg4 hown4
        go_wp2
        go_returns
        exact ⟨g, cap, rfl, own_mono HO.out (by omega), Q.out⟩
    · have q2 : (b.p == 2) = false := beq_eq_false_iff_ne.2 h2
      have HC4 := hide (show cellsL b = [b.x, b.y] from by unfold cellsL; rw [if_neg h1, if_neg h2])
      clear h1 h2
      rw [HC4.out]
      clear x0 x6 y0 y6 p0 p2 HC4
      go_enter Tryd.func59, Tryd.ntmps59
      go_wp2
      go_returns
      refine ⟨w.heap.size + 1, 2, by simp, ?_, by go_grown⟩
      have := World.ownsRow_lit (base := w.heap.size) (e := 3) (size := 1) (w.alloc (.cells #[.int .i64 b.x, .int .i64 b.y, .int .i64 b.p] 27)) #[.int .i64 b.x, .int .i64 b.y] 2 (by simp) (by decide) rfl
      simpa [ints] using this

theorem byte45 {c : UInt8} : (c == 45) = decide ((c.toNat : Int) = 45) := by
  rw [Bool.eq_iff_iff, beq_iff_eq, decide_eq_true_eq]
  constructor
  · rintro rfl; rfl
  · intro h
    apply UInt8.toNat_inj.1
    have : c.toNat = 45 := by omega
    rw [this]; rfl
/-! ### bxGood -/
/-- Cell number r of a box. -/
def cX (b : Bx) (r : Nat) : Int := if r = 0 then b.x else lastX b
def cY (b : Bx) (r : Nat) : Int := if r = 0 then b.y else lastY b
/-- How many cells it has. -/
def cN (b : Bx) : Nat := if b.p = 0 then 1 else 2
theorem cellsL_facts {b : Bx} (h : poseOk b = true) : (cellsL b).length = 2 * cN b ∧ (∀ r, r < cN b → (cellsL b)[2 * r]? = some (cX b r) ∧ (cellsL b)[2 * r + 1]? = some (cY b r)) ∧ (∀ r, r < cN b → 0 ≤ cX b r ∧ cX b r ≤ 7 ∧ 0 ≤ cY b r ∧ cY b r ≤ 7) := by
  unfold poseOk at h
  simp only [Bool.and_eq_true, decide_eq_true_eq] at h
  obtain ⟨⟨⟨x0, x6⟩, y0, y6⟩, p0, p2⟩ := h
  have hp : b.p = 0 ∨ b.p = 1 ∨ b.p = 2 := by omega
  rcases hp with hp | hp | hp
  · have hc : cN b = 1 := if_pos hp
    have hl : cellsL b = [b.x, b.y] := by unfold cellsL; rw [if_neg (by omega), if_neg (by omega)]
    rw [hc, hl]
    refine ⟨rfl, ?_, ?_⟩ <;> (intro r hr; obtain rfl : r = 0 := by omega)
    · exact ⟨rfl, rfl⟩
    · show 0 ≤ b.x ∧ b.x ≤ 7 ∧ 0 ≤ b.y ∧ b.y ≤ 7
      omega
  · have hc : cN b = 2 := if_neg (by omega)
    have hl : cellsL b = [b.x, b.y, b.x + 1, b.y] := by unfold cellsL; rw [if_pos hp]
    have hx : lastX b = b.x + 1 := if_pos hp
    have hy : lastY b = b.y := if_neg (by omega)
    rw [hc, hl]
    refine ⟨rfl, ?_, ?_⟩ <;> (intro r hr; have hr2 : r = 0 ∨ r = 1 := by omega) <;> rcases hr2 with rfl | rfl
    · exact ⟨rfl, rfl⟩
    · show some (b.x + 1) = some (lastX b) ∧ some b.y = some (lastY b)
      rw [hx, hy]
      exact ⟨rfl, rfl⟩
    · show 0 ≤ b.x ∧ b.x ≤ 7 ∧ 0 ≤ b.y ∧ b.y ≤ 7
      omega
    · show 0 ≤ lastX b ∧ lastX b ≤ 7 ∧ 0 ≤ lastY b ∧ lastY b ≤ 7
      omega
  · have hc : cN b = 2 := if_neg (by omega)
    have hl : cellsL b = [b.x, b.y, b.x, b.y + 1] := by unfold cellsL; rw [if_neg (by omega), if_pos hp]
    have hx : lastX b = b.x := if_neg (by omega)
    have hy : lastY b = b.y + 1 := if_pos hp
    rw [hc, hl]
    refine ⟨rfl, ?_, ?_⟩ <;> (intro r hr; have hr2 : r = 0 ∨ r = 1 := by omega) <;> rcases hr2 with rfl | rfl
    · exact ⟨rfl, rfl⟩
    · show some b.x = some (lastX b) ∧ some (b.y + 1) = some (lastY b)
      rw [hx, hy]
      exact ⟨rfl, rfl⟩
    · show 0 ≤ b.x ∧ b.x ≤ 7 ∧ 0 ≤ b.y ∧ b.y ≤ 7
      omega
    · show 0 ≤ lastX b ∧ lastX b ≤ 7 ∧ 0 ≤ lastY b ∧ lastY b ≤ 7
      omega
theorem poseOk_no {l : List UInt8} (h : isGd l = true) {b : Bx} (hp : poseOk b = false) : goodX (splitP l) b = false := by
  cases hg : goodX (splitP l) b
  · rfl
  · have := good_facts h hg
    unfold poseOk at hp
    simp only [Bool.and_eq_false_iff, decide_eq_false_iff_not] at hp
    omega
theorem good_cell {l : List UInt8} {b : Bx} (hp : poseOk b = true) {r : Nat} (hr : r < cN b) (hc : cellI (splitP l) (cX b r) (cY b r) = 35) : goodX (splitP l) b = false := by
  unfold goodX
  by_cases h0 : r = 0
  · subst h0
    have : cellI (splitP l) b.x b.y = 35 := hc
    simp [this]
  · have e1 : cX b r = lastX b := if_neg h0
    have e2 : cY b r = lastY b := if_neg h0
    rw [e1, e2] at hc
    simp [hc]
theorem good_all {l : List UInt8} {b : Bx} (hp : poseOk b = true) (h : ∀ r, r < cN b → cellI (splitP l) (cX b r) (cY b r) ≠ 35) : goodX (splitP l) b = (decide (b.p ≠ 0) || !(cellI (splitP l) b.x b.y == 45)) := by
  have hq : isPo b.p = true := by
    unfold poseOk at hp
    simp only [Bool.and_eq_true] at hp
    exact hp.2
  have h0 : cellI (splitP l) b.x b.y ≠ 35 := h 0 (by unfold cN; split <;> omega)
  have h1 : cellI (splitP l) (lastX b) (lastY b) ≠ 35 := by
    by_cases hz : b.p = 0
    · have e1 : lastX b = b.x := if_neg (by omega)
      have e2 : lastY b = b.y := if_neg (by omega)
      rw [e1, e2]; exact h0
    · exact h 1 (by unfold cN; rw [if_neg hz]; omega)
  unfold goodX
  rw [hq, beq_eq_false_iff_ne.2 h0, beq_eq_false_iff_ne.2 h1]
  rfl
theorem inG_out {l : List UInt8} (h : isGd l = true) {x y : Int} (hi : inL (ungl l) x y = false) : cellI (splitP l) x y = 35 := by
  have := cellI_out (gd_bd h) hi
  rw [cellI_ungl] at this
  exact (ung_all _).2.2.1 this
theorem cellI_inG {l : List UInt8} {W H n : Nat} (h : GndOk l W H n) {j k : Nat} (hj : j < W) (hk : k < H) : (splitP l).flatten[k * W + j]? = some (cellI (splitP l) j k) := by
  obtain ⟨a, rfl, rfl, _⟩ := h
  exact cellI_flat (gd_even a) hk hj
/-- What holds at each head of bxGood's loop. -/
def GoodI (w wr : World) (b : Bx) (W H n g cap c2 : Nat) (l : List UInt8) (k : Nat) : Prop :=
  IsG wr w.heap.size (W : Int) (H : Int) (.slice (some ⟨g, 0, none⟩) n cap) ∧ IsX wr (w.heap.size + 1) b 27 ∧ BytesAt wr g (splitP l).flatten ∧ (∃ B, wr.ownsRow B 3 1 (.slice (some ⟨k, 0, none⟩) (cellsL b).length c2) (cellsL b).length (ints (cellsL b))) ∧ Below w.heap.size w wr
theorem goodI_to {w wr w2 w3 : World} {b : Bx} {W H n g cap c2 : Nat} {l : List UInt8} {k : Nat} (hb : Below w2.heap.size w2 w3) (h : GoodI w wr b W H n g cap c2 l k) (e1 : w2.heap = wr.heap) (e2 : w2.os = wr.os) (e3 : w2.tape = wr.tape) (e4 : w2.output = wr.output) : GoodI w w3 b W H n g cap c2 l k := by
  obtain ⟨a1, a2, a3, ⟨B, a4⟩, a5⟩ := h
  exact ⟨isG_to hb a1 e1, isX_to hb a2 e1, bytesAt_to hb a3 e1, ⟨B, own_to hb a4 e1⟩, below_to hb a5 a5.size e1 e2 e3 e4⟩
end Go.Proofs.YtoojoghgbmpbpaaDoor
