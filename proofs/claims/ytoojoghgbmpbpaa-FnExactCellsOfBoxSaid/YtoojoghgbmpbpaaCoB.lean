/- The walk of CellsOfBox's law. -/
import Derived.Test.YtoojoghgbmpbpaaBox
import Derived.Test.YtoojoghgbmpbpaaInts
import Derived.Test.YtoojoghgbmpbpaaDie
import Derived.Test.YtoojoghgbmpbpaaOwnK
import Derived.Test.YtoojoghgbmpbpaaOpenBox
import Derived.Deep.RegionHeld3
namespace Go.Proofs.Ytoojoghgbmpbpaa
set_option maxRecDepth 100000
set_option linter.all false
open Go.RowKit
attribute [local go_sem ↓] Go.wp_at_zero Go.wp_at_succ

theorem l1In_as (n lo hi : Int) (b : Bool) (h : decide (lo ≤ n ∧ n ≤ hi) = b) (w : World) :
    Calls Try.prog 15 #[.int .i64 n, .int .i64 lo, .int .i64 hi] w fun e w' => e = .returned (.bool b) ∧ w = w' := by
  rw [← h]
  exact l1In_any n lo hi w
theorem own_under {w w' : World} {B b : Nat} {e : TypeId} {z : Nat} {v : Value} {n : Nat} {xs : List Value} (hb : Below B w w') (h : w.ownsRow b e z v n xs) (hl : ∀ g, v.ownBlock = some g → g < B) : w'.ownsRow b e z v n xs := by
  obtain ⟨h1, h2⟩ := h
  refine ⟨h1, ?_⟩
  rcases h2 with h2 | ⟨g, cap, cur, hv, hg, hh, r⟩
  · exact .inl h2
  · exact .inr ⟨g, cap, cur, hv, hg, by rw [hb.block g (hl g (by rw [hv]; rfl))]; exact hh, r⟩
def poseOk (b : Bx) : Bool := decide (0 ≤ b.x ∧ b.x ≤ 6) && decide (0 ≤ b.y ∧ b.y ≤ 6) && decide (0 ≤ b.p ∧ b.p ≤ 2)
set_option maxHeartbeats 800000 in
theorem bxPose_any (b : Bx) (w : World) : Calls Try.prog 10 #[Bx.v b] w fun e w' => e = .returned (.bool (poseOk b)) ∧ Below w.heap.size w w' := by
  have HP := hide (show poseOk b = (decide (0 ≤ b.x ∧ b.x ≤ 6) && decide (0 ≤ b.y ∧ b.y ≤ 6) && decide (0 ≤ b.p ∧ b.p ≤ 2)) from rfl)
  generalize hx : decide (0 ≤ b.x ∧ b.x ≤ 6) = bx at HP
  generalize hy : decide (0 ≤ b.y ∧ b.y ≤ 6) = bY at HP
  generalize hp : decide (0 ≤ b.p ∧ b.p ≤ 2) = bp at HP
  have HX := hide hx
  have HY := hide hy
  have HQ := hide hp
  clear hx hy hp
  cases bx
  · go_enter Try.func10, Try.ntmps10
    go_wp2_with (go_at_call 15; (with_reducible refine (l1In_as b.x 0 6 false HX.out _).mono ?_); rintro e w' ⟨rfl, rfl⟩)
    go_returns
    exact ⟨ret_bool (by rw [HP.out]; rfl), by go_grown⟩
  · cases bY
    · go_enter Try.func10, Try.ntmps10
      go_wp2_with (go_at_call 15; (first | (with_reducible refine (l1In_as b.x 0 6 true HX.out _).mono ?_) | (with_reducible refine (l1In_as b.y 0 6 false HY.out _).mono ?_)); rintro e w' ⟨rfl, rfl⟩)
      go_returns
      exact ⟨ret_bool (by rw [HP.out]; rfl), by go_grown⟩
    · cases bp
      · go_enter Try.func10, Try.ntmps10
        go_wp2_with (go_at_call 15; (first | (with_reducible refine (l1In_as b.x 0 6 true HX.out _).mono ?_) | (with_reducible refine (l1In_as b.y 0 6 true HY.out _).mono ?_) | (with_reducible refine (l1In_as b.p 0 2 false HQ.out _).mono ?_)); rintro e w' ⟨rfl, rfl⟩)
        go_returns
        exact ⟨ret_bool (by rw [HP.out]; rfl), by go_grown⟩
      · go_enter Try.func10, Try.ntmps10
        go_wp2_with (go_at_call 15; (first | (with_reducible refine (l1In_as b.x 0 6 true HX.out _).mono ?_) | (with_reducible refine (l1In_as b.y 0 6 true HY.out _).mono ?_) | (with_reducible refine (l1In_as b.p 0 2 true HQ.out _).mono ?_)); rintro e w' ⟨rfl, rfl⟩)
        go_returns
        exact ⟨ret_bool (by rw [HP.out]; rfl), by go_grown⟩

/-- The numbers of a box's cells. -/
def cellsL (b : Bx) : List Int := if b.p = 1 then [b.x, b.y, b.x + 1, b.y] else if b.p = 2 then [b.x, b.y, b.x, b.y + 1] else [b.x, b.y]
theorem own_two (w0 : World) (t : TypeId) (c : Array Value) (x y : Int) : ((w0.alloc (.cells c t)).alloc (.cells #[.int .i64 x, .int .i64 y] 3)).ownsRow (w0.heap.size + 1) 3 1 (.slice (some ⟨w0.heap.size + 1, 0, none⟩) 2 2) 2 (ints [x, y]) := by
  have := World.ownsRow_lit (base := w0.heap.size + 1) (e := 3) (size := 1) (w0.alloc (.cells c t)) #[.int .i64 x, .int .i64 y] 2 (by simp) (by decide) rfl
  simpa [ints] using this
theorem cell_two_newR (w : World) (u v : Value) (t : TypeId) : ∀ (k : Nat) (x : Value), [u, v][k]? = some x → (w.alloc (.cells #[u, v] t)).cell? ((⟨w.heap.size, 0, none⟩ : Addr).add k) = some x := by
  intro k x hx
  have e : (w.alloc (.cells #[u, v] t)).heap[w.heap.size]? = some (.cells #[u, v] t) := by
    show (w.heap.push _)[w.heap.size]? = _
    simp
  have hk : k < 2 := by
    have := (List.getElem?_eq_some_iff.1 hx).1
    simpa using this
  have hk2 : k = 0 ∨ k = 1 := by omega
  rcases hk2 with rfl | rfl
  · simp at hx
    subst hx
    exact cell_of_row _ _ 0 _ _ _ e
  · simp at hx
    subst hx
    exact cell_of_row _ _ 1 _ _ _ e
set_option maxHeartbeats 1600000 in
theorem bxCells_any (b : Bx) (w : World) (h : poseOk b = true) : Calls Try.prog 11 #[Bx.v b] w fun e w' => ∃ g cap, e = .returned (.slice (some ⟨g, 0, none⟩) (cellsL b).length cap) ∧ w'.ownsRow w.heap.size 3 1 (.slice (some ⟨g, 0, none⟩) (cellsL b).length cap) (cellsL b).length (ints (cellsL b)) ∧ Below w.heap.size w w' := by
  obtain ⟨i0, hi, hz0, hz1, hz2⟩ := info_parts info_intI
  have HI := hide hi
  have HZ0 := hide hz0
  have HZ1 := hide hz1
  have HZ2 := hide hz2
  clear hi hz0 hz1 hz2
  unfold poseOk at h
  simp only [Bool.and_eq_true, decide_eq_true_eq] at h
  obtain ⟨⟨⟨x0, x6⟩, y0, y6⟩, p0, p2⟩ := h
  by_cases h1 : b.p = 1
  · have q1 : (b.p == 1) = true := beq_iff_eq.2 h1
    have HC4 := hide (show cellsL b = [b.x, b.y] ++ [b.x + 1, b.y] from by unfold cellsL; rw [if_pos h1]; rfl)
    clear h1
    have hu : wrap64 (b.x + 1) = b.x + 1 := IntWalk.wrap64_in _ (by omega)
    rw [HC4.out]
    clear x0 x6 y0 y6 p0 p2 HC4
    go_enter Try.func11, Try.ntmps11
    go_wp2_with (at_builtin; go_loud (refine wpList_append_own_at _ rfl _ _ 24 rfl (w.heap.size + 1) 3 i0 (.int .i64 0) 1 8 Try.underlying24 HI.out HZ0.out HZ1.out HZ2.out rfl (by decide) _ _ _ rfl ((own_two w 27 #[.int .i64 b.x, .int .i64 b.y, .int .i64 b.p] b.x b.y).alloc _) ⟨w.heap.size + 2, 0, none⟩ 2 2 [.int .i64 (b.x + 1), .int .i64 (b.y)] rfl rfl ?c1 ?c2 ?c3 ?c4 ?c5 ?_))
    case c1 =>
      have := cell_two_newR ((w.alloc (.cells #[.int .i64 b.x, .int .i64 b.y, .int .i64 b.p] 27)).alloc (.cells #[.int .i64 b.x, .int .i64 b.y] 3)) (.int .i64 (b.x + 1)) (.int .i64 b.y) 3
      simpa using this
    case c2 =>
      intro x hx
      simp only [List.mem_cons, List.not_mem_nil, or_false] at hx
      rcases hx with rfl | rfl <;> rfl
    case c3 => unfold maxLen; omega
    case c4 => omega
    case c5 => simp
    · intro v' w4 hown4 hg4 _ _
      obtain ⟨g, cap, rfl, hq1, hq2⟩ := own_form hown4 (by omega)
      have Q := hide (show Below w.heap.size w w4 from by
        refine Below.grown (w := ((w.alloc (.cells #[.int .i64 b.x, .int .i64 b.y, .int .i64 b.p] 27)).alloc (.cells #[.int .i64 b.x, .int .i64 b.y] 3)).alloc (.cells #[.int .i64 (b.x + 1), .int .i64 (b.y)] 3)) (by go_grown) hg4 (by simp; omega) (fun j hj => ?_)
        have e : w.heap.size + 1 = j := by simpa [Value.ownBlock] using hj
        omega)
      have HO := hide hown4
      clear hg4 hown4
      go_wp2
      go_returns
      exact ⟨g, cap, rfl, own_mono HO.out (by omega), Q.out⟩
  · have q1 : (b.p == 1) = false := beq_eq_false_iff_ne.2 h1
    by_cases h2 : b.p = 2
    · have q2 : (b.p == 2) = true := beq_iff_eq.2 h2
      have HC4 := hide (show cellsL b = [b.x, b.y] ++ [b.x, b.y + 1] from by unfold cellsL; rw [if_neg h1, if_pos h2]; rfl)
      clear h1 h2
      have hu : wrap64 (b.y + 1) = b.y + 1 := IntWalk.wrap64_in _ (by omega)
      rw [HC4.out]
      clear x0 x6 y0 y6 p0 p2 HC4
      go_enter Try.func11, Try.ntmps11
      go_wp2_with (at_builtin; refine wpList_append_own_at _ rfl _ _ 24 rfl (w.heap.size + 1) 3 i0 (.int .i64 0) 1 8 Try.underlying24 HI.out HZ0.out HZ1.out HZ2.out rfl (by decide) _ _ _ rfl ((own_two w 27 #[.int .i64 b.x, .int .i64 b.y, .int .i64 b.p] b.x b.y).alloc _) ⟨w.heap.size + 2, 0, none⟩ 2 2 [.int .i64 (b.x), .int .i64 (b.y + 1)] rfl rfl ?c1 ?c2 ?c3 ?c4 ?c5 ?_)
      case c1 =>
        have := cell_two_newR ((w.alloc (.cells #[.int .i64 b.x, .int .i64 b.y, .int .i64 b.p] 27)).alloc (.cells #[.int .i64 b.x, .int .i64 b.y] 3)) (.int .i64 b.x) (.int .i64 (b.y + 1)) 3
        simpa using this
      case c2 =>
        intro x hx
        simp only [List.mem_cons, List.not_mem_nil, or_false] at hx
        rcases hx with rfl | rfl <;> rfl
      case c3 => unfold maxLen; omega
      case c4 => omega
      case c5 => simp
      · intro v' w4 hown4 hg4 _ _
        obtain ⟨g, cap, rfl, hq1, hq2⟩ := own_form hown4 (by omega)
        have Q := hide (show Below w.heap.size w w4 from by
          refine Below.grown (w := ((w.alloc (.cells #[.int .i64 b.x, .int .i64 b.y, .int .i64 b.p] 27)).alloc (.cells #[.int .i64 b.x, .int .i64 b.y] 3)).alloc (.cells #[.int .i64 (b.x), .int .i64 (b.y + 1)] 3)) (by go_grown) hg4 (by simp; omega) (fun j hj => ?_)
          have e : w.heap.size + 1 = j := by simpa [Value.ownBlock] using hj
          omega)
        have HO := hide hown4
        clear hg4 hown4
        go_wp2
        go_returns
        exact ⟨g, cap, rfl, own_mono HO.out (by omega), Q.out⟩
    · have q2 : (b.p == 2) = false := beq_eq_false_iff_ne.2 h2
      have HC4 := hide (show cellsL b = [b.x, b.y] from by unfold cellsL; rw [if_neg h1, if_neg h2])
      clear h1 h2
      rw [HC4.out]
      clear x0 x6 y0 y6 p0 p2 HC4
      go_enter Try.func11, Try.ntmps11
      go_wp2
      go_returns
      refine ⟨w.heap.size + 1, 2, by simp, ?_, by go_grown⟩
      have := World.ownsRow_lit (base := w.heap.size) (e := 3) (size := 1) (w.alloc (.cells #[.int .i64 b.x, .int .i64 b.y, .int .i64 b.p] 27)) #[.int .i64 b.x, .int .i64 b.y] 2 (by simp) (by decide) rfl
      simpa [ints] using this

theorem isPose_any (p : Int) (w : World) : Calls Try.prog 13 #[.int .i64 p] w fun e w' => e = .returned (.bool (isPo p)) ∧ w = w' := by
  by_cases h0 : 0 ≤ p
  · by_cases h2 : p ≤ 2
    · have e : isPo p = true := decide_eq_true ⟨h0, h2⟩
      have HE := hide e
      clear e
      go_enter Try.func13, Try.ntmps13
      go_wp2
      go_returns
      exact ⟨ret_bool HE.out.symm, rfl⟩
    · have e : isPo p = false := decide_eq_false (fun h => h2 h.2)
      have HE := hide e
      have h3 : 2 < p := by omega
      have h4 : decide (p ≤ 2) = false := decide_eq_false h2
      clear e h2
      go_enter Try.func13, Try.ntmps13
      go_wp2
      go_returns
      exact ⟨ret_bool HE.out.symm, rfl⟩
  · have e : isPo p = false := decide_eq_false (fun h => h0 h.1)
    have HE := hide e
    have h3 : p < 0 := by omega
    clear e h0
    go_enter Try.func13, Try.ntmps13
    go_wp2
    go_returns
    exact ⟨ret_bool HE.out.symm, rfl⟩

def clin (p l : Int) : Int := if p = l then 2 else 1
theorem cellsInLine_any (p l : Int) (w : World) : Calls Try.prog 16 #[.int .i64 p, .int .i64 l] w fun e w' => e = .returned (.int .i64 (clin p l)) ∧ w = w' := by
  by_cases h : p = l
  · have e : clin p l = 2 := if_pos h
    have HE := hide e
    have q1 : (p == l) = true := beq_iff_eq.2 h
    clear e h
    go_enter Try.func16, Try.ntmps16
    go_wp2
    go_returns
    exact ⟨ret_int HE.out.symm, rfl⟩
  · have e : clin p l = 1 := if_neg h
    have HE := hide e
    have q1 : (p == l) = false := beq_eq_false_iff_ne.2 h
    clear e h
    go_enter Try.func16, Try.ntmps16
    go_wp2
    go_returns
    exact ⟨ret_int HE.out.symm, rfl⟩

/-- Block b is a cell's variable. -/
def IsC (w : World) (b : Nat) (x y : Int) : Prop := w.heap[b]? = some (.cells #[.int .i64 x, .int .i64 y] 36 (0, 0))
theorem IsC.lt {w : World} {b : Nat} {x y : Int} (h : IsC w b x y) : b < w.heap.size := by
  rcases Nat.lt_or_ge b w.heap.size with h' | h'
  · exact h'
  · simp [IsC, Array.getElem?_eq_none h'] at h
theorem IsC.new {w : World} {x y : Int} : IsC (w.alloc (.cells #[.int .i64 x, .int .i64 y] 36)) w.heap.size x y := by
  show (w.heap.push _)[w.heap.size]? = _
  simp
theorem IsC.all {w : World} {b : Nat} {x y : Int} (h : IsC w b x y) : b < w.heap.size ∧ (w.cell? ⟨b, 0, none⟩ = some (.int .i64 x) ∧ w.cell? ⟨b, 1, none⟩ = some (.int .i64 y)) ∧ w.frozen? ⟨b, 0, none⟩ = false ∧ w.frozen? ⟨b, 1, none⟩ = false := by
  refine ⟨h.lt, ?_⟩
  unfold IsC at h
  simp [World.cell?, World.frozen?, h]
theorem IsC.set2 {w : World} {b : Nat} {x y : Int} (h : IsC w b x y) (u v : Int) : IsC ((w.setCell ⟨b, 0, none⟩ (.int .i64 u)).setCell ⟨b, 1, none⟩ (.int .i64 v)) b u v := by
  have h1 := cells_set h 0 (by simp) (.int .i64 u)
  have h2 := cells_set h1 1 (by simp) (.int .i64 v)
  simpa [IsC] using h2
theorem IsC.drew {w : World} {b : Nat} {x y : Int} (h : IsC w b x y) : IsC w.drew b x y := h
theorem field_x (u v : Int) (w : World) : (Instr.field 36 (.agg #[.int .i64 u, .int .i64 v]) 0).run Try.prog w = .ok (.int .i64 u) w := by kernel_rfl
theorem field_y (u v : Int) (w : World) : (Instr.field 36 (.agg #[.int .i64 u, .int .i64 v]) 1).run Try.prog w = .ok (.int .i64 v) w := by kernel_rfl
theorem ret_cell1 {fn : Func} {p : Tmp} {tmps : Array Value} {w : World} {b : Nat} {x y : Int} (h : fn.results = #[.cell p 36]) (hp : tmps.getD p undef = .pointer (some ⟨b, 0, none⟩)) (hd : IsC w b x y) : (results fn tmps).run Try.prog w = .ok (.agg #[.int .i64 x, .int .i64 y]) w := by
  rw [results_cell h, hp]
  show (loadVar 36 ⟨b, 0, none⟩).run Try.prog w = _
  obtain ⟨_, ⟨c0, c1⟩, _⟩ := hd.all
  simp [go_sem, c0, c1]
theorem cell_set2 {w : World} {b c o : Nat} {u0 u1 : Value} (h : b ≠ c) : ((w.setCell ⟨b, 0, none⟩ u0).setCell ⟨b, 1, none⟩ u1).cell? ⟨c, o, none⟩ = w.cell? ⟨c, o, none⟩ := by
  have hd : ∀ j, (⟨b, j, none⟩ : Addr) ≠ ⟨c, o, none⟩ := fun j e => h (by injection e)
  rw [World.cell?_setCell_other _ _ _ _ (hd 1), World.cell?_setCell_other _ _ _ _ (hd 0)]

/-- The last cell, as the program reckons it. -/
def lwX (b : Bx) : Int := IntKind.i64.wrap (IntKind.i64.wrap (b.x + clin b.p 1) - 1)
def lwY (b : Bx) : Int := IntKind.i64.wrap (IntKind.i64.wrap (b.y + clin b.p 2) - 1)
set_option maxHeartbeats 800000 in
theorem lastCell_any (b : Bx) (w : World) : Calls Try.prog 14 #[Bx.v b] w fun e w' => e = .returned (.agg #[.int .i64 (lwX b), .int .i64 (lwY b)]) ∧ Below w.heap.size w w' := by
  go_enter Try.func14, Try.ntmps14
  go_wp2_with fail
  have X0 : IsX ((w.alloc (.cells #[.int .i64 b.x, .int .i64 b.y, .int .i64 b.p] 27)).alloc (.cells #[.int .i64 0, .int .i64 0] 36)) w.heap.size b 27 := IsX.new.alloc _
  have C0 : IsC ((w.alloc (.cells #[.int .i64 b.x, .int .i64 b.y, .int .i64 b.p] 27)).alloc (.cells #[.int .i64 0, .int .i64 0] 36)) (w.heap.size + 1) 0 0 := by
    simpa using IsC.new (w := w.alloc (.cells #[.int .i64 b.x, .int .i64 b.y, .int .i64 b.p] 27)) (x := 0) (y := 0)
  have q0 : Below w.heap.size w ((w.alloc (.cells #[.int .i64 b.x, .int .i64 b.y, .int .i64 b.p] 27)).alloc (.cells #[.int .i64 0, .int .i64 0] 36)) := by go_grown
  generalize (w.alloc (.cells #[.int .i64 b.x, .int .i64 b.y, .int .i64 b.p] 27)).alloc (.cells #[.int .i64 0, .int .i64 0] 36) = W1 at X0 C0 q0 ⊢
  obtain ⟨l0, ⟨c0, c1, c2⟩, -⟩ := X0.all
  obtain ⟨l1, ⟨d0, d1⟩, f0, f1⟩ := C0.all
  go_region_held3 (fun w' => w'.cell? ⟨w.heap.size, 0, none⟩ = some (.int .i64 b.x) ∧ w'.cell? ⟨w.heap.size, 1, none⟩ = some (.int .i64 b.y) ∧ w'.cell? ⟨w.heap.size, 2, none⟩ = some (.int .i64 b.p)) (first | (refine ⟨?_, ?_, ?_⟩ <;> assumption) | (refine ⟨?_, ?_, ?_⟩ <;> (rw [cell_set2 (by omega)]; assumption)) | go_keep)
    (first
      | (go_at_call 16; (with_reducible refine (cellsInLine_any b.p 1 _).mono ?_); rintro e w' ⟨rfl, rfl⟩)
      | (go_at_call 16; (with_reducible refine (cellsInLine_any b.p 2 _).mono ?_); rintro e w' ⟨rfl, rfl⟩))
  go_wp2
  refine bodyPost_ret (ret_cell1 Try.results14 rfl (C0.set2 _ _).drew) rfl ⟨rfl, ?_⟩
  exact ((q0.setCell (by simp) _).setCell (by simp) _).drew

def onS (p : Int) : Bool := decide (0 ≤ p ∧ p ≤ 6)
theorem isOnSide_any (p : Int) (w : World) : Calls Try.prog 12 #[.int .i64 p] w fun e w' => e = .returned (.bool (onS p)) ∧ w = w' := by
  by_cases h0 : 0 ≤ p
  · by_cases h2 : p < 7
    · have HE := hide (show onS p = true from decide_eq_true ⟨h0, by omega⟩)
      go_enter Try.func12, Try.ntmps12
      go_wp2
      go_returns
      exact ⟨ret_bool HE.out.symm, rfl⟩
    · have HE := hide (show onS p = false from decide_eq_false (by omega))
      have h3 : 7 ≤ p := by omega
      have h4 : decide (p < 7) = false := decide_eq_false h2
      clear h2
      go_enter Try.func12, Try.ntmps12
      go_wp2
      go_returns
      exact ⟨ret_bool HE.out.symm, rfl⟩
  · have HE := hide (show onS p = false from decide_eq_false (by omega))
    have h3 : p < 0 := by omega
    clear h0
    go_enter Try.func12, Try.ntmps12
    go_wp2
    go_returns
    exact ⟨ret_bool HE.out.symm, rfl⟩
/-- What CellsOfBox lists. -/
def cobL (b : Bx) : List Int := if poseOk b = true then cellsL b else []
theorem specCells_any (b : Bx) (w : World) : Calls Try.prog 4 #[Bx.v b] w fun e w' => ∃ v, e = .returned (.tuple #[v, .bool (poseOk b)]) ∧ w'.ownsRow w.heap.size 3 1 v (cobL b).length (ints (cobL b)) ∧ Below w.heap.size w w' := by
  have X0 : IsX (w.alloc (.cells #[.int .i64 b.x, .int .i64 b.y, .int .i64 b.p] 27)) w.heap.size b 27 := IsX.new
  have q0 : Below w.heap.size w (w.alloc (.cells #[.int .i64 b.x, .int .i64 b.y, .int .i64 b.p] 27)) := by go_grown
  cases h : poseOk b
  · have HL : cobL b = [] := by unfold cobL; rw [h]; rfl
    rw [HL]
    have H := hide h
    clear h HL
    go_enter Try.func4, Try.ntmps4
    go_wp2_with fail
    generalize w.alloc (.cells #[.int .i64 b.x, .int .i64 b.y, .int .i64 b.p] 27) = W0 at X0 q0 ⊢
    refine (bxPose_any b _).mono ?_
    rintro e w1 ⟨rfl, hb1⟩
    rw [H.out]
    have q1 := below_to hb1 q0 q0.size rfl rfl rfl rfl
    clear hb1
    go_wp2
    go_returns
    exact ⟨_, rfl, World.ownsRow_nil _ _ _ _, q1⟩
  · have HL : cobL b = cellsL b := by unfold cobL; rw [h]; rfl
    rw [HL]
    have H := hide h
    clear h HL
    go_enter Try.func4, Try.ntmps4
    go_wp2_with fail
    generalize w.alloc (.cells #[.int .i64 b.x, .int .i64 b.y, .int .i64 b.p] 27) = W0 at X0 q0 ⊢
    refine (bxPose_any b _).mono ?_
    rintro e w1 ⟨rfl, hb1⟩
    rw [H.out]
    have X1 := isX_to hb1 X0 rfl
    have q1 := below_to hb1 q0 q0.size rfl rfl rfl rfl
    obtain ⟨l1, ⟨c0, c1, c2⟩, -⟩ := X1.all
    clear hb1
    go_wp2_with fail
    refine (bxCells_any b _ H.out).mono ?_
    rintro e w2 ⟨g, cap, rfl, hown, hb2⟩
    have q2 := below_to hb2 q1 q1.size rfl rfl rfl rfl
    have HO := hide (own_mono hown q1.size)
    clear hb2 hown c0 c1 c2 l1
    go_wp2
    go_returns
    exact ⟨_, rfl, HO.out, q2⟩
set_option maxHeartbeats 1600000 in
theorem implCells_any (b : Bx) (w : World) : Calls Try.prog 6 #[Bx.v b] w fun e w' => ∃ v, e = .returned (.tuple #[v, .bool (poseOk b)]) ∧ w'.ownsRow w.heap.size 3 1 v (cobL b).length (ints (cobL b)) ∧ Below w.heap.size w w' := by
  have HP := hide (show poseOk b = (onS b.x && onS b.y && isPo b.p) from rfl)
  cases hx : onS b.x
  · have h : poseOk b = false := by rw [HP.out, hx]; rfl
    have HL : cobL b = [] := by unfold cobL; rw [h]; rfl
    rw [HL, h]
    have H := hide hx
    clear h HL hx
    go_enter Try.func6, Try.ntmps6
    go_wp2_with (go_at_call 12; refine (isOnSide_any b.x _).mono ?_; rintro e w' ⟨rfl, rfl⟩; rw [H.out])
    go_returns
    exact ⟨_, rfl, World.ownsRow_nil _ _ _ _, by go_grown⟩
  · cases hy : onS b.y
    · have h : poseOk b = false := by rw [HP.out, hx, hy]; rfl
      have HL : cobL b = [] := by unfold cobL; rw [h]; rfl
      rw [HL, h]
      have H := hide hx
      have H2 := hide hy
      clear h HL hx hy
      go_enter Try.func6, Try.ntmps6
      go_wp2_with (go_at_call 12; (first | (with_reducible refine (isOnSide_any b.x _).mono ?_; rintro e w' ⟨rfl, rfl⟩; rw [H.out]) | (with_reducible refine (isOnSide_any b.y _).mono ?_; rintro e w' ⟨rfl, rfl⟩; rw [H2.out])))
      go_returns
      exact ⟨_, rfl, World.ownsRow_nil _ _ _ _, by go_grown⟩
    · cases hp : isPo b.p
      · have h : poseOk b = false := by rw [HP.out, hx, hy, hp]; rfl
        have HL : cobL b = [] := by unfold cobL; rw [h]; rfl
        rw [HL, h]
        have H := hide hx
        have H2 := hide hy
        have H3 := hide hp
        clear h HL hx hy hp
        go_enter Try.func6, Try.ntmps6
        go_wp2_with (first | (go_at_call 12; (first | (with_reducible refine (isOnSide_any b.x _).mono ?_; rintro e w' ⟨rfl, rfl⟩; rw [H.out]) | (with_reducible refine (isOnSide_any b.y _).mono ?_; rintro e w' ⟨rfl, rfl⟩; rw [H2.out]))) | (go_at_call 13; refine (isPose_any b.p _).mono ?_; rintro e w' ⟨rfl, rfl⟩; rw [H3.out]))
        go_returns
        exact ⟨_, rfl, World.ownsRow_nil _ _ _ _, by go_grown⟩
      · have h : poseOk b = true := by rw [HP.out, hx, hy, hp]; rfl
        have HL : cobL b = cellsL b := by unfold cobL; rw [h]; rfl
        rw [HL, h]
        have H := hide hx
        have H2 := hide hy
        have H3 := hide hp
        unfold onS at hx hy
        rw [decide_eq_true_eq] at hx hy
        unfold isPo at hp
        rw [decide_eq_true_eq] at hp
        clear h HL
        by_cases h0 : b.p = 0
        · have HC4 := hide (show cellsL b = [b.x, b.y] from by unfold cellsL; rw [if_neg (by omega), if_neg (by omega)])
          rw [HC4.out]
          have p1 : (b.p != 0) = false := by rw [h0]; rfl
          clear hx hy hp h0
          go_enter Try.func6, Try.ntmps6
          go_wp2_with (first | (go_at_call 12; (first | (with_reducible refine (isOnSide_any b.x _).mono ?_; rintro e w' ⟨rfl, rfl⟩; rw [H.out]) | (with_reducible refine (isOnSide_any b.y _).mono ?_; rintro e w' ⟨rfl, rfl⟩; rw [H2.out]))) | (go_at_call 13; refine (isPose_any b.p _).mono ?_; rintro e w' ⟨rfl, rfl⟩; rw [H3.out]))
          go_returns
          refine ⟨_, rfl, ?_, by go_grown⟩
          exact own_mono (own_two w 27 #[.int .i64 b.x, .int .i64 b.y, .int .i64 b.p] b.x b.y) (by omega)
        · have HC4 := hide (show cellsL b = [b.x, b.y] ++ [lastX b, lastY b] from by
            have h12 : b.p = 1 ∨ b.p = 2 := by omega
            unfold cellsL lastX lastY
            rcases h12 with h | h <;> rw [h] <;> rfl)
          rw [HC4.out]
          have p1 : (b.p != 0) = true := bne_iff_ne.2 h0
          have ex : lwX b = lastX b := by
            unfold lwX lastX clin
            split
            · rw [IntWalk.i64_in (b.x + 2) (by omega), IntWalk.i64_in _ (by omega)]; omega
            · rw [IntWalk.i64_in (b.x + 1) (by omega), IntWalk.i64_in _ (by omega)]; omega
          have ey : lwY b = lastY b := by
            unfold lwY lastY clin
            split
            · rw [IntWalk.i64_in (b.y + 2) (by omega), IntWalk.i64_in _ (by omega)]; omega
            · rw [IntWalk.i64_in (b.y + 1) (by omega), IntWalk.i64_in _ (by omega)]; omega
          have HLC := hide (show ∀ wx : World, Calls Try.prog 14 #[Bx.v b] wx fun e w' => e = .returned (.agg #[.int .i64 (lastX b), .int .i64 (lastY b)]) ∧ Below wx.heap.size wx w' from fun wx => by
            rw [← ex, ← ey]
            exact lastCell_any b wx)
          generalize lastX b = lx at HLC ⊢
          generalize lastY b = ly at HLC ⊢
          obtain ⟨i0, hi, hz0, hz1, hz2⟩ := info_parts info_intI
          have HI := hide hi
          have HZ0 := hide hz0
          have HZ1 := hide hz1
          have HZ2 := hide hz2
          have X0 : IsX ((w.alloc (.cells #[.int .i64 b.x, .int .i64 b.y, .int .i64 b.p] 27)).alloc (.cells #[.int .i64 b.x, .int .i64 b.y] 3)) w.heap.size b 27 := IsX.new.alloc _
          have q0 : Below w.heap.size w ((w.alloc (.cells #[.int .i64 b.x, .int .i64 b.y, .int .i64 b.p] 27)).alloc (.cells #[.int .i64 b.x, .int .i64 b.y] 3)) := by go_grown
          have O0 := own_two w 27 #[.int .i64 b.x, .int .i64 b.y, .int .i64 b.p] b.x b.y
          clear hx hy hp h0 ex ey hi hz0 hz1 hz2
          go_enter Try.func6, Try.ntmps6
          go_wp2_with (first | (go_at_call 12; (first | (with_reducible refine (isOnSide_any b.x _).mono ?_; rintro e w' ⟨rfl, rfl⟩; rw [H.out]) | (with_reducible refine (isOnSide_any b.y _).mono ?_; rintro e w' ⟨rfl, rfl⟩; rw [H2.out]))) | (go_at_call 13; refine (isPose_any b.p _).mono ?_; rintro e w' ⟨rfl, rfl⟩; rw [H3.out]))
          generalize (w.alloc (.cells #[.int .i64 b.x, .int .i64 b.y, .int .i64 b.p] 27)).alloc (.cells #[.int .i64 b.x, .int .i64 b.y] 3) = W0 at X0 q0 O0 ⊢
          refine (HLC.out _).mono ?_
          rintro e w2 ⟨rfl, hb2⟩
          have O2 := own_to hb2 O0 rfl
          have q2 := below_to hb2 q0 q0.size rfl rfl rfl rfl
          have hz := O2.lt _ rfl
          have HO2 := hide ((O2.alloc (.cells #[.int .i64 lx, .int .i64 ly] 36)).alloc (.cells #[.int .i64 lx, .int .i64 ly] 3))
          have q3 := q2.alloc q2.size (.cells #[.int .i64 lx, .int .i64 ly] 36)
          have q4 := hide (q3.alloc q3.size (.cells #[.int .i64 lx, .int .i64 ly] 3))
          clear hb2 O0 X0 q0 O2 q2 q3
          go_wp2_with (at_builtin; refine wpList_append_own_at _ rfl _ _ 24 rfl (w.heap.size + 1) 3 i0 (.int .i64 0) 1 8 Try.underlying24 HI.out HZ0.out HZ1.out HZ2.out rfl (by decide) _ _ _ rfl HO2.out ⟨w2.heap.size + 1, 0, none⟩ 2 2 [.int .i64 lx, .int .i64 ly] rfl rfl ?c1 ?c2 ?c3 ?c4 ?c5 ?_)
          case c1 =>
            have := cell_two_newR (w2.alloc (.cells #[.int .i64 lx, .int .i64 ly] 36)) (.int .i64 lx) (.int .i64 ly) 3
            simpa using this
          case c2 =>
            intro x hx
            simp only [List.mem_cons, List.not_mem_nil, or_false] at hx
            rcases hx with rfl | rfl <;> rfl
          case c3 => unfold maxLen; omega
          case c4 => omega
          case c5 => simp; omega
          · intro v' w4 hown4 hg4 _ _
            obtain ⟨g, cap, rfl, hq1, hq2⟩ := own_form hown4 (by omega)
            have Q := hide (q4.out.grown hg4 q4.out.size (fun j hj => by
              have e : w.heap.size + 1 = j := by simpa [Value.ownBlock] using hj
              omega))
            have HO := hide hown4
            clear hg4 hown4
            go_wp2
            go_returns
            exact ⟨_, rfl, own_mono HO.out (by omega), Q.out⟩
theorem cobL_len (b : Bx) : (cobL b).length ≤ 100000 := by
  unfold cobL cellsL
  split
  · split
    · simp
    · split <;> simp
  · simp
set_option maxHeartbeats 1600000 in
theorem walk_CellsOfBox (b : Bx) (w : World) : Calls Try.prog 3 #[Bx.v b] w fun e w' => e = .returned (.bool true) ∧ Below w.heap.size w w' := by
  have hlen := hide (cobL_len b)
  have HSP := hide (fun wx => specCells_any b wx)
  have HIM := hide (fun wx => implCells_any b wx)
  generalize cobL b = Z at hlen HSP HIM
  generalize poseOk b = ok at HSP HIM
  have e1 : (ok != ok) = false := by simp
  have X0 : IsX (w.alloc (.cells #[.int .i64 b.x, .int .i64 b.y, .int .i64 b.p] 23)) w.heap.size b 23 := IsX.new
  have q0 : Below w.heap.size w (w.alloc (.cells #[.int .i64 b.x, .int .i64 b.y, .int .i64 b.p] 23)) := by go_grown
  go_enter Try.func3, Try.ntmps3
  go_wp2_with fail
  generalize w.alloc (.cells #[.int .i64 b.x, .int .i64 b.y, .int .i64 b.p] 23) = W0 at X0 q0 ⊢
  refine (toBox_any b _).mono ?_
  rintro e wa ⟨rfl, hb1⟩
  have Xa := isX_to hb1 X0 rfl
  have qa := below_to hb1 q0 q0.size rfl rfl rfl rfl
  clear hb1 X0 q0
  go_wp2_with fail
  refine (HSP.out _).mono ?_
  rintro e w1 ⟨v0, rfl, O1, hb1⟩
  have X1 := isX_to hb1 Xa rfl
  have q1 := below_to hb1 qa qa.size rfl rfl rfl rfl
  have O1 := own_mono O1 qa.size
  clear hb1 Xa qa
  obtain ⟨l1, ⟨c0, c1, c2⟩, -⟩ := X1.all
  go_wp2_with fail
  clear c0 c1 c2 l1
  refine (toBox_any b _).mono ?_
  rintro e wb ⟨rfl, hb1⟩
  have Xb := isX_to hb1 X1 rfl
  have qb := below_to hb1 q1 q1.size rfl rfl rfl rfl
  have Ob := own_to hb1 O1 rfl
  clear hb1 X1 q1 O1
  have hltb : ∀ g, v0.ownBlock = some g → g < wb.heap.size := fun g hg => (Ob.lt g hg).2
  have hlx := Xb.lt
  go_wp2_with fail
  refine (HIM.out _).mono ?_
  rintro e w2 ⟨v1, rfl, G2, hb2⟩
  have q2 := below_to hb2 qb qb.size rfl rfl rfl rfl
  have O2 := own_to hb2 Ob rfl
  have X2 := isX_to hb2 Xb rfl
  clear hb2 Ob Xb
  go_wp2_with fail
  refine (eqIntS_any v1 v0 Z.length wb.heap.size w.heap.size Z w2 (by have := hlen.out; omega) G2 O2).mono ?_
  rintro e w3 ⟨rfl, hb3⟩
  have q3 := below_to hb3 q2 q2.size rfl rfl rfl rfl
  have O3 := own_to hb3 O2 rfl
  have G3 := own_to hb3 G2 rfl
  have X3 := isX_to hb3 X2 rfl
  clear hb3 O2 G2 X2 q2
  go_wp2_with fail
  refine (markIntS_any v1 Z.length wb.heap.size Z 1 w3 (by have := hlen.out; omega) (by omega) G3).mono ?_
  rintro e w4 ⟨rfl, G4, hb4⟩
  have q4 : Below w.heap.size w w4 := q3.trans (hb4.mono qb.size)
  have O4 := own_under hb4 O3 hltb
  have X4 : IsX w4 w.heap.size b 23 := (hb4.block _ hlx).trans X3
  clear hb4 O3 G3 q3 X3
  generalize hN : ((Z.length : Nat) : Int) = N at *
  have hN0 : 0 ≤ N := by omega
  have HN := hide hN
  clear hN
  go_wp2_with fail
  refine (heldIntS_any v1 Z.length wb.heap.size 1 w4 (by have := hlen.out; omega) (by omega) G4).mono ?_
  rintro e w5 ⟨rfl, rfl⟩
  rw [HN.out]
  have n1 : ¬ (1 + N < 0) := by omega
  have n2 : ((1 + N) != (1 + N)) = false := by simp
  obtain ⟨l4, ⟨c0, c1, c2⟩, -⟩ := X4.all
  go_wp2_with fail
  clear c0 c1 c2 l4
  refine (toBox_any b _).mono ?_
  rintro e wc ⟨rfl, hb5⟩
  have qc := below_to hb5 q4 q4.size rfl rfl rfl rfl
  have Oc := own_to hb5 O4 rfl
  have Gc := own_to hb5 G4 rfl
  clear hb5 X4 q4 O4 G4
  go_wp2_with fail
  refine (HIM.out _).mono ?_
  rintro e w6 ⟨v2, rfl, H6, hb6⟩
  have q6 := below_to hb6 qc qc.size rfl rfl rfl rfl
  have O6 := own_to hb6 Oc rfl
  have G6 := own_to hb6 Gc rfl
  clear hb6 Oc Gc qc
  go_wp2_with fail
  refine (eqIntS_any v2 v0 Z.length wc.heap.size w.heap.size Z w6 (by have := hlen.out; omega) H6 O6).mono ?_
  rintro e w7 ⟨rfl, hb7⟩
  have q7 := below_to hb7 q6 q6.size rfl rfl rfl rfl
  have G7 := own_to hb7 G6 rfl
  clear hb7 O6 G6 H6 q6
  go_wp2_with fail
  refine (heldIntS_any v1 Z.length wb.heap.size 1 w7 (by have := hlen.out; omega) (by omega) G7).mono ?_
  rintro e w8 ⟨rfl, rfl⟩
  rw [HN.out]
  go_wp2
  go_returns
  exact ⟨rfl, q7⟩
end Go.Proofs.Ytoojoghgbmpbpaa
