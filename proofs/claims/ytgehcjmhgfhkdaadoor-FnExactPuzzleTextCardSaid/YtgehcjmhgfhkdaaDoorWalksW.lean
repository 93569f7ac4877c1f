/- The walks of the law of TurnState. -/
import Derived.Test.YtgehcjmhgfhkdaaDoorAsk
import Derived.Test.YtgehcjmhgfhkdaaDoorWalksE
import Derived.IntWalk
namespace Go.Proofs.YtgehcjmhgfhkdaaDoor
set_option maxRecDepth 100000
set_option linter.all false
open Go.RowKit

theorem cell_set8W {w : World} {b c o : Nat} {u0 u1 u2 u3 u4 u5 u6 u7 : Value} (h : b ≠ c) : ((((((((w.setCell ⟨b, 0, none⟩ u0).setCell ⟨b, 1, none⟩ u1).setCell ⟨b, 2, none⟩ u2).setCell ⟨b, 3, none⟩ u3).setCell ⟨b, 4, none⟩ u4).setCell ⟨b, 5, none⟩ u5).setCell ⟨b, 6, none⟩ u6).setCell ⟨b, 7, none⟩ u7).cell? ⟨c, o, none⟩ = w.cell? ⟨c, o, none⟩ := by
  have hd : ∀ j, (⟨b, j, none⟩ : Addr) ≠ ⟨c, o, none⟩ := fun j e => h (by injection e)
  rw [World.cell?_setCell_other _ _ _ _ (hd 7), World.cell?_setCell_other _ _ _ _ (hd 6), World.cell?_setCell_other _ _ _ _ (hd 5), World.cell?_setCell_other _ _ _ _ (hd 4), World.cell?_setCell_other _ _ _ _ (hd 3), World.cell?_setCell_other _ _ _ _ (hd 2), World.cell?_setCell_other _ _ _ _ (hd 1), World.cell?_setCell_other _ _ _ _ (hd 0)]
/-- A state on a board stands near. -/
theorem st_nearW {l : List UInt8} (h : isBd l = true) {s : St} (h2 : stL l s = true) : (0 ≤ s.x ∧ s.x ≤ 6) ∧ (0 ≤ s.y ∧ s.y ≤ 6) ∧ goodB s.d = true := by
  unfold stL at h2
  obtain ⟨h3, h4⟩ := Bool.and_eq_true_iff.1 h2
  unfold floorL at h3
  cases hi : inL l s.x s.y
  · rw [cellI_out h hi] at h3
    exact absurd h3 (by simp)
  · obtain ⟨_, a, _, b, _⟩ := bd_facts h
    unfold inL at hi
    simp only [Bool.and_eq_true, decide_eq_true_eq] at hi
    exact ⟨by omega, by omega, h4⟩
/-- The turned state. -/
def tsT (l : List UInt8) (t : St) : St := ⟨((splitP l).length : Int) - 1 - t.y, t.x, turnD t.d⟩
def tsB (l : List UInt8) (t : St) : Bool := isBd l && stL l t
def tsV (l : List UInt8) (t : St) : St := if tsB l t = true then tsT l t else ⟨0, 0, ⟨0, 0, 0, 0, 0, 0⟩⟩

set_option maxHeartbeats 1600000 in
theorem specTS_on (s : ByteArray) (t : St) (w : World) (hs : s.size ≤ 1048576) (h : isBd s.data.toList = true) (h2 : stL s.data.toList t = true) : Calls Tryd.prog 46 #[.string s, St.v t] w fun e w' => e = .returned (.tuple #[St.v (tsT s.data.toList t), .bool true]) ∧ Below w.heap.size w w' := by
  obtain ⟨⟨hx0, hx1⟩, ⟨hy0, hy1⟩, hgd⟩ := st_nearW h h2
  have H := hide h
  have HST := hide h2
  clear h h2 hgd
  go_enter Tryd.func46, Tryd.ntmps46
  go_wp2_with fail
  refine (boAsked_in s t _ hs H.out).mono ?_
  rintro e w1 ⟨W, Hh, n, g, cap, hG, rfl, hA, hb1⟩
  rw [HST.out]
  have S0 := isS_to hb1 ((IsS.new (w := w) (s := t) (ty := 32)).alloc (.cells #[.int .i64 0, .int .i64 0, .int .i64 0, .int .i64 0, .int .i64 0, .int .i64 0, .int .i64 0, .int .i64 0] 32)) rfl
  have R0 := isS_to hb1 (IsS.new2 (w := w) (o := (.cells #[.int .i64 t.x, .int .i64 t.y, .int .i64 t.d.t, .int .i64 t.d.n, .int .i64 t.d.e, .int .i64 t.d.s, .int .i64 t.d.w, .int .i64 t.d.b] 32)) (s := ⟨0, 0, ⟨0, 0, 0, 0, 0, 0⟩⟩) (ty := 32)) rfl
  have hz := R0.lt
  have S1 := S0.alloc (.cells #[.int .i64 (W : Int), .int .i64 (Hh : Int), .slice (some ⟨g, 0, none⟩) n cap] 77)
  have R1 := R0.alloc (.cells #[.int .i64 (W : Int), .int .i64 (Hh : Int), .slice (some ⟨g, 0, none⟩) n cap] 77)
  have G1 := IsG.new (w := w1) (x := (W : Int)) (y := (Hh : Int)) (v := .slice (some ⟨g, 0, none⟩) n cap)
  have q0 : Below w.heap.size w w1 := below_after (by go_grown) hb1 (by simp; omega)
  have q1 := q0.alloc q0.size (.cells #[.int .i64 (W : Int), .int .i64 (Hh : Int), .slice (some ⟨g, 0, none⟩) n cap] 77)
  have HR := hide (show tsT s.data.toList t = ⟨(Hh : Int) - 1 - t.y, t.x, turnD t.d⟩ from by unfold tsT; rw [hG.2.2.1])
  obtain ⟨-, -, hH1, hH7, -⟩ := grid_facts hG
  clear hb1 S0 R0 q0 hA hG
  go_wp2_with fail
  generalize hB : w1.heap.size = B at G1 hz ⊢
  generalize w1.alloc (.cells #[.int .i64 (W : Int), .int .i64 (Hh : Int), .slice (some ⟨g, 0, none⟩) n cap] 77) = W0 at S1 R1 G1 q1 ⊢
  clear hB
  obtain ⟨-, ⟨a0, a1, a2, a3, a4, a5, a6, a7⟩, -⟩ := S1.all
  obtain ⟨-, ⟨g0, g1, g2⟩, -⟩ := G1.all
  have hzB : w.heap.size + 1 ≠ B := by omega
  have hz1 : w.heap.size + 1 ≠ w.heap.size := by omega
  have y1 : IntKind.i64.wrap ((Hh : Int) - 1) = (Hh : Int) - 1 := IntWalk.i64_in _ (by omega)
  have y2 : IntKind.i64.wrap ((Hh : Int) - 1 - t.y) = (Hh : Int) - 1 - t.y := IntWalk.i64_in _ (by omega)
  go_region_held3 (fun w' => w'.cell? ⟨w.heap.size, 0, none⟩ = some (.int .i64 t.x) ∧ w'.cell? ⟨w.heap.size, 1, none⟩ = some (.int .i64 t.y) ∧ w'.cell? ⟨w.heap.size, 2, none⟩ = some (.int .i64 t.d.t) ∧ w'.cell? ⟨w.heap.size, 3, none⟩ = some (.int .i64 t.d.n) ∧ w'.cell? ⟨w.heap.size, 4, none⟩ = some (.int .i64 t.d.e) ∧ w'.cell? ⟨w.heap.size, 5, none⟩ = some (.int .i64 t.d.s) ∧ w'.cell? ⟨w.heap.size, 6, none⟩ = some (.int .i64 t.d.w) ∧ w'.cell? ⟨w.heap.size, 7, none⟩ = some (.int .i64 t.d.b) ∧ w'.cell? ⟨B, 1, none⟩ = some (.int .i64 (Hh : Int))) (first | (refine ⟨?_, ?_, ?_, ?_, ?_, ?_, ?_, ?_, ?_⟩ <;> with_reducible assumption) | (refine ⟨?_, ?_, ?_, ?_, ?_, ?_, ?_, ?_, ?_⟩ <;> (rw [cell_set8W (by assumption)]; with_reducible assumption)) | (refine ⟨?_, ?_, ?_, ?_, ?_, ?_, ?_, ?_, ?_⟩ <;> assumption))
    (first
      | (go_at_call 74; (refine (diTurn_any t.d _).mono ?_); rintro e w2 ⟨rfl, hb2⟩; obtain ⟨-, ⟨b0, b1, b2, b3, b4, b5, b6, b7⟩, -⟩ := (isS_to hb2 S1 rfl).all; obtain ⟨-, ⟨x0, x1, x2⟩, -⟩ := (isG_to hb2 G1 rfl).all; have R2 := isS_to hb2 R1 rfl; have Q2 := below_to hb2 q1 q1.size rfl rfl rfl rfl; obtain ⟨m1, ⟨c0, c1, c2, c3, c4, c5, c6, c7⟩, f0, f1, f2, f3, f4, f5, f6, f7⟩ := R2.all; clear hb2))
  go_wp2
  refine bodyPost_ret (ret_state2 Tryd.results46 rfl rfl (R2.set8 ⟨(Hh : Int) - 1 - t.y, t.x, turnD t.d⟩)) rfl ⟨by rw [HR.out], ?_⟩
  exact below_set8 Q2 (show w.heap.size ≤ w.heap.size + 1 from by omega) ⟨(Hh : Int) - 1 - t.y, t.x, turnD t.d⟩

set_option maxHeartbeats 1600000 in
theorem specTS_off (s : ByteArray) (t : St) (w : World) (hs : s.size ≤ 1048576) (h : isBd s.data.toList = true) (h2 : stL s.data.toList t = false) : Calls Tryd.prog 46 #[.string s, St.v t] w fun e w' => e = .returned (.tuple #[St.v ⟨0, 0, ⟨0, 0, 0, 0, 0, 0⟩⟩, .bool false]) ∧ Below w.heap.size w w' := by
  have H := hide h
  have HST := hide h2
  clear h2
  clear h
  go_enter Tryd.func46, Tryd.ntmps46
  go_wp2_with fail
  refine (boAsked_in s t _ hs H.out).mono ?_
  rintro e w1 ⟨W, Hh, n, g, cap, hG, rfl, hA, hb1⟩
  rw [HST.out]
  clear hG hA
  have R0 := isS_to hb1 (IsS.new2 (w := w) (o := (.cells #[.int .i64 t.x, .int .i64 t.y, .int .i64 t.d.t, .int .i64 t.d.n, .int .i64 t.d.e, .int .i64 t.d.s, .int .i64 t.d.w, .int .i64 t.d.b] 32)) (s := ⟨0, 0, ⟨0, 0, 0, 0, 0, 0⟩⟩) (ty := 32)) rfl
  have R1 := R0.alloc (.cells #[.int .i64 (W : Int), .int .i64 (Hh : Int), .slice (some ⟨g, 0, none⟩) n cap] 77)
  have q0 : Below w.heap.size w w1 := below_after (by go_grown) hb1 (by simp; omega)
  have q1 := q0.alloc q0.size (.cells #[.int .i64 (W : Int), .int .i64 (Hh : Int), .slice (some ⟨g, 0, none⟩) n cap] 77)
  clear hb1 R0 q0
  obtain ⟨m1, ⟨c0, c1, c2, c3, c4, c5, c6, c7⟩, f0, f1, f2, f3, f4, f5, f6, f7⟩ := R1.all
  go_wp2
  refine bodyPost_ret (ret_state2 Tryd.results46 rfl rfl (R1.set8 ⟨0, 0, ⟨0, 0, 0, 0, 0, 0⟩⟩)) rfl ⟨rfl, ?_⟩
  exact below_set8 q1 (show w.heap.size ≤ w.heap.size + 1 from by omega) ⟨0, 0, ⟨0, 0, 0, 0, 0, 0⟩⟩

set_option maxHeartbeats 1600000 in
theorem specTS_bad (s : ByteArray) (t : St) (w : World) (hs : s.size ≤ 1048576) (h : isBd s.data.toList = false) : Calls Tryd.prog 46 #[.string s, St.v t] w fun e w' => e = .returned (.tuple #[St.v ⟨0, 0, ⟨0, 0, 0, 0, 0, 0⟩⟩, .bool false]) ∧ Below w.heap.size w w' := by
  have H := hide h
  clear h
  go_enter Tryd.func46, Tryd.ntmps46
  go_wp2_with fail
  refine (boAsked_bad s t _ hs H.out).mono ?_
  rintro e w1 ⟨rfl, hb1⟩
  have R0 := isS_to hb1 (IsS.new2 (w := w) (o := (.cells #[.int .i64 t.x, .int .i64 t.y, .int .i64 t.d.t, .int .i64 t.d.n, .int .i64 t.d.e, .int .i64 t.d.s, .int .i64 t.d.w, .int .i64 t.d.b] 32)) (s := ⟨0, 0, ⟨0, 0, 0, 0, 0, 0⟩⟩) (ty := 32)) rfl
  have R1 := R0.alloc (.cells #[.int .i64 0, .int .i64 0, .slice none 0 0] 77)
  have q0 : Below w.heap.size w w1 := below_after (by go_grown) hb1 (by simp; omega)
  have q1 := q0.alloc q0.size (.cells #[.int .i64 0, .int .i64 0, .slice none 0 0] 77)
  clear hb1 R0 q0
  obtain ⟨m1, ⟨c0, c1, c2, c3, c4, c5, c6, c7⟩, f0, f1, f2, f3, f4, f5, f6, f7⟩ := R1.all
  go_wp2
  refine bodyPost_ret (ret_state2 Tryd.results46 rfl rfl (R1.set8 ⟨0, 0, ⟨0, 0, 0, 0, 0, 0⟩⟩)) rfl ⟨rfl, ?_⟩
  exact below_set8 q1 (show w.heap.size ≤ w.heap.size + 1 from by omega) ⟨0, 0, ⟨0, 0, 0, 0, 0, 0⟩⟩

set_option maxHeartbeats 1600000 in
theorem implTS_bad (s : ByteArray) (t : St) (w : World) (hs : s.size ≤ 1048576) (hg : Glob w) (h : isBd s.data.toList = false) : Calls Tryd.prog 50 #[.string s, St.v t] w fun e w' => e = .returned (.tuple #[St.v ⟨0, 0, ⟨0, 0, 0, 0, 0, 0⟩⟩, .bool false]) ∧ Below w.heap.size w w' := by
  have HG := hide (show Glob ((w.alloc (.cells #[.int .i64 t.x, .int .i64 t.y, .int .i64 t.d.t, .int .i64 t.d.n, .int .i64 t.d.e, .int .i64 t.d.s, .int .i64 t.d.w, .int .i64 t.d.b] 32)).alloc (.cells #[.int .i64 0, .int .i64 0, .int .i64 0, .int .i64 0, .int .i64 0, .int .i64 0, .int .i64 0, .int .i64 0] 32)) from glob_to (w0 := w) (by go_grown) hg rfl)
  have H := hide h
  clear h hg
  go_enter Tryd.func50, Tryd.ntmps50
  go_wp2_with fail
  refine (rowsUnder_bad s t _ hs HG.out H.out).mono ?_
  rintro e w1 ⟨rfl, hb1⟩
  have R1 := isS_to hb1 (IsS.new2 (w := w) (o := (.cells #[.int .i64 t.x, .int .i64 t.y, .int .i64 t.d.t, .int .i64 t.d.n, .int .i64 t.d.e, .int .i64 t.d.s, .int .i64 t.d.w, .int .i64 t.d.b] 32)) (s := ⟨0, 0, ⟨0, 0, 0, 0, 0, 0⟩⟩) (ty := 32)) rfl
  have q1 : Below w.heap.size w w1 := below_after (by go_grown) hb1 (by simp; omega)
  clear hb1
  obtain ⟨m1, ⟨c0, c1, c2, c3, c4, c5, c6, c7⟩, f0, f1, f2, f3, f4, f5, f6, f7⟩ := R1.all
  go_wp2
  refine bodyPost_ret (ret_state2 Tryd.results50 rfl rfl (R1.set8 ⟨0, 0, ⟨0, 0, 0, 0, 0, 0⟩⟩)) rfl ⟨rfl, ?_⟩
  exact below_set8 q1 (show w.heap.size ≤ w.heap.size + 1 from by omega) ⟨0, 0, ⟨0, 0, 0, 0, 0, 0⟩⟩

set_option maxHeartbeats 1600000 in
theorem implTS_off (s : ByteArray) (t : St) (w : World) (hs : s.size ≤ 1048576) (hg : Glob w) (h : isBd s.data.toList = true) (h2 : stL s.data.toList t = false) : Calls Tryd.prog 50 #[.string s, St.v t] w fun e w' => e = .returned (.tuple #[St.v ⟨0, 0, ⟨0, 0, 0, 0, 0, 0⟩⟩, .bool false]) ∧ Below w.heap.size w w' := by
  have HG := hide (show Glob ((w.alloc (.cells #[.int .i64 t.x, .int .i64 t.y, .int .i64 t.d.t, .int .i64 t.d.n, .int .i64 t.d.e, .int .i64 t.d.s, .int .i64 t.d.w, .int .i64 t.d.b] 32)).alloc (.cells #[.int .i64 0, .int .i64 0, .int .i64 0, .int .i64 0, .int .i64 0, .int .i64 0, .int .i64 0, .int .i64 0] 32)) from glob_to (w0 := w) (by go_grown) hg rfl)
  have H := hide h
  have HST := hide h2
  clear h2
  clear h hg
  go_enter Tryd.func50, Tryd.ntmps50
  go_wp2_with fail
  refine (rowsUnder_off s t _ hs HG.out H.out HST.out).mono ?_
  rintro e w1 ⟨rfl, hb1⟩
  have R1 := isS_to hb1 (IsS.new2 (w := w) (o := (.cells #[.int .i64 t.x, .int .i64 t.y, .int .i64 t.d.t, .int .i64 t.d.n, .int .i64 t.d.e, .int .i64 t.d.s, .int .i64 t.d.w, .int .i64 t.d.b] 32)) (s := ⟨0, 0, ⟨0, 0, 0, 0, 0, 0⟩⟩) (ty := 32)) rfl
  have q1 : Below w.heap.size w w1 := below_after (by go_grown) hb1 (by simp; omega)
  clear hb1
  obtain ⟨m1, ⟨c0, c1, c2, c3, c4, c5, c6, c7⟩, f0, f1, f2, f3, f4, f5, f6, f7⟩ := R1.all
  go_wp2
  refine bodyPost_ret (ret_state2 Tryd.results50 rfl rfl (R1.set8 ⟨0, 0, ⟨0, 0, 0, 0, 0, 0⟩⟩)) rfl ⟨rfl, ?_⟩
  exact below_set8 q1 (show w.heap.size ≤ w.heap.size + 1 from by omega) ⟨0, 0, ⟨0, 0, 0, 0, 0, 0⟩⟩

set_option maxHeartbeats 1600000 in
theorem implTS_on (s : ByteArray) (t : St) (w : World) (hs : s.size ≤ 1048576) (hg : Glob w) (h : isBd s.data.toList = true) (h2 : stL s.data.toList t = true) : Calls Tryd.prog 50 #[.string s, St.v t] w fun e w' => e = .returned (.tuple #[St.v (tsT s.data.toList t), .bool true]) ∧ Below w.heap.size w w' := by
  have HG := hide (show Glob ((w.alloc (.cells #[.int .i64 t.x, .int .i64 t.y, .int .i64 t.d.t, .int .i64 t.d.n, .int .i64 t.d.e, .int .i64 t.d.s, .int .i64 t.d.w, .int .i64 t.d.b] 32)).alloc (.cells #[.int .i64 0, .int .i64 0, .int .i64 0, .int .i64 0, .int .i64 0, .int .i64 0, .int .i64 0, .int .i64 0] 32)) from glob_to (w0 := w) (by go_grown) hg rfl)
  obtain ⟨⟨hx0, hx1⟩, ⟨hy0, hy1⟩, hgd⟩ := st_nearW h h2
  have HT := hide (fun wx => show Calls Tryd.prog 76 #[D.v t.d, .int .i64 1] wx (fun e w' => e = .returned (.tuple #[D.v (turnD t.d), .bool true]) ∧ Below wx.heap.size wx w') from implTurnDie_yes t.d 1 wx hgd (by omega))
  have hlen : (rowsB s).length = (splitP s.data.toList).length := by rw [← rowsB_data, List.length_map]
  obtain ⟨-, -, hH1, hH7, -⟩ := bd_facts h
  have HR := hide (show tsT s.data.toList t = ⟨((rowsB s).length : Int) - 1 - t.y, t.x, turnD t.d⟩ from by unfold tsT; rw [hlen])
  rw [← hlen] at hH1 hH7
  have H := hide h
  have HST := hide h2
  clear h h2 hg hgd hlen
  go_enter Tryd.func50, Tryd.ntmps50
  go_wp2_with fail
  refine (rowsUnder_on s t _ hs HG.out H.out HST.out).mono ?_
  rintro e w1 ⟨rfl, -, hb1⟩
  have S1 := isS_to hb1 ((IsS.new (w := w) (s := t) (ty := 32)).alloc (.cells #[.int .i64 0, .int .i64 0, .int .i64 0, .int .i64 0, .int .i64 0, .int .i64 0, .int .i64 0, .int .i64 0] 32)) rfl
  have R1 := isS_to hb1 (IsS.new2 (w := w) (o := (.cells #[.int .i64 t.x, .int .i64 t.y, .int .i64 t.d.t, .int .i64 t.d.n, .int .i64 t.d.e, .int .i64 t.d.s, .int .i64 t.d.w, .int .i64 t.d.b] 32)) (s := ⟨0, 0, ⟨0, 0, 0, 0, 0, 0⟩⟩) (ty := 32)) rfl
  have q1 : Below w.heap.size w w1 := below_after (by go_grown) hb1 (by simp; omega)
  generalize (rowsB s).length = m at hH1 hH7 HR ⊢
  clear hb1
  obtain ⟨l0, ⟨a0, a1, a2, a3, a4, a5, a6, a7⟩, -⟩ := S1.all
  go_wp2_with fail
  clear a0 a1 a2 a3 a4 a5 a6 a7 l0
  refine (HT.out _).mono ?_
  rintro e w2 ⟨rfl, hb2⟩
  have S2 := (isS_to hb2 S1 rfl).alloc (.cells #[.int .i64 (turnD t.d).t, .int .i64 (turnD t.d).n, .int .i64 (turnD t.d).e, .int .i64 (turnD t.d).s, .int .i64 (turnD t.d).w, .int .i64 (turnD t.d).b] 30)
  have R2 := (isS_to hb2 R1 rfl).alloc (.cells #[.int .i64 (turnD t.d).t, .int .i64 (turnD t.d).n, .int .i64 (turnD t.d).e, .int .i64 (turnD t.d).s, .int .i64 (turnD t.d).w, .int .i64 (turnD t.d).b] 30)
  have q2 := below_to hb2 q1 q1.size rfl rfl rfl rfl
  have q3 := q2.alloc q2.size (.cells #[.int .i64 (turnD t.d).t, .int .i64 (turnD t.d).n, .int .i64 (turnD t.d).e, .int .i64 (turnD t.d).s, .int .i64 (turnD t.d).w, .int .i64 (turnD t.d).b] 30)
  clear hb2 S1 R1 q1 q2
  obtain ⟨l0, ⟨a0, a1, a2, a3, a4, a5, a6, a7⟩, -⟩ := S2.all
  obtain ⟨m1, ⟨c0, c1, c2, c3, c4, c5, c6, c7⟩, f0, f1, f2, f3, f4, f5, f6, f7⟩ := R2.all
  have y1 : IntKind.i64.wrap ((m : Int) - 1) = (m : Int) - 1 := IntWalk.i64_in _ (by omega)
  have y2 : IntKind.i64.wrap ((m : Int) - 1 - t.y) = (m : Int) - 1 - t.y := IntWalk.i64_in _ (by omega)
  go_wp2
  refine bodyPost_ret (ret_state2 Tryd.results50 rfl rfl (R2.set8 ⟨(m : Int) - 1 - t.y, t.x, turnD t.d⟩)) rfl ⟨by rw [HR.out], ?_⟩
  exact below_set8 q3 (show w.heap.size ≤ w.heap.size + 1 from by omega) ⟨(m : Int) - 1 - t.y, t.x, turnD t.d⟩
theorem specTS_any (s : ByteArray) (t : St) (w : World) (hs : s.size ≤ 1048576) : Calls Tryd.prog 46 #[.string s, St.v t] w fun e w' => e = .returned (.tuple #[St.v (tsV s.data.toList t), .bool (tsB s.data.toList t)]) ∧ Below w.heap.size w w' := by
  cases h : isBd s.data.toList
  · have e : tsB s.data.toList t = false := by unfold tsB; rw [h]; rfl
    unfold tsV
    rw [e, if_neg (by decide)]
    exact specTS_bad s t w hs h
  · cases h2 : stL s.data.toList t
    · have e : tsB s.data.toList t = false := by unfold tsB; rw [h, h2]; rfl
      unfold tsV
      rw [e, if_neg (by decide)]
      exact specTS_off s t w hs h h2
    · have e : tsB s.data.toList t = true := by unfold tsB; rw [h, h2]; rfl
      unfold tsV
      rw [e, if_pos rfl]
      exact specTS_on s t w hs h h2
theorem implTS_any (s : ByteArray) (t : St) (w : World) (hs : s.size ≤ 1048576) (hg : Glob w) : Calls Tryd.prog 50 #[.string s, St.v t] w fun e w' => e = .returned (.tuple #[St.v (tsV s.data.toList t), .bool (tsB s.data.toList t)]) ∧ Below w.heap.size w w' := by
  cases h : isBd s.data.toList
  · have e : tsB s.data.toList t = false := by unfold tsB; rw [h]; rfl
    unfold tsV
    rw [e, if_neg (by decide)]
    exact implTS_bad s t w hs hg h
  · cases h2 : stL s.data.toList t
    · have e : tsB s.data.toList t = false := by unfold tsB; rw [h, h2]; rfl
      unfold tsV
      rw [e, if_neg (by decide)]
      exact implTS_off s t w hs hg h h2
    · have e : tsB s.data.toList t = true := by unfold tsB; rw [h, h2]; rfl
      unfold tsV
      rw [e, if_pos rfl]
      exact implTS_on s t w hs hg h h2

end Go.Proofs.YtgehcjmhgfhkdaaDoor
