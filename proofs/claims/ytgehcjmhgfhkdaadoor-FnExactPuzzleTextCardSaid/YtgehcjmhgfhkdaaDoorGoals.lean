/- What a puzzle asks for: two goals behind an interface; all are asked a question by a method expression. -/
import Derived.Test.YtgehcjmhgfhkdaaDoorPuz
import Derived.Test.YtgehcjmhgfhkdaaDoorAsk
namespace Go.Proofs.YtgehcjmhgfhkdaaDoor
set_option maxRecDepth 100000
set_option linter.all false
open Go.RowKit

/-- Block g holds the two goals: a cell, a face on top. -/
def GoalsAt (w : World) (g : Nat) (x y t : Int) : Prop := w.heap[g]? = some (.cells #[.iface 99 (.agg #[.int .i64 x, .int .i64 y]), .iface 100 (.int .i64 t)] 61 (0, 0))
theorem GoalsAt.lt {w : World} {g : Nat} {x y t : Int} (h : GoalsAt w g x y t) : g < w.heap.size := (Array.getElem?_eq_some_iff.1 h).1
theorem goalsAt_to {w w0 w1 : World} {g : Nat} {x y t : Int} (hb : Below w0.heap.size w0 w1) (h : GoalsAt w g x y t) (e : w0.heap = w.heap) : GoalsAt w1 g x y t := by
  unfold GoalsAt
  rw [hb.block g (by rw [e]; exact h.lt), e]
  exact h
theorem GoalsAt.cells {w : World} {g : Nat} {x y t : Int} (h : GoalsAt w g x y t) : g < w.heap.size ∧ w.cell? ⟨g, 0, none⟩ = some (.iface 99 (.agg #[.int .i64 x, .int .i64 y])) ∧ w.cell? ⟨g, 1, none⟩ = some (.iface 100 (.int .i64 t)) := by
  refine ⟨h.lt, ?_, ?_⟩ <;> simp [World.cell?, show w.heap[g]? = _ from h]
theorem pz_new (w : World) (o : Obj) : (w.alloc o).heap[w.heap.size]? = some o := by
  show (w.heap.push o)[w.heap.size]? = _
  simp
set_option maxHeartbeats 800000 in
theorem goalsOf_any (p : Pz) (w : World) : Calls Tryd.prog 34 #[Pz.v p] w fun e w' => ∃ g, e = .returned (.slice (some ⟨g, 0, none⟩) 2 2) ∧ w.heap.size ≤ g ∧ GoalsAt w' g p.x p.y p.t ∧ Below w.heap.size w w' := by
  go_enter Tryd.func34, Tryd.ntmps34
  go_wp2
  go_returns
  refine ⟨_, rfl, by simp, ?_, by go_grown⟩
  unfold GoalsAt
  have := pz_new (w.alloc (.cells #[.string p.b, .int .i64 p.s.x, .int .i64 p.s.y, .int .i64 p.s.d.t, .int .i64 p.s.d.n, .int .i64 p.s.d.e, .int .i64 p.s.d.s, .int .i64 p.s.d.w, .int .i64 p.s.d.b, .int .i64 p.x, .int .i64 p.y, .int .i64 p.t] 34)) (.cells #[.iface 99 (.agg #[.int .i64 p.x, .int .i64 p.y]), .iface 100 (.int .i64 p.t)] 61)
  simpa using this
set_option maxHeartbeats 800000 in
theorem cellOn_any (s : ByteArray) (x y : Int) (R : Nat) (w : World) (hs : s.size ≤ 1048576) (h : isBd s.data.toList = true) (ha : RowsAt w R (rowsB s)) :
    Calls Tryd.prog 166 #[.agg #[.int .i64 x, .int .i64 y], .slice (some ⟨R, 0, none⟩) (rowsB s).length (rowsB s).length] w fun e w' => e = .returned (.bool (floorL s.data.toList x y)) ∧ Below w.heap.size w w' := by
  have HS := hide (show floorL s.data.toList x y = decide (((cellI (splitP s.data.toList) x y).toNat : Int) = 46) from rfl)
  have HC := hide (cellAtL_any s R x y (w.alloc (.cells #[.int .i64 x, .int .i64 y] 99)) hs h (rowsAt_to (w0 := w) (by go_grown) ha rfl))
  generalize cellI (splitP s.data.toList) x y = c at HC HS
  clear h ha
  generalize (rowsB s).length = n at HC ⊢
  have q0 : Below w.heap.size w (w.alloc (.cells #[.int .i64 x, .int .i64 y] 99)) := by go_grown
  cases hf : decide ((c.toNat : Int) = 46)
  all_goals
    have hq := eq46' hf
    have HF := hide hf
    clear hf
    go_enter Tryd.func166, Tryd.ntmps166
    go_wp2_with fail
    refine HC.out.mono ?_
    rintro e w1 ⟨rfl, rfl⟩
    go_wp2
    go_returns
    exact ⟨ret_bool (by rw [HS.out, HF.out]), q0⟩
theorem topOn_any (t : Int) (v : Value) (w : World) : Calls Tryd.prog 168 #[.int .i64 t, v] w fun e w' => e = .returned (.bool (decide (0 ≤ t) && decide (t ≤ 9))) ∧ Below w.heap.size w w' := by
  by_cases h : 0 ≤ t
  · by_cases h2 : t ≤ 9
    · go_enter Tryd.func168, Tryd.ntmps168
      go_wp2
      go_returns
      exact ⟨ret_bool (by simp [h, h2]), Below.refl _ _⟩
    · go_enter Tryd.func168, Tryd.ntmps168
      go_wp2
      go_returns
      exact ⟨ret_bool (by simp [h, h2]), Below.refl _ _⟩
  · go_enter Tryd.func168, Tryd.ntmps168
    go_wp2
    go_returns
    exact ⟨ret_bool (by rw [decide_eq_false (by omega)]; rfl), Below.refl _ _⟩

set_option maxHeartbeats 1600000 in
theorem agreeR_any (s : ByteArray) (x y t : Int) (g R : Nat) (w : World) (hs : s.size ≤ 1048576) (h : isBd s.data.toList = true) (ha : RowsAt w R (rowsB s)) (hg : GoalsAt w g x y t) :
    Calls Tryd.prog 33 #[.slice (some ⟨g, 0, none⟩) 2 2, .func (.methodOf 61 "loop.example/g01207/impl.isOn") #[] #[], .slice (some ⟨R, 0, none⟩) (rowsB s).length (rowsB s).length] w fun e w' => e = .returned (.bool (floorL s.data.toList x y && (decide (0 ≤ t) && decide (t ≤ 9)))) ∧ Below w.heap.size w w' := by
  have HC := hide (fun (wx : World) (hx : RowsAt wx R (rowsB s)) => cellOn_any s x y R wx hs h hx)
  have HT := hide (topOn_any t)
  have HA := hide ha
  have HG := hide hg
  have m1 : ∀ wx : World, (method 203 99 (.agg #[.int .i64 x, .int .i64 y]) "loop.example/g01207/impl.isOn").run Tryd.prog wx = .ok (166, .agg #[.int .i64 x, .int .i64 y]) wx := fun _ => by kernel_rfl
  have m2 : ∀ wx : World, (method 203 100 (.int .i64 t) "loop.example/g01207/impl.isOn").run Tryd.prog wx = .ok (168, .int .i64 t) wx := fun _ => by kernel_rfl
  clear hs h ha hg
  generalize (rowsB s).length = n at HC ⊢
  obtain ⟨fl, hfl⟩ : ∃ b, b = floorL s.data.toList x y := ⟨_, rfl⟩
  obtain ⟨tp, htp⟩ : ∃ b, b = (decide (0 ≤ t) && decide (t ≤ 9)) := ⟨_, rfl⟩
  rw [← hfl] at HC ⊢
  rw [← htp] at HT ⊢
  clear hfl htp
  have q0 := Below.refl w.heap.size w
  go_enter Tryd.func33, Tryd.ntmps33
  go_wp2
  go_loopw [11] (fun i wr => ∃ k : Nat, i = .int .i64 (k : Int) ∧ ((k = 0) ∨ (k = 1 ∧ fl = true) ∨ (k = 2 ∧ fl = true ∧ tp = true)) ∧ Below w.heap.size w wr) (fun i _ => 2 - (intOf i).toNat)
  case atStart => exact ⟨0, rfl, .inl rfl, q0⟩
  case round =>
    obtain ⟨k, rfl, hk, hB⟩ := hrel
    obtain ⟨lg, g0, g1⟩ := (goalsAt_to (w0 := w) hB HG.out rfl).cells
    have HR := hide (rowsAt_to (w0 := w) hB HA.out rfl)
    have HB := hide hB
    clear hB
    rcases hk with rfl | ⟨rfl, h1⟩ | ⟨rfl, h1, h2⟩
    · go_wp2_with fail
      refine (HC.out _ HR.out).mono ?_
      rintro e w1 ⟨rfl, hb1⟩
      have HB1 := hide (below_to hb1 HB.out HB.out.size rfl rfl rfl rfl)
      clear hb1 g0 g1 HB
      cases fl with
      | false =>
        go_wp2
        go_returns
        exact ⟨rfl, HB1.out⟩
      | true =>
        go_wp2
        go_roundw
        case rel => exact ⟨1, by go_num, .inr (.inl ⟨rfl, by simp⟩), HB1.out⟩
        case measure => simp [intOf]
    · subst h1
      go_wp2_with fail
      refine (HT.out _ _).mono ?_
      rintro e w1 ⟨rfl, hb1⟩
      have HB1 := hide (below_to hb1 HB.out HB.out.size rfl rfl rfl rfl)
      clear hb1 g0 g1 HB
      cases tp with
      | false =>
        go_wp2
        go_returns
        exact ⟨rfl, HB1.out⟩
      | true =>
        go_wp2
        go_roundw
        case rel => exact ⟨2, by go_num, .inr (.inr ⟨rfl, by simp, by simp⟩), HB1.out⟩
        case measure => simp [intOf]
    · subst h1 h2
      go_wp2
      go_returns
      exact ⟨rfl, HB.out⟩

/-! ### is a goal met by a state -/
set_option maxHeartbeats 800000 in
theorem cellMet_any (x y : Int) (u : St) (w : World) : Calls Tryd.prog 165 #[.agg #[.int .i64 x, .int .i64 y], St.v u] w fun e w' => e = .returned (.bool (decide (u.x = x) && decide (u.y = y))) ∧ Below w.heap.size w w' := by
  by_cases h : u.x = x
  · have e1 : (u.x == x) = true := by simp [h]
    have H := hide (decide_eq_true h)
    clear h
    by_cases h2 : u.y = y
    · have e2 : (u.y == y) = true := by simp [h2]
      have H2 := hide (decide_eq_true h2)
      clear h2
      go_enter Tryd.func165, Tryd.ntmps165
      go_wp2
      go_returns
      exact ⟨ret_bool (by rw [H.out, H2.out]; rfl), by go_grown⟩
    · have e2 : (u.y == y) = false := by simp [h2]
      have H2 := hide (decide_eq_false h2)
      clear h2
      go_enter Tryd.func165, Tryd.ntmps165
      go_wp2
      go_returns
      exact ⟨ret_bool (by rw [H.out, H2.out]; rfl), by go_grown⟩
  · have e1 : (u.x == x) = false := by simp [h]
    have H := hide (decide_eq_false h)
    clear h
    go_enter Tryd.func165, Tryd.ntmps165
    go_wp2
    go_returns
    exact ⟨ret_bool (by rw [H.out]; rfl), by go_grown⟩
set_option maxHeartbeats 800000 in
theorem topMet_any (t : Int) (u : St) (w : World) : Calls Tryd.prog 167 #[.int .i64 t, St.v u] w fun e w' => e = .returned (.bool (decide (u.d.t = t))) ∧ Below w.heap.size w w' := by
  by_cases h : u.d.t = t
  · have e1 : (u.d.t == t) = true := by simp [h]
    have H := hide (decide_eq_true h)
    clear h
    go_enter Tryd.func167, Tryd.ntmps167
    go_wp2
    go_returns
    exact ⟨ret_bool (by rw [H.out]), by go_grown⟩
  · have e1 : (u.d.t == t) = false := by simp [h]
    have H := hide (decide_eq_false h)
    clear h
    go_enter Tryd.func167, Tryd.ntmps167
    go_wp2
    go_returns
    exact ⟨ret_bool (by rw [H.out]), by go_grown⟩
/-- Is a state as a puzzle asks? -/
def metP (x y t : Int) (u : St) : Bool := (decide (u.x = x) && decide (u.y = y)) && decide (u.d.t = t)
set_option maxHeartbeats 1600000 in
theorem agreeS_any (x y t : Int) (g : Nat) (u : St) (w : World) (hg : GoalsAt w g x y t) :
    Calls Tryd.prog 40 #[.slice (some ⟨g, 0, none⟩) 2 2, .func (.methodOf 61 "loop.example/g01207/impl.isMetBy") #[] #[], St.v u] w fun e w' => e = .returned (.bool (metP x y t u)) ∧ Below w.heap.size w w' := by
  have HC := hide (cellMet_any x y u)
  have HT := hide (topMet_any t u)
  have HG := hide hg
  have m1 : ∀ wx : World, (method 203 99 (.agg #[.int .i64 x, .int .i64 y]) "loop.example/g01207/impl.isMetBy").run Tryd.prog wx = .ok (165, .agg #[.int .i64 x, .int .i64 y]) wx := fun _ => by kernel_rfl
  have m2 : ∀ wx : World, (method 203 100 (.int .i64 t) "loop.example/g01207/impl.isMetBy").run Tryd.prog wx = .ok (167, .int .i64 t) wx := fun _ => by kernel_rfl
  clear hg
  obtain ⟨fl, hfl⟩ : ∃ b, b = (decide (u.x = x) && decide (u.y = y)) := ⟨_, rfl⟩
  obtain ⟨tp, htp⟩ : ∃ b, b = decide (u.d.t = t) := ⟨_, rfl⟩
  have HM := hide (show metP x y t u = (fl && tp) from by rw [hfl, htp]; rfl)
  rw [← hfl] at HC
  rw [← htp] at HT
  rw [HM.out]
  clear hfl htp HM
  have S0 : IsS (w.alloc (.cells #[.int .i64 u.x, .int .i64 u.y, .int .i64 u.d.t, .int .i64 u.d.n, .int .i64 u.d.e, .int .i64 u.d.s, .int .i64 u.d.w, .int .i64 u.d.b] 32)) w.heap.size u 32 := IsS.new
  have q0 : Below w.heap.size w (w.alloc (.cells #[.int .i64 u.x, .int .i64 u.y, .int .i64 u.d.t, .int .i64 u.d.n, .int .i64 u.d.e, .int .i64 u.d.s, .int .i64 u.d.w, .int .i64 u.d.b] 32)) := by go_grown
  have HI := hide (show Below w.heap.size w (w.alloc (.cells #[.int .i64 u.x, .int .i64 u.y, .int .i64 u.d.t, .int .i64 u.d.n, .int .i64 u.d.e, .int .i64 u.d.s, .int .i64 u.d.w, .int .i64 u.d.b] 32)) ∧ IsS (w.alloc (.cells #[.int .i64 u.x, .int .i64 u.y, .int .i64 u.d.t, .int .i64 u.d.n, .int .i64 u.d.e, .int .i64 u.d.s, .int .i64 u.d.w, .int .i64 u.d.b] 32)) w.heap.size u 32 from ⟨q0, S0⟩)
  clear S0 q0
  go_enter Tryd.func40, Tryd.ntmps40
  go_wp2
  go_loopw [11] (fun i wr => ∃ k : Nat, i = .int .i64 (k : Int) ∧ ((k = 0) ∨ (k = 1 ∧ fl = true) ∨ (k = 2 ∧ fl = true ∧ tp = true)) ∧ Below w.heap.size w wr ∧ IsS wr w.heap.size u 32) (fun i _ => 2 - (intOf i).toNat)
  case atStart => exact ⟨0, rfl, .inl rfl, HI.out⟩
  case round =>
    obtain ⟨k, rfl, hk, hB, hS⟩ := hrel
    obtain ⟨lg, g0, g1⟩ := (goalsAt_to (w0 := w) hB HG.out rfl).cells
    have HB := hide hB
    have HS := hide hS
    obtain ⟨l0, ⟨a0, a1, a2, a3, a4, a5, a6, a7⟩, -⟩ := hS.all
    clear hB hS HI
    rcases hk with rfl | ⟨rfl, h1⟩ | ⟨rfl, h1, h2⟩
    · go_wp2_with fail
      refine (HC.out _).mono ?_
      rintro e w1 ⟨rfl, hb1⟩
      have HB1 := hide (below_to hb1 HB.out HB.out.size rfl rfl rfl rfl)
      have HS1 := hide (isS_to hb1 HS.out rfl)
      clear hb1 g0 g1 HB HS l0 a0 a1 a2 a3 a4 a5 a6 a7
      cases fl with
      | false =>
        go_wp2
        go_returns
        exact ⟨rfl, HB1.out⟩
      | true =>
        go_wp2
        go_roundw
        case rel => exact ⟨1, by go_num, .inr (.inl ⟨rfl, by simp⟩), HB1.out, HS1.out⟩
        case measure => simp [intOf]
    · subst h1
      go_wp2_with fail
      refine (HT.out _).mono ?_
      rintro e w1 ⟨rfl, hb1⟩
      have HB1 := hide (below_to hb1 HB.out HB.out.size rfl rfl rfl rfl)
      have HS1 := hide (isS_to hb1 HS.out rfl)
      clear hb1 g0 g1 HB HS l0 a0 a1 a2 a3 a4 a5 a6 a7
      cases tp with
      | false =>
        go_wp2
        go_returns
        exact ⟨rfl, HB1.out⟩
      | true =>
        go_wp2
        go_roundw
        case rel => exact ⟨2, by go_num, .inr (.inr ⟨rfl, by simp, by simp⟩), HB1.out, HS1.out⟩
        case measure => simp [intOf]
    · subst h1 h2
      go_wp2
      go_returns
      exact ⟨rfl, HB.out⟩
end Go.Proofs.YtgehcjmhgfhkdaaDoor
