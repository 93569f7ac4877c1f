/- Dice together: the plain test, and the model's contracts (myAt, myGood, myAsked). Dice together: the program's areTogether, rowsUnderDice, AreDice. -/
import Derived.Test.YtdndegonpdakkaaDoorDiceT
import Derived.Test.YtdndegonpdakkaaDoorTake
import Derived.Test.YtdndegonpdakkaaDoorAsk
import Derived.Test.YtdndegonpdakkaaDoorRowsOf
namespace Go.Proofs.YtdndegonpdakkaaDoor
set_option maxRecDepth 100000
set_option linter.all false
open Go.RowKit
attribute [local go_sem ↓] Go.wp_at_zero Go.wp_at_succ

/-- A state is in a cell; some state is. -/
def inCell (s : St) (x y : Int) : Bool := decide (s.x = x) && decide (s.y = y)
def inAny (L : List St) (x y : Int) : Bool := L.any (fun t => inCell t x y)
theorem inAny_snoc {L : List St} {k : Nat} {s : St} (h : L[k]? = some s) (x y : Int) : inAny (L.take (k + 1)) x y = (inAny (L.take k) x y || inCell s x y) := by
  unfold inAny
  rw [List.take_add_one, h]
  simp
theorem inAny_yes {L : List St} {k : Nat} {s : St} (h : L[k]? = some s) {x y : Int} (hc : inCell s x y = true) : inAny L x y = true := by
  unfold inAny
  rw [List.any_eq_true]
  exact ⟨s, List.mem_of_getElem? h, hc⟩
/-- The i-th of some states is on the board, and in no cell of an earlier one. -/
def okAt (l : List UInt8) (L : List St) (i : Nat) : Bool := match L[i]? with
  | some s => stL l s && !inAny (L.take i) s.x s.y
  | none => true
def togK (l : List UInt8) (L : List St) (k : Nat) : Bool := (List.range k).all (okAt l L)
theorem togK_succ (l : List UInt8) (L : List St) (k : Nat) : togK l L (k + 1) = (togK l L k && okAt l L k) := by simp [togK, List.range_succ]
theorem togK_no {l : List UInt8} {L : List St} {j k : Nat} (h : okAt l L j = false) (hj : j < k) : togK l L k = false := by
  unfold togK
  rw [List.all_eq_false]
  exact ⟨j, by simpa using hj, by simp [h]⟩
/-- Dice together. -/
def tog (l : List UInt8) (L : List St) : Bool := decide (1 ≤ L.length) && (decide (L.length ≤ 3) && togK l L L.length)
theorem tog_few {l : List UInt8} {L : List St} (h : ¬ 1 ≤ L.length) : tog l L = false := by simp [tog, h]
theorem tog_many {l : List UInt8} {L : List St} (h : ¬ L.length ≤ 3) : tog l L = false := by simp [tog, h]
theorem tog_all {l : List UInt8} {L : List St} (h1 : 1 ≤ L.length) (h3 : L.length ≤ 3) : tog l L = togK l L L.length := by simp [tog, h1, h3]
theorem okAt_some {l : List UInt8} {L : List St} {i : Nat} {s : St} (h : L[i]? = some s) : okAt l L i = (stL l s && !inAny (L.take i) s.x s.y) := by
  unfold okAt
  rw [h]

/-- What myAt hands back. -/
def MyAt (L : List St) (x y : Int) (w : World) (e : Ending) (w' : World) : Prop := (∃ r : Int, e = .returned (.int .i64 r) ∧ (inAny L x y = true → 0 ≤ r) ∧ (inAny L x y = false → r < 0)) ∧ Below w.heap.size w w'
set_option maxHeartbeats 1600000 in
theorem myAt_any (L : List St) (n g cap : Nat) (x y : Int) (w : World) (hN : n = L.length) (hn : n ≤ 1048576) (hA : StAt w g 0 L) : Calls Tryd.prog 60 #[.slice (some ⟨g, 0, none⟩) n cap, .int .i64 x, .int .i64 y] w (MyAt L x y w) := by
  have HA := hide hA
  have HN := hide hN
  clear hA hN
  go_enter Tryd.func60, Tryd.ntmps60
  go_wp2
  go_loopw [11] (fun i wr => ∃ k : Nat, k ≤ n ∧ i = .int .i64 (k : Int) ∧ inAny (L.take k) x y = false ∧ Below w.heap.size w wr) (fun i _ => n - (intOf i).toNat)
  case atStart => exact ⟨0, Nat.zero_le _, rfl, rfl, Below.refl _ _⟩
  case round =>
    obtain ⟨k, hk, rfl, hno, q⟩ := hrel
    have HNO := hide hno
    clear hno
    by_cases hlt : k < n
    · have hx : L[k]? = some (L[k]'(by have := HN.out; omega)) := List.getElem?_eq_getElem (by have := HN.out; omega)
      generalize L[k]'(by have := HN.out; omega) = u at hx
      obtain ⟨a0, a1, a2, a3, a4, a5, a6, a7⟩ := (stAt_to q HA.out rfl).cells0 hx
      have hki : (k : Int) < (n : Int) := by omega
      have HX := hide hx
      clear hx
      go_upto_region 4 with (fail)
      have S1 := IsS.new (w := wr) (s := u) (ty := 57)
      have q1 := q.alloc q.size (.cells #[.int .i64 u.x, .int .i64 u.y, .int .i64 u.d.t, .int .i64 u.d.n, .int .i64 u.d.e, .int .i64 u.d.s, .int .i64 u.d.w, .int .i64 u.d.b] 57)
      obtain ⟨l0, ⟨c0, c1, -, -, -, -, -, -⟩, -⟩ := S1.all
      clear a0 a1 a2 a3 a4 a5 a6 a7
      by_cases h1 : u.x = x
      · have e1 : (u.x == x) = true := by simpa using h1
        by_cases h2 : u.y = y
        · have e2 : (u.y == y) = true := by simpa using h2
          have HF := hide (inAny_yes HX.out (x := x) (y := y) (by unfold inCell; rw [decide_eq_true h1, decide_eq_true h2]; rfl))
          clear h1 h2
          go_wp2
          go_returns
          exact ⟨⟨_, rfl, fun _ => by omega, fun h => by rw [HF.out] at h; cases h⟩, q1⟩
        · have e2 : (u.y == y) = false := by simpa using h2
          have HF := hide (show inAny (L.take (k + 1)) x y = false from by rw [inAny_snoc HX.out, HNO.out]; unfold inCell; rw [decide_eq_false h2]; simp)
          clear h1 h2
          go_wp2
          go_roundw
          case rel => exact ⟨k + 1, by omega, by go_num, HF.out, q1⟩
          case measure => simp [intOf] <;> omega
      · have e1 : (u.x == x) = false := by simpa using h1
        have HF := hide (show inAny (L.take (k + 1)) x y = false from by rw [inAny_snoc HX.out, HNO.out]; unfold inCell; rw [decide_eq_false h1]; simp)
        clear h1
        go_wp2
        go_roundw
        case rel => exact ⟨k + 1, by omega, by go_num, HF.out, q1⟩
        case measure => simp [intOf] <;> omega
    · obtain rfl : k = n := by omega
      have HF := hide (show inAny L x y = false from by
        have := HNO.out
        rw [HN.out, List.take_length] at this
        exact this)
      go_wp2
      go_returns
      refine ⟨⟨_, rfl, (fun h => ?_), (fun _ => by omega)⟩, q⟩
      rw [HF.out] at h
      cases h
theorem myAt_yes (L : List St) (n g cap : Nat) (x y : Int) (w : World) (hN : n = L.length) (hn : n ≤ 1048576) (hA : StAt w g 0 L) (h : inAny L x y = true) : Calls Tryd.prog 60 #[.slice (some ⟨g, 0, none⟩) n cap, .int .i64 x, .int .i64 y] w fun e w' => ∃ r : Int, e = .returned (.int .i64 r) ∧ 0 ≤ r ∧ Below w.heap.size w w' :=
  (myAt_any L n g cap x y w hN hn hA).mono fun e w' ⟨⟨r, h1, h2, _⟩, hb⟩ => ⟨r, h1, h2 h, hb⟩
theorem myAt_no (L : List St) (n g cap : Nat) (x y : Int) (w : World) (hN : n = L.length) (hn : n ≤ 1048576) (hA : StAt w g 0 L) (h : inAny L x y = false) : Calls Tryd.prog 60 #[.slice (some ⟨g, 0, none⟩) n cap, .int .i64 x, .int .i64 y] w fun e w' => ∃ r : Int, e = .returned (.int .i64 r) ∧ r < 0 ∧ Below w.heap.size w w' :=
  (myAt_any L n g cap x y w hN hn hA).mono fun e w' ⟨⟨r, h1, _, h2⟩, hb⟩ => ⟨r, h1, h2 h, hb⟩
end Go.Proofs.YtdndegonpdakkaaDoor
namespace Go.Proofs.YtdndegonpdakkaaDoor
set_option maxRecDepth 100000
set_option linter.all false
open Go.RowKit
attribute [local go_sem ↓] Go.wp_at_zero Go.wp_at_succ

theorem inCellOf_any (s : St) (w : World) : Calls Tryd.prog 65 #[St.v s] w fun e w' => ∃ B, e = .returned (.func (.func 83) #[] #[.pointer (some ⟨B, 0, none⟩)]) ∧ IsS w' B s 57 ∧ Below w.heap.size w w' := by
  have S := IsS.new (w := w) (s := s) (ty := 57)
  go_enter Tryd.func65, Tryd.ntmps65
  go_wp2
  go_returns
  exact ⟨_, rfl, S, (Below.refl _ _).alloc (Nat.le_refl _) _⟩
set_option maxHeartbeats 800000 in
theorem inCell1_any (t s : St) (B : Nat) (w : World) (hB : IsS w B s 57) : Calls Tryd.prog 83 #[St.v t, .pointer (some ⟨B, 0, none⟩)] w fun e w' => e = .returned (.bool (inCell t s.x s.y)) ∧ Below w.heap.size w w' := by
  have S := hB.alloc (.cells #[.int .i64 t.x, .int .i64 t.y, .int .i64 t.d.t, .int .i64 t.d.n, .int .i64 t.d.e, .int .i64 t.d.s, .int .i64 t.d.w, .int .i64 t.d.b] 57)
  have T := IsS.new (w := w) (s := t) (ty := 57)
  have q : Below w.heap.size w (w.alloc (.cells #[.int .i64 t.x, .int .i64 t.y, .int .i64 t.d.t, .int .i64 t.d.n, .int .i64 t.d.e, .int .i64 t.d.s, .int .i64 t.d.w, .int .i64 t.d.b] 57)) := (Below.refl _ _).alloc (Nat.le_refl _) _
  have hz := hB.lt
  generalize hW : w.alloc (.cells #[.int .i64 t.x, .int .i64 t.y, .int .i64 t.d.t, .int .i64 t.d.n, .int .i64 t.d.e, .int .i64 t.d.s, .int .i64 t.d.w, .int .i64 t.d.b] 57) = W1 at S T q
  have HW := hide hW
  obtain ⟨_, ⟨c0, c1, -, -, -, -, -, -⟩, -⟩ := S.all
  obtain ⟨_, ⟨d0, d1, -, -, -, -, -, -⟩, -⟩ := T.all
  clear hW hB S T
  by_cases h1 : t.x = s.x
  · have e1 : (t.x == s.x) = true := by simpa using h1
    by_cases h2 : t.y = s.y
    · have e2 : (t.y == s.y) = true := by simpa using h2
      have HF := hide (show inCell t s.x s.y = true from by unfold inCell; rw [decide_eq_true h1, decide_eq_true h2]; rfl)
      clear h1 h2
      go_enter Tryd.func83, Tryd.ntmps83
      go_upto_region 1 with (fail)
      rw [HW.out]
      go_wp2
      go_returns
      exact ⟨ret_bool HF.out.symm, q⟩
    · have e2 : (t.y == s.y) = false := by simpa using h2
      have HF := hide (show inCell t s.x s.y = false from by unfold inCell; rw [decide_eq_false h2]; simp)
      clear h1 h2
      go_enter Tryd.func83, Tryd.ntmps83
      go_upto_region 1 with (fail)
      rw [HW.out]
      go_wp2
      go_returns
      exact ⟨ret_bool HF.out.symm, q⟩
  · have e1 : (t.x == s.x) = false := by simpa using h1
    have HF := hide (show inCell t s.x s.y = false from by unfold inCell; rw [decide_eq_false h1]; simp)
    clear h1
    go_enter Tryd.func83, Tryd.ntmps83
    go_upto_region 1 with (fail)
    rw [HW.out]
    go_wp2
    go_returns
    exact ⟨ret_bool HF.out.symm, q⟩

/-- What IndexFunc hands back. -/
def IdxIn (L : List St) (x y : Int) (w : World) (e : Ending) (w' : World) : Prop := (∃ r : Int, e = .returned (.int .i64 r) ∧ decide (0 ≤ r) = inAny L x y) ∧ Below w.heap.size w w'
set_option maxHeartbeats 1600000 in
theorem idxIn_any (L : List St) (n g cap B : Nat) (s : St) (w : World) (hN : n = L.length) (hn : n ≤ 1048576) (hA : StAt w g 0 L) (hB : IsS w B s 57) : Calls Tryd.prog 82 #[.slice (some ⟨g, 0, none⟩) n cap, .func (.func 83) #[] #[.pointer (some ⟨B, 0, none⟩)]] w (IdxIn L s.x s.y w) := by
  have HA := hide hA
  have HB := hide hB
  have HN := hide hN
  clear hA hN hB
  go_enter Tryd.func82, Tryd.ntmps82
  go_wp2
  go_loopw [8, 5] (fun i _ wr => ∃ k : Nat, k ≤ n ∧ i = .int .i64 (k : Int) ∧ inAny (L.take k) s.x s.y = false ∧ Below w.heap.size w wr) (fun i _ _ => n - (intOf i).toNat)
  case atStart => exact ⟨0, Nat.zero_le _, rfl, rfl, Below.refl _ _⟩
  case round =>
    obtain ⟨k, hk, rfl, hno, q⟩ := hrel
    have HNO := hide hno
    clear hno
    by_cases hlt : k < n
    · have hx : L[k]? = some (L[k]'(by have := HN.out; omega)) := List.getElem?_eq_getElem (by have := HN.out; omega)
      generalize L[k]'(by have := HN.out; omega) = u at hx
      obtain ⟨a0, a1, a2, a3, a4, a5, a6, a7⟩ := (stAt_to q HA.out rfl).cells0 hx
      have hki : (k : Int) < (n : Int) := by omega
      have HX := hide hx
      have HC := hide (inCell1_any u s B wr (isS_to q HB.out rfl))
      clear hx
      cases hc : inCell u s.x s.y
      · have HF := hide (show inAny (L.take (k + 1)) s.x s.y = false from by rw [inAny_snoc HX.out, HNO.out, hc]; rfl)
        have HCC := hide hc
        clear hc
        go_wp2_with (go_at_call 83; refine HC.out.mono ?_; rintro e w2 ⟨rfl, hb2⟩; rw [HCC.out])
        have q2 := below_to hb2 q q.size rfl rfl rfl rfl
        clear hb2
        go_roundw
        case rel => exact ⟨k + 1, by omega, by go_num, HF.out, q2⟩
        case measure => simp [intOf] <;> omega
      · have HF := hide (inAny_yes HX.out hc)
        have HCC := hide hc
        clear hc
        go_wp2_with (go_at_call 83; refine HC.out.mono ?_; rintro e w2 ⟨rfl, hb2⟩; rw [HCC.out])
        have q2 := below_to hb2 q q.size rfl rfl rfl rfl
        clear hb2
        go_returns
        exact ⟨⟨_, rfl, by rw [HF.out]; exact decide_eq_true (by omega)⟩, q2⟩
    · obtain rfl : k = n := by omega
      have HF := hide (show inAny L s.x s.y = false from by
        have := HNO.out
        rw [HN.out, List.take_length] at this
        exact this)
      go_wp2
      go_returns
      exact ⟨⟨_, rfl, by rw [HF.out]; rfl⟩, q⟩
theorem hasIn_any (L : List St) (n g cap B : Nat) (s : St) (w : World) (hN : n = L.length) (hn : n ≤ 1048576) (hA : StAt w g 0 L) (hB : IsS w B s 57) : Calls Tryd.prog 64 #[.slice (some ⟨g, 0, none⟩) n cap, .func (.func 83) #[] #[.pointer (some ⟨B, 0, none⟩)]] w fun e w' => e = .returned (.bool (inAny L s.x s.y)) ∧ Below w.heap.size w w' := by
  have HC := hide (idxIn_any L n g cap B s w hN hn hA hB)
  clear hN hn hA hB
  go_enter Tryd.func64, Tryd.ntmps64
  go_wp2_with fail
  refine HC.out.mono ?_
  rintro e w2 ⟨⟨r, rfl, hr⟩, hb2⟩
  have HR := hide hr
  clear hr
  go_wp2
  go_returns
  exact ⟨ret_bool HR.out, hb2⟩

end Go.Proofs.YtdndegonpdakkaaDoor
