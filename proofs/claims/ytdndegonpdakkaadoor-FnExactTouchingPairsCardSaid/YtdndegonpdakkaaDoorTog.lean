/- Dice together: the plain test, and the model's contracts (myAt, myGood, myAsked). -/
import Derived.Test.YtdndegonpdakkaaDoorDiceT
import Derived.Test.YtdndegonpdakkaaDoorTake
import Derived.Test.YtdndegonpdakkaaDoorAsk
namespace Go.Proofs.YtdndegonpdakkaaDoor
set_option maxRecDepth 100000
set_option linter.all false
open Go.RowKit
attribute [local go_sem ↓] Go.wp_at_zero Go.wp_at_succ

/-- A state is in a cell; some state is. -/
def inCell (s : St) (x y : Int) : Bool := decide (s.x = x) && decide (s.y = y)
def inAny (L : List St) (x y : Int) : Bool := L.any (fun t => inCell t x y)
theorem inAny_snoc {L : List St} {k : Nat} {s : St} (h : L[k]? = some s) (x y : Int) : inAny (L.take (k + 1)) x y = (inAny (L.take k) x y || inCell s x y) := by
  unfold inAny
  rw [List.take_add_one, h]
  simp
theorem inAny_yes {L : List St} {k : Nat} {s : St} (h : L[k]? = some s) {x y : Int} (hc : inCell s x y = true) : inAny L x y = true := by
  unfold inAny
  rw [List.any_eq_true]
  exact ⟨s, List.mem_of_getElem? h, hc⟩
/-- The i-th of some states is on the board, and in no cell of an earlier one. -/
def okAt (l : List UInt8) (L : List St) (i : Nat) : Bool := match L[i]? with
  | some s => stL l s && !inAny (L.take i) s.x s.y
  | none => true
def togK (l : List UInt8) (L : List St) (k : Nat) : Bool := (List.range k).all (okAt l L)
theorem togK_succ (l : List UInt8) (L : List St) (k : Nat) : togK l L (k + 1) = (togK l L k && okAt l L k) := by simp [togK, List.range_succ]
theorem togK_no {l : List UInt8} {L : List St} {j k : Nat} (h : okAt l L j = false) (hj : j < k) : togK l L k = false := by
  unfold togK
  rw [List.all_eq_false]
  exact ⟨j, by simpa using hj, by simp [h]⟩
/-- Dice together. -/
def tog (l : List UInt8) (L : List St) : Bool := decide (1 ≤ L.length) && (decide (L.length ≤ 3) && togK l L L.length)
theorem tog_few {l : List UInt8} {L : List St} (h : ¬ 1 ≤ L.length) : tog l L = false := by simp [tog, h]
theorem tog_many {l : List UInt8} {L : List St} (h : ¬ L.length ≤ 3) : tog l L = false := by simp [tog, h]
theorem tog_all {l : List UInt8} {L : List St} (h1 : 1 ≤ L.length) (h3 : L.length ≤ 3) : tog l L = togK l L L.length := by simp [tog, h1, h3]
theorem okAt_some {l : List UInt8} {L : List St} {i : Nat} {s : St} (h : L[i]? = some s) : okAt l L i = (stL l s && !inAny (L.take i) s.x s.y) := by
  unfold okAt
  rw [h]

/-- What myAt hands back. -/
def MyAt (L : List St) (x y : Int) (w : World) (e : Ending) (w' : World) : Prop := (∃ r : Int, e = .returned (.int .i64 r) ∧ (inAny L x y = true → 0 ≤ r) ∧ (inAny L x y = false → r < 0)) ∧ Below w.heap.size w w'
set_option maxHeartbeats 1600000 in
theorem myAt_any (L : List St) (n g cap : Nat) (x y : Int) (w : World) (hN : n = L.length) (hn : n ≤ 1048576) (hA : StAt w g 0 L) : Calls Tryd.prog 60 #[.slice (some ⟨g, 0, none⟩) n cap, .int .i64 x, .int .i64 y] w (MyAt L x y w) := by
  have HA := hide hA
  have HN := hide hN
  clear hA hN
  go_enter Tryd.func60, Tryd.ntmps60
  go_wp2
  go_loopw [11] (fun i wr => ∃ k : Nat, k ≤ n ∧ i = .int .i64 (k : Int) ∧ inAny (L.take k) x y = false ∧ Below w.heap.size w wr) (fun i _ => n - (intOf i).toNat)
  case atStart => exact ⟨0, Nat.zero_le _, rfl, rfl, Below.refl _ _⟩
  case round =>
    obtain ⟨k, hk, rfl, hno, q⟩ := hrel
    have HNO := hide hno
    clear hno
    by_cases hlt : k < n
    · have hx : L[k]? = some (L[k]'(by have := HN.out; omega)) := List.getElem?_eq_getElem (by have := HN.out; omega)
      generalize L[k]'(by have := HN.out; omega) = u at hx
      obtain ⟨a0, a1, a2, a3, a4, a5, a6, a7⟩ := (stAt_to q HA.out rfl).cells0 hx
      have hki : (k : Int) < (n : Int) := by omega
      have HX := hide hx
      clear hx
      go_upto_region 4 with (fail)
      have S1 := IsS.new (w := wr) (s := u) (ty := 57)
      have q1 := q.alloc q.size (.cells #[.int .i64 u.x, .int .i64 u.y, .int .i64 u.d.t, .int .i64 u.d.n, .int .i64 u.d.e, .int .i64 u.d.s, .int .i64 u.d.w, .int .i64 u.d.b] 57)
      obtain ⟨l0, ⟨c0, c1, -, -, -, -, -, -⟩, -⟩ := S1.all
      clear a0 a1 a2 a3 a4 a5 a6 a7
      by_cases h1 : u.x = x
      · have e1 : (u.x == x) = true := by simpa using h1
        by_cases h2 : u.y = y
        · have e2 : (u.y == y) = true := by simpa using h2
          have HF := hide (inAny_yes HX.out (x := x) (y := y) (by unfold inCell; rw [decide_eq_true h1, decide_eq_true h2]; rfl))
          clear h1 h2
          go_wp2
          go_returns
          exact ⟨⟨_, rfl, fun _ => by omega, fun h => by rw [HF.out] at h; cases h⟩, q1⟩
        · have e2 : (u.y == y) = false := by simpa using h2
          have HF := hide (show inAny (L.take (k + 1)) x y = false from by rw [inAny_snoc HX.out, HNO.out]; unfold inCell; rw [decide_eq_false h2]; simp)
          clear h1 h2
          go_wp2
          go_roundw
          case rel => exact ⟨k + 1, by omega, by go_num, HF.out, q1⟩
          case measure => simp [intOf] <;> omega
      · have e1 : (u.x == x) = false := by simpa using h1
        have HF := hide (show inAny (L.take (k + 1)) x y = false from by rw [inAny_snoc HX.out, HNO.out]; unfold inCell; rw [decide_eq_false h1]; simp)
        clear h1
        go_wp2
        go_roundw
        case rel => exact ⟨k + 1, by omega, by go_num, HF.out, q1⟩
        case measure => simp [intOf] <;> omega
    · obtain rfl : k = n := by omega
      have HF := hide (show inAny L x y = false from by
        have := HNO.out
        rw [HN.out, List.take_length] at this
        exact this)
      go_wp2
      go_returns
      refine ⟨⟨_, rfl, (fun h => ?_), (fun _ => by omega)⟩, q⟩
      rw [HF.out] at h
      cases h
theorem myAt_yes (L : List St) (n g cap : Nat) (x y : Int) (w : World) (hN : n = L.length) (hn : n ≤ 1048576) (hA : StAt w g 0 L) (h : inAny L x y = true) : Calls Tryd.prog 60 #[.slice (some ⟨g, 0, none⟩) n cap, .int .i64 x, .int .i64 y] w fun e w' => ∃ r : Int, e = .returned (.int .i64 r) ∧ 0 ≤ r ∧ Below w.heap.size w w' :=
  (myAt_any L n g cap x y w hN hn hA).mono fun e w' ⟨⟨r, h1, h2, _⟩, hb⟩ => ⟨r, h1, h2 h, hb⟩
theorem myAt_no (L : List St) (n g cap : Nat) (x y : Int) (w : World) (hN : n = L.length) (hn : n ≤ 1048576) (hA : StAt w g 0 L) (h : inAny L x y = false) : Calls Tryd.prog 60 #[.slice (some ⟨g, 0, none⟩) n cap, .int .i64 x, .int .i64 y] w fun e w' => ∃ r : Int, e = .returned (.int .i64 r) ∧ r < 0 ∧ Below w.heap.size w w' :=
  (myAt_any L n g cap x y w hN hn hA).mono fun e w' ⟨⟨r, h1, _, h2⟩, hb⟩ => ⟨r, h1, h2 h, hb⟩
end Go.Proofs.YtdndegonpdakkaaDoor
