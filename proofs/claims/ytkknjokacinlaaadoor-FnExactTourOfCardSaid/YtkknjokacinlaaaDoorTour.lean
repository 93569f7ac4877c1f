/- Plain tours: words over labels; a label is taken away where the die comes to it. No Go in sight. -/
import Derived.Test.YtkknjokacinlaaaDoorBoard
import Derived.Test.YtkknjokacinlaaaDoorMatchI
import Derived.Test.YtkknjokacinlaaaDoorRolls
namespace Go.Proofs.YtkknjokacinlaaaDoor
set_option maxRecDepth 100000
set_option linter.all false
open Go

/-- Is the label at its cell the face on top? -/
def labAtB (L : List UInt8) (s : St) : Bool := labB (cellI (splitP L) s.x s.y) s.d.t
/-- A text with a sign at the cell of a state. -/
def putC (W : Nat) (L : List UInt8) (s : St) (c : UInt8) : List UInt8 := L.set (s.y.toNat * (W + 1) + s.x.toNat) c
def tourK (T : List UInt8 → St → List UInt8 → List (List UInt8)) (W : Nat) (L : List UInt8) (s : St) (u : List UInt8) (k : Nat) : List (List UInt8) :=
  if labAtB L (rollT s (k : Int)) = true then T (putC W L (rollT s (k : Int)) 46) (rollT s (k : Int)) (u ++ [dirC k]) else []
/-- All tours over n labels that go on from a state behind the word u, in the order of directions. -/
def tourT (W : Nat) : Nat → List UInt8 → St → List UInt8 → List (List UInt8)
  | 0, _, _, u => [u]
  | n + 1, L, s, u => tourK (tourT W n) W L s u 0 ++ (tourK (tourT W n) W L s u 1 ++ (tourK (tourT W n) W L s u 2 ++ tourK (tourT W n) W L s u 3))
/-- Those that go on in direction j or a later one. -/
def tourG (W : Nat) (n : Nat) (L : List UInt8) (s : St) (u : List UInt8) (j : Nat) : List (List UInt8) :=
  match n with
  | 0 => []
  | n + 1 =>
    if j = 0 then tourK (tourT W n) W L s u 0 ++ (tourK (tourT W n) W L s u 1 ++ (tourK (tourT W n) W L s u 2 ++ tourK (tourT W n) W L s u 3))
    else if j = 1 then tourK (tourT W n) W L s u 1 ++ (tourK (tourT W n) W L s u 2 ++ tourK (tourT W n) W L s u 3)
    else if j = 2 then tourK (tourT W n) W L s u 2 ++ tourK (tourT W n) W L s u 3
    else if j = 3 then tourK (tourT W n) W L s u 3 else []
theorem tourT_zero (W : Nat) (L : List UInt8) (s : St) (u : List UInt8) : tourT W 0 L s u = [u] := rfl
theorem tourT_succ (W n : Nat) (L : List UInt8) (s : St) (u : List UInt8) : tourT W (n + 1) L s u = tourG W (n + 1) L s u 0 := rfl
theorem tourG_end (W n : Nat) (L : List UInt8) (s : St) (u : List UInt8) : tourG W n L s u 4 = [] := by cases n <;> rfl
theorem tourG_next (W n : Nat) (L : List UInt8) (s : St) (u : List UInt8) (j : Nat) (hj : j < 4) : tourG W (n + 1) L s u j = tourK (tourT W n) W L s u j ++ tourG W (n + 1) L s u (j + 1) := by
  match j, hj with
  | 0, _ => rfl
  | 1, _ => rfl
  | 2, _ => rfl
  | 3, _ => simp [tourG]
theorem tourG_hit (W n : Nat) (L : List UInt8) (s : St) (u : List UInt8) (j : Nat) (hj : j < 4) (h : labAtB L (rollT s (j : Int)) = true) :
    tourG W (n + 1) L s u j = tourT W n (putC W L (rollT s (j : Int)) 46) (rollT s (j : Int)) (u ++ [dirC j]) ++ tourG W (n + 1) L s u (j + 1) := by
  rw [tourG_next W n L s u j hj]
  unfold tourK
  rw [if_pos h]
theorem tourG_miss (W n : Nat) (L : List UInt8) (s : St) (u : List UInt8) (j : Nat) (hj : j < 4) (h : labAtB L (rollT s (j : Int)) = false) :
    tourG W n L s u j = tourG W n L s u (j + 1) := by
  cases n with
  | zero => rfl
  | succ n =>
    rw [tourG_next W n L s u j hj]
    unfold tourK
    rw [if_neg (by rw [h]; decide)]
    rfl
theorem tourT_len (W : Nat) : ∀ (n : Nat) (L : List UInt8) (s : St) (u : List UInt8), (tourT W n L s u).length ≤ 4 ^ n
  | 0, _, _, _ => by simp [tourT]
  | n + 1, L, s, u => by
    have h : ∀ k, (tourK (tourT W n) W L s u k).length ≤ 4 ^ n := by
      intro k
      unfold tourK
      split
      · exact tourT_len W n _ _ _
      · simp
    have h0 := h 0
    have h1 := h 1
    have h2 := h 2
    have h3 := h 3
    rw [tourT]
    simp only [List.length_append]
    rw [Nat.pow_succ]
    omega
theorem tourG_len (W : Nat) (n : Nat) (L : List UInt8) (s : St) (u : List UInt8) (j : Nat) (hj : j ≤ 4) : (tourG W n L s u j).length ≤ 4 ^ n := by
  have key : ∀ i, i ≤ 4 → (tourG W n L s u i).length ≤ (tourG W n L s u 0).length := by
    intro i hi
    cases n with
    | zero => simp [tourG]
    | succ n =>
      have e0 := tourG_next W n L s u 0 (by omega)
      have e1 := tourG_next W n L s u 1 (by omega)
      have e2 := tourG_next W n L s u 2 (by omega)
      have e3 := tourG_next W n L s u 3 (by omega)
      have l0 := congrArg List.length e0
      have l1 := congrArg List.length e1
      have l2 := congrArg List.length e2
      have l3 := congrArg List.length e3
      simp only [List.length_append, Nat.zero_add, Nat.reduceAdd] at l0 l1 l2 l3
      match i, hi with
      | 0, _ => omega
      | 1, _ => omega
      | 2, _ => omega
      | 3, _ => omega
      | 4, _ => omega
  have h0 : (tourG W n L s u 0).length ≤ 4 ^ n := by
    cases n with
    | zero => simp [tourG]
    | succ n => exact tourT_len W (n + 1) L s u
  have := key j hj
  omega

theorem cnt_set (L : List UInt8) (p : Nat) (c d : UInt8) (h : L[p]? = some d) : cntD (L.set p c) + (if isDig d then 1 else 0) = cntD L + (if isDig c then 1 else 0) := by
  unfold cntD
  induction L generalizing p with
  | nil => simp at h
  | cons x L ih =>
    cases p with
    | zero =>
      simp only [List.getElem?_cons_zero, Option.some.injEq] at h
      subst h
      rw [List.set_cons_zero, List.countP_cons, List.countP_cons]
      omega
    | succ p =>
      rw [List.getElem?_cons_succ] at h
      have := ih p h
      rw [List.set_cons_succ, List.countP_cons, List.countP_cons]
      omega
/-- Where a label is met: on the board, and the label is that of the face. -/
theorem lab_in {L : List UInt8} {W H : Nat} (he : Even L W) (hH : (splitP L).length = H) {t : St} (h0 : 0 ≤ t.d.t) (h9 : t.d.t ≤ 9) (h : labAtB L t = true) :
    ∃ x y : Nat, t.x = (x : Int) ∧ t.y = (y : Int) ∧ x < W ∧ y < H ∧ L[y * (W + 1) + x]? = some (lab t.d.t) := by
  cases hin : inC W H t.x t.y
  · have := cellI_outC he hH hin
    unfold labAtB labB at h
    rw [this, decide_eq_true_eq] at h
    have e : ((35 : UInt8).toNat : Int) = 35 := rfl
    omega
  · unfold inC at hin
    obtain ⟨y0, y1, x0, x1⟩ := of_decide_eq_true hin
    obtain ⟨y, hy⟩ : ∃ y : Nat, t.y = (y : Int) := ⟨t.y.toNat, by omega⟩
    obtain ⟨x, hx⟩ : ∃ x : Nat, t.x = (x : Int) := ⟨t.x.toNat, by omega⟩
    obtain ⟨hc, -⟩ := even_cell he (k := y) (j := x) (by omega) (by omega)
    refine ⟨x, y, hx, hy, by omega, by omega, ?_⟩
    rw [hc]
    unfold labAtB labB at h
    rw [decide_eq_true_eq, hx, hy] at h
    have e : cellI (splitP L) (x : Int) (y : Int) = lab t.d.t := by
      apply UInt8.toNat_inj.1
      have := lab_nat h0 h9
      omega
    rw [e]
theorem put_of {W : Nat} {L : List UInt8} {t : St} {x y : Nat} (hx : t.x = (x : Int)) (hy : t.y = (y : Int)) (c : UInt8) : putC W L t c = L.set (y * (W + 1) + x) c := by
  unfold putC
  rw [hx, hy]
  rfl
theorem put_len (W : Nat) (L : List UInt8) (t : St) (c : UInt8) : (putC W L t c).length = L.length := by unfold putC; rw [List.length_set]
/-- A label that is taken away: one less. -/
theorem lab_take {L : List UInt8} {W H : Nat} (he : Even L W) (hH : (splitP L).length = H) {t : St} (h0 : 0 ≤ t.d.t) (h9 : t.d.t ≤ 9) (h : labAtB L t = true) :
    Even (putC W L t 46) W ∧ (splitP (putC W L t 46)).length = H ∧ cntD (putC W L t 46) + 1 = cntD L ∧ putC W (putC W L t 46) t (lab t.d.t) = L := by
  obtain ⟨x, y, hx, hy, hxW, hyH, hc⟩ := lab_in he hH h0 h9 h
  rw [put_of hx hy, put_of hx hy]
  obtain ⟨e1, e2, -⟩ := put_even he (y := y) (x := x) (by omega) hxW 46 (by decide)
  refine ⟨e1, by omega, ?_, ?_⟩
  · have := cnt_set L _ 46 _ hc
    rw [lab_dig h0 h9] at this
    have e : isDig 46 = false := by decide
    rw [e] at this
    simpa using this
  · rw [List.set_set]
    obtain ⟨hp, hg⟩ := List.getElem?_eq_some_iff.1 hc
    rw [← hg]
    exact List.set_getElem_self hp
/-- Without labels none is met. -/
theorem no_lab {L : List UInt8} {W H : Nat} (he : Even L W) (hH : (splitP L).length = H) (h0 : cntD L = 0) {t : St} (ht : 0 ≤ t.d.t) (h9 : t.d.t ≤ 9) : labAtB L t = false := by
  cases h : labAtB L t
  · rfl
  · have := (lab_take he hH ht h9 h).2.2.1
    omega

/-- Rolled back. -/
theorem roll_back (s : St) (k : Nat) (hk : k < 4) : rollT (rollT s (k : Int)) (((k + 2) % 4 : Nat) : Int) = s := by
  obtain ⟨x, y, ⟨t, n, e, so, we, b⟩⟩ := s
  match k, hk with
  | 0, _ => simp [rollT, nextX, nextY, rollK, rollN, rollS]
  | 1, _ => simp [rollT, nextX, nextY, rollK, rollE, rollW]
  | 2, _ => simp [rollT, nextX, nextY, rollK, rollN, rollS]
  | 3, _ => simp [rollT, nextX, nextY, rollK, rollE, rollW]
theorem dirC_inj {j k : Nat} (hj : j < 4) (hk : k < 4) (h : dirC j = dirC k) : j = k := by
  have h1 := dirC_ix j hj
  have h2 := dirC_ix k hk
  rw [h, h2] at h1
  omega
theorem roll_near (s : St) (k : Nat) : s.x - 1 ≤ (rollT s (k : Int)).x ∧ (rollT s (k : Int)).x ≤ s.x + 1 ∧ s.y - 1 ≤ (rollT s (k : Int)).y ∧ (rollT s (k : Int)).y ≤ s.y + 1 := by
  show s.x - 1 ≤ nextX s.x _ ∧ nextX s.x _ ≤ s.x + 1 ∧ s.y - 1 ≤ nextY s.y _ ∧ nextY s.y _ ≤ s.y + 1
  unfold nextX nextY
  refine ⟨?_, ?_, ?_, ?_⟩ <;> (repeat' split) <;> omega
end Go.Proofs.YtkknjokacinlaaaDoor
