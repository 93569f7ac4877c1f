/- Plain mathematics of sixes: the reader of the model. -/
import Derived.Test.YtbfclnigjijkbaaNet
namespace Go.Proofs.Ytbfclnigjijkbaa
set_option maxRecDepth 100000
set_option linter.all false
open Go

def rowOkN (n : Nat) (r : List UInt8) : Bool := decide (r.length = n) && r.all okN
/-- Is a text read? -/
def isRd (l : List UInt8) : Bool := decide (l.length ≤ 41 ∧ 1 ≤ width l) && (splitP l).all (rowOkN (width l))
/-- The model's reader. -/
structure MachN where
  w : Nat
  h : Nat
  x : Nat
  cells : List UInt8
def MachN.step (m : MachN) (c : UInt8) : Option MachN :=
  if c = 47 then (if (0 < m.h ∧ m.x ≠ m.w) ∨ m.x = 0 then none else some ⟨m.x, m.h + 1, 0, m.cells⟩)
  else if okN c = true then some ⟨m.w, m.h, m.x + 1, m.cells ++ [c]⟩ else none
def MachN.run (m : MachN) : List UInt8 → Option MachN
  | [] => some m
  | c :: l => match m.step c with
    | none => none
    | some m' => m'.run l
theorem MachN.run_cons (m : MachN) (c : UInt8) (l : List UInt8) : m.run (c :: l) = (match m.step c with | none => none | some m' => m'.run l) := rfl
theorem MachN.run_append : ∀ (a b : List UInt8) (m : MachN), m.run (a ++ b) = (match m.run a with | none => none | some m' => m'.run b)
  | [], _, _ => rfl
  | c :: a, b, m => by
    rw [List.cons_append, MachN.run_cons, MachN.run_cons]
    cases m.step c with
    | none => rfl
    | some m' => exact MachN.run_append a b m'
theorem MachN.run_snoc {m m' : MachN} {l : List UInt8} {c : UInt8} (h : m.run l = some m') : m.run (l ++ [c]) = m'.step c := by
  rw [MachN.run_append, h]
  show (match m'.step c with | none => none | some m'' => some m'') = _
  cases m'.step c <;> rfl
theorem MachN.run_stop {m m' : MachN} {l : List UInt8} {c : UInt8} {t : List UInt8} (h : m.run l = some m') (hs : m'.step c = none) : m.run (l ++ c :: t) = none := by
  rw [MachN.run_append, h]
  show (match m'.step c with | none => none | some m'' => m''.run t) = _
  rw [hs]
def finN (m : MachN) : List (List UInt8) → Option MachN
  | [] => some m
  | r :: rs => if r.all okN = true ∧ ¬ ((0 < m.h ∧ m.x + r.length ≠ m.w) ∨ m.x + r.length = 0) then finN ⟨m.x + r.length, m.h + 1, 0, m.cells ++ r⟩ rs else none
theorem runN_fin : ∀ (l : List UInt8) (m : MachN), m.run (l ++ [47]) = finN m (splitP l)
  | [], m => by
    show (match m.step 47 with | none => none | some m'' => some m'') = finN m [[]]
    unfold MachN.step finN finN
    simp only [if_pos, List.all_nil, List.length_nil, Nat.add_zero, List.append_nil, true_and]
    split <;> simp_all
  | c :: l, m => by
    rw [List.cons_append]
    unfold MachN.run splitP
    by_cases hc : c = 47
    · subst hc
      rw [if_pos rfl]
      unfold MachN.step finN
      simp only [if_pos, List.all_nil, List.length_nil, Nat.add_zero, List.append_nil, true_and]
      by_cases hx : (0 < m.h ∧ m.x ≠ m.w) ∨ m.x = 0
      · rw [if_pos hx, if_neg (fun h => h hx)]
      · rw [if_neg hx, if_pos hx]
        exact runN_fin l _
    · rw [if_neg hc]
      obtain ⟨r, rs, hr⟩ := splitP_cons l
      rw [hr]
      unfold MachN.step
      rw [if_neg hc]
      by_cases ho : okN c = true
      · rw [if_pos ho]
        show MachN.run ⟨m.w, m.h, m.x + 1, m.cells ++ [c]⟩ (l ++ [47]) = finN m ((c :: r) :: rs)
        rw [runN_fin l, hr]
        unfold finN
        simp only [List.all_cons, ho, Bool.true_and, List.length_cons]
        have e : m.x + 1 + r.length = m.x + (r.length + 1) := by omega
        rw [e]
        simp only [List.append_assoc, List.singleton_append]
      · rw [if_neg ho]
        show none = finN m ((c :: r) :: rs)
        unfold finN
        rw [if_neg]
        simp [ho]
theorem finN_rest : ∀ (rs : List (List UInt8)) (w h : Nat) (cs : List UInt8), 0 < w → 0 < h → finN ⟨w, h, 0, cs⟩ rs = if rs.all (rowOkN w) = true then some ⟨w, h + rs.length, 0, cs ++ rs.flatten⟩ else none
  | [], w, h, cs, _, _ => by simp [finN]
  | r :: rs, w, h, cs, hw, hh => by
    unfold finN
    simp only [Nat.zero_add, List.all_cons, rowOkN]
    by_cases h1 : r.all okN = true
    · by_cases h2 : r.length = w
      · subst h2
        rw [if_pos ⟨h1, by omega⟩, finN_rest rs _ (h + 1) _ hw (by omega)]
        simp only [h1, decide_true, Bool.true_and]
        have e : h + 1 + rs.length = h + (r :: rs).length := by simp; omega
        simp only [List.flatten_cons, List.append_assoc, e]
      · rw [if_neg (fun h => h2 (by omega))]
        simp [h2]
    · rw [if_neg (fun h => h1 h.1)]
      simp [h1]
def machN0 : MachN := ⟨0, 0, 0, []⟩
theorem readN_rows (l : List UInt8) : machN0.run (l ++ [47]) = if 1 ≤ width l ∧ (splitP l).all (rowOkN (width l)) = true then some ⟨width l, (splitP l).length, 0, (splitP l).flatten⟩ else none := by
  rw [runN_fin]
  unfold width
  obtain ⟨r, rs, hr⟩ := splitP_cons l
  rw [hr]
  unfold finN machN0
  simp only [Nat.zero_add, List.headD_cons, List.all_cons]
  by_cases h1 : r.all okN = true
  · by_cases h2 : 1 ≤ r.length
    · rw [if_pos ⟨h1, by omega⟩, finN_rest rs _ _ _ (by omega) (by omega)]
      simp only [rowOkN, h1, decide_true, Bool.true_and, h2, true_and]
      have e : 1 + rs.length = (r :: rs).length := by simp; omega
      rw [e]
      simp only [List.nil_append, List.flatten_cons]
    · rw [if_neg (fun h => h2 (by omega))]
      simp [h2]
  · rw [if_neg (fun h => h1 h.1)]
    simp [rowOkN, h1]
theorem flatN_len : ∀ (rs : List (List UInt8)) (n : Nat), rs.all (rowOkN n) = true → rs.flatten.length = n * rs.length
  | [], n, _ => by simp
  | r :: rs, n, h => by
    simp only [List.all_cons, Bool.and_eq_true, rowOkN, decide_eq_true_eq] at h
    rw [List.flatten_cons, List.length_append, flatN_len rs n h.2, h.1.1, List.length_cons, Nat.mul_add]
    omega
theorem MachN.step_le {m m' : MachN} {c : UInt8} {a : Nat} (h : m.step c = some m') (hw : m.w ≤ a) (hh : m.h ≤ a) (hx : m.x ≤ a) (hc : m.cells.length ≤ a) : m'.w ≤ a + 1 ∧ m'.h ≤ a + 1 ∧ m'.x ≤ a + 1 ∧ m'.cells.length ≤ a + 1 := by
  unfold MachN.step at h
  split at h
  · split at h
    · cases h
    · have := Option.some.inj h
      subst this
      exact ⟨by show m.x ≤ _; omega, by show m.h + 1 ≤ _; omega, by show 0 ≤ _; omega, by show m.cells.length ≤ _; omega⟩
  · split at h
    · have := Option.some.inj h
      subst this
      exact ⟨by show m.w ≤ _; omega, by show m.h ≤ _; omega, by show m.x + 1 ≤ _; omega, by show (m.cells ++ [c]).length ≤ _; simp; omega⟩
    · cases h
theorem MachN.run_le : ∀ (l : List UInt8) (m m' : MachN) (a : Nat), m.run l = some m' → m.w ≤ a → m.h ≤ a → m.x ≤ a → m.cells.length ≤ a → m'.w ≤ a + l.length ∧ m'.h ≤ a + l.length ∧ m'.x ≤ a + l.length ∧ m'.cells.length ≤ a + l.length
  | [], m, m', a, h, hw, hh, hx, hc => by
    have : m = m' := Option.some.inj h
    subst this
    exact ⟨by simpa using hw, by simpa using hh, by simpa using hx, by simpa using hc⟩
  | c :: l, m, m', a, h, hw, hh, hx, hc => by
    rw [MachN.run_cons] at h
    cases hs : m.step c with
    | none => rw [hs] at h; cases h
    | some m1 =>
      rw [hs] at h
      obtain ⟨b1, b2, b3, b4⟩ := MachN.step_le hs hw hh hx hc
      obtain ⟨c1, c2, c3, c4⟩ := MachN.run_le l m1 m' (a + 1) h b1 b2 b3 b4
      simp only [List.length_cons]
      omega
theorem machN0_le {l : List UInt8} {m : MachN} (h : machN0.run l = some m) : m.w ≤ l.length ∧ m.h ≤ l.length ∧ m.x ≤ l.length ∧ m.cells.length ≤ l.length := by
  have := MachN.run_le l machN0 m 0 h (by simp [machN0]) (by simp [machN0]) (by simp [machN0]) (by simp [machN0])
  simpa using this
/-- A step more of the reading. -/
theorem runN_take {m : MachN} {L : List UInt8} {k : Nat} {c : UInt8} (h : machN0.run (L.take k) = some m) (hc : L[k]? = some c) : machN0.run (L.take (k + 1)) = m.step c := by
  rw [List.take_add_one, hc]
  exact MachN.run_snoc h
theorem runN_stopped {m : MachN} {L : List UInt8} {k : Nat} {c : UInt8} (h : machN0.run (L.take k) = some m) (hc : L[k]? = some c) (hs : m.step c = none) : machN0.run L = none := by
  have hlt := (List.getElem?_eq_some_iff.1 hc).1
  have hg := (List.getElem?_eq_some_iff.1 hc).2
  have e : L = L.take k ++ c :: L.drop (k + 1) := by
    conv => lhs; rw [← List.take_append_drop k L]
    rw [List.drop_eq_getElem_cons hlt, hg]
  rw [e]
  exact MachN.run_stop h hs

theorem not_rd {l : List UInt8} (h : machN0.run (l ++ [47]) = none) : isRd l = false := by
  unfold isRd
  rw [readN_rows] at h
  split at h
  · cases h
  · rename_i hc
    cases h1 : (splitP l).all (rowOkN (width l))
    · simp
    · rw [h1] at hc
      simp only [Bool.and_true, decide_eq_false_iff_not]
      intro h2
      exact hc ⟨h2.2, rfl⟩
theorem is_rd {l : List UInt8} {m : MachN} (hl : l.length ≤ 41) (h : machN0.run (l ++ [47]) = some m) : isRd l = true ∧ m = ⟨width l, (splitP l).length, 0, (splitP l).flatten⟩ := by
  rw [readN_rows] at h
  split at h
  · rename_i hc
    refine ⟨?_, (Option.some.inj h).symm⟩
    unfold isRd
    rw [hc.2, Bool.and_true, decide_eq_true_eq]
    exact ⟨hl, hc.1⟩
  · cases h
/-- What is read has even rows. -/
theorem rd_parts {l : List UInt8} (h : isRd l = true) : l.length ≤ 41 ∧ 1 ≤ width l ∧ Even l (width l) ∧ ∀ r ∈ splitP l, r.all okN = true := by
  unfold isRd at h
  rw [Bool.and_eq_true, decide_eq_true_eq] at h
  refine ⟨h.1.1, h.1.2, fun r hr => ?_, fun r hr => ?_⟩
  · have := List.all_eq_true.1 h.2 r hr
    unfold rowOkN at this
    rw [Bool.and_eq_true, decide_eq_true_eq] at this
    exact this.1
  · have := List.all_eq_true.1 h.2 r hr
    unfold rowOkN at this
    rw [Bool.and_eq_true] at this
    exact this.2
theorem Filled.rd {l : List UInt8} {W H : Nat} (h : Filled l W H) : isRd l = true := by
  unfold isRd
  have h1 := h.flat_len
  have h2 := len_split l
  rw [h.hh] at h2
  unfold flatL at h1
  have h3 : W * H ≤ 6 * 6 := Nat.mul_le_mul h.w6 h.h6
  have := h.h6
  rw [Bool.and_eq_true, decide_eq_true_eq, h.ww]
  refine ⟨⟨by omega, h.w1⟩, ?_⟩
  rw [List.all_eq_true]
  intro r hr
  unfold rowOkN
  rw [h.even r hr, h.ok r hr]
  simp
end Go.Proofs.Ytbfclnigjijkbaa
