/- Plain mathematics of boards: texts cut at '/', read by a machine step by step. No Go in sight. -/
import Derived.Lib.SplitLaws
import Derived.Lib.IndexBytes
import Derived.Lib.IndexLaws
namespace Go.Proofs.Ytbfclnigjijkbaa
set_option maxRecDepth 100000
set_option linter.all false
open Go

def consHead (c : UInt8) : List (List UInt8) → List (List UInt8)
  | [] => [[c]]
  | r :: rs => (c :: r) :: rs
/-- A text cut at each '/'. -/
def splitP : List UInt8 → List (List UInt8)
  | [] => [[]]
  | c :: l => if c = 47 then [] :: splitP l else consHead c (splitP l)

theorem consHead_ne (c : UInt8) (m : List (List UInt8)) : consHead c m ≠ [] := by cases m <;> simp [consHead]
theorem splitP_ne (l : List UInt8) : splitP l ≠ [] := by
  cases l with
  | nil => simp [splitP]
  | cons c l =>
    unfold splitP
    split
    · simp
    · exact consHead_ne _ _
theorem splitP_cons (l : List UInt8) : ∃ r rs, splitP l = r :: rs := by
  cases h : splitP l with
  | nil => exact absurd h (splitP_ne l)
  | cons r rs => exact ⟨r, rs, rfl⟩
theorem splitP_miss : ∀ (l : List UInt8), (∀ c ∈ l, c ≠ 47) → splitP l = [l]
  | [], _ => rfl
  | c :: l, h => by
    unfold splitP
    rw [if_neg (h c (by simp)), splitP_miss l (fun x hx => h x (by simp [hx]))]
    rfl
theorem splitP_hit : ∀ (a t : List UInt8), (∀ c ∈ a, c ≠ 47) → splitP (a ++ 47 :: t) = a :: splitP t
  | [], t, _ => by simp [splitP]
  | c :: a, t, h => by
    rw [List.cons_append]
    show (if c = 47 then [] :: splitP (a ++ 47 :: t) else consHead c (splitP (a ++ 47 :: t))) = _
    rw [if_neg (h c (by simp)), splitP_hit a t (fun x hx => h x (by simp [hx]))]
    rfl

/-- The library's cut is that one. -/
theorem splitK_P : ∀ (n : Nat) (l : List UInt8), l.length ≤ n → Lib.splitK [47] 0 (Lib.count l [47]) l = splitP l := by
  intro n
  induction n with
  | zero =>
    intro l h
    have : l = [] := List.eq_nil_of_length_eq_zero (by omega)
    subst this
    have hc : Lib.count [] [47] = 0 := Lib.count_miss (by rfl)
    rw [hc]
    rfl
  | succ n ih =>
    intro l h
    have hi := Lib.indexByte_ge l 47
    have ho := Lib.index_one l 47
    by_cases hm : Lib.indexByte l 47 = -1
    · have hx : Lib.index l [47] = -1 := by rw [ho, hm]
      rw [Lib.count_miss hx]
      have hno : ∀ c ∈ l, c ≠ 47 := by
        intro c hc he
        subst he
        obtain ⟨k, hk⟩ := List.mem_iff_getElem?.1 hc
        exact Lib.indexByte_none hm k hk
      rw [splitP_miss l hno]
      rfl
    · obtain ⟨i, hi'⟩ : ∃ i : Nat, Lib.indexByte l 47 = i := ⟨(Lib.indexByte l 47).toNat, by omega⟩
      have hx : Lib.index l [47] = i := by rw [ho, hi']
      obtain ⟨h1, h2⟩ := Lib.indexByte_some hi'
      have hil := (List.getElem?_eq_some_iff.1 h1).1
      have e : l = l.take i ++ 47 :: l.drop (i + 1) := by
        conv => lhs; rw [← List.take_append_drop i l]
        rw [List.drop_eq_getElem_cons hil, (List.getElem?_eq_some_iff.1 h1).2]
      have hno : ∀ c ∈ l.take i, c ≠ 47 := by
        intro c hc he
        subst he
        obtain ⟨k, hk⟩ := List.mem_iff_getElem?.1 hc
        rw [List.getElem?_take] at hk
        split at hk
        · rename_i hki
          exact h2 k hki hk
        · cases hk
      have hcnt : Lib.count l [47] = 1 + Lib.count (l.drop (i + 1)) [47] := Lib.count_hit (i := i) (by simp) hx
      rw [hcnt, Nat.add_comm 1]
      unfold Lib.splitK
      have hne : ¬ (Lib.index l [47] == -1) = true := by rw [hx]; simp
      rw [if_neg hne, hx]
      have hr : splitP l = l.take i :: splitP (l.drop (i + 1)) := by
        conv => lhs; rw [e]
        exact splitP_hit _ _ hno
      rw [hr]
      have := ih (l.drop (i + 1)) (by rw [List.length_drop]; omega)
      simpa using this

/-- A row of a board. -/
def okC (c : UInt8) : Bool := c == 46 || c == 35
def rowOk (n : Nat) (r : List UInt8) : Bool := decide (r.length = n) && r.all okC
def width (l : List UInt8) : Nat := ((splitP l).headD []).length
/-- Is a text a board? -/
def isBd (l : List UInt8) : Bool := decide (1 ≤ width l ∧ width l ≤ 7 ∧ (splitP l).length ≤ 7 ∧ width l * (splitP l).length ≤ 36) && (splitP l).all (rowOk (width l))

/-- The model's reader. -/
structure Mach where
  w : Nat
  h : Nat
  x : Nat
  cells : List UInt8
def Mach.step (m : Mach) (c : UInt8) : Option Mach :=
  if c = 47 then (if (0 < m.h ∧ m.x ≠ m.w) ∨ m.x = 0 then none else some ⟨m.x, m.h + 1, 0, m.cells⟩)
  else if okC c = true then some ⟨m.w, m.h, m.x + 1, m.cells ++ [c]⟩ else none
def Mach.run (m : Mach) : List UInt8 → Option Mach
  | [] => some m
  | c :: l => match m.step c with
    | none => none
    | some m' => m'.run l
theorem Mach.run_cons (m : Mach) (c : UInt8) (l : List UInt8) : m.run (c :: l) = (match m.step c with | none => none | some m' => m'.run l) := rfl
theorem Mach.run_append : ∀ (a b : List UInt8) (m : Mach), m.run (a ++ b) = (match m.run a with | none => none | some m' => m'.run b)
  | [], _, _ => rfl
  | c :: a, b, m => by
    rw [List.cons_append, Mach.run_cons, Mach.run_cons]
    cases m.step c with
    | none => rfl
    | some m' => exact Mach.run_append a b m'
theorem Mach.run_snoc {m m' : Mach} {l : List UInt8} {c : UInt8} (h : m.run l = some m') : m.run (l ++ [c]) = m'.step c := by
  rw [Mach.run_append, h]
  show (match m'.step c with | none => none | some m'' => some m'') = _
  cases m'.step c <;> rfl
theorem Mach.run_stop {m m' : Mach} {l : List UInt8} {c : UInt8} {t : List UInt8} (h : m.run l = some m') (hs : m'.step c = none) : m.run (l ++ c :: t) = none := by
  rw [Mach.run_append, h]
  show (match m'.step c with | none => none | some m'' => m''.run t) = _
  rw [hs]
def fin (m : Mach) : List (List UInt8) → Option Mach
  | [] => some m
  | r :: rs => if r.all okC = true ∧ ¬ ((0 < m.h ∧ m.x + r.length ≠ m.w) ∨ m.x + r.length = 0) then fin ⟨m.x + r.length, m.h + 1, 0, m.cells ++ r⟩ rs else none
theorem run_fin : ∀ (l : List UInt8) (m : Mach), m.run (l ++ [47]) = fin m (splitP l)
  | [], m => by
    show (match m.step 47 with | none => none | some m'' => some m'') = fin m [[]]
    unfold Mach.step fin fin
    simp only [if_pos, List.all_nil, List.length_nil, Nat.add_zero, List.append_nil, true_and]
    split <;> simp_all
  | c :: l, m => by
    rw [List.cons_append]
    unfold Mach.run splitP
    by_cases hc : c = 47
    · subst hc
      rw [if_pos rfl]
      unfold Mach.step fin
      simp only [if_pos, List.all_nil, List.length_nil, Nat.add_zero, List.append_nil, true_and]
      by_cases hx : (0 < m.h ∧ m.x ≠ m.w) ∨ m.x = 0
      · rw [if_pos hx, if_neg (fun h => h hx)]
      · rw [if_neg hx, if_pos hx]
        exact run_fin l _
    · rw [if_neg hc]
      obtain ⟨r, rs, hr⟩ := splitP_cons l
      rw [hr]
      unfold Mach.step
      rw [if_neg hc]
      by_cases ho : okC c = true
      · rw [if_pos ho]
        show Mach.run ⟨m.w, m.h, m.x + 1, m.cells ++ [c]⟩ (l ++ [47]) = fin m ((c :: r) :: rs)
        rw [run_fin l, hr]
        unfold fin
        simp only [List.all_cons, ho, Bool.true_and, List.length_cons]
        have e : m.x + 1 + r.length = m.x + (r.length + 1) := by omega
        rw [e]
        simp only [List.append_assoc, List.singleton_append]
      · rw [if_neg ho]
        show none = fin m ((c :: r) :: rs)
        unfold fin
        rw [if_neg]
        simp [ho]
theorem fin_rest : ∀ (rs : List (List UInt8)) (w h : Nat) (cs : List UInt8), 0 < w → 0 < h → fin ⟨w, h, 0, cs⟩ rs = if rs.all (rowOk w) = true then some ⟨w, h + rs.length, 0, cs ++ rs.flatten⟩ else none
  | [], w, h, cs, _, _ => by simp [fin]
  | r :: rs, w, h, cs, hw, hh => by
    unfold fin
    simp only [Nat.zero_add, List.all_cons, rowOk]
    by_cases h1 : r.all okC = true
    · by_cases h2 : r.length = w
      · subst h2
        rw [if_pos ⟨h1, by omega⟩, fin_rest rs _ (h + 1) _ hw (by omega)]
        simp only [h1, decide_true, Bool.true_and]
        have e : h + 1 + rs.length = h + (r :: rs).length := by simp; omega
        simp only [List.flatten_cons, List.append_assoc, e]
      · rw [if_neg (fun h => h2 (by omega))]
        simp [h2]
    · rw [if_neg (fun h => h1 h.1)]
      simp [h1]
def mach0 : Mach := ⟨0, 0, 0, []⟩
/-- What the model reads, ahead of the limits. -/
theorem read_rows (l : List UInt8) : mach0.run (l ++ [47]) = if 1 ≤ width l ∧ (splitP l).all (rowOk (width l)) = true then some ⟨width l, (splitP l).length, 0, (splitP l).flatten⟩ else none := by
  rw [run_fin]
  unfold width
  obtain ⟨r, rs, hr⟩ := splitP_cons l
  rw [hr]
  unfold fin mach0
  simp only [Nat.zero_add, List.headD_cons, List.all_cons]
  by_cases h1 : r.all okC = true
  · by_cases h2 : 1 ≤ r.length
    · rw [if_pos ⟨h1, by omega⟩, fin_rest rs _ _ _ (by omega) (by omega)]
      simp only [rowOk, h1, decide_true, Bool.true_and, h2, true_and]
      have e : 1 + rs.length = (r :: rs).length := by simp; omega
      rw [e]
      simp only [List.nil_append, List.flatten_cons]
    · rw [if_neg (fun h => h2 (by omega))]
      simp [h2]
  · rw [if_neg (fun h => h1 h.1)]
    simp [rowOk, h1]
theorem flat_len : ∀ (rs : List (List UInt8)) (n : Nat), rs.all (rowOk n) = true → rs.flatten.length = n * rs.length
  | [], n, _ => by simp
  | r :: rs, n, h => by
    simp only [List.all_cons, Bool.and_eq_true, rowOk, decide_eq_true_eq] at h
    rw [List.flatten_cons, List.length_append, flat_len rs n h.2, h.1.1, List.length_cons, Nat.mul_add]
    omega
theorem len_split : ∀ (l : List UInt8), l.length + 1 = (splitP l).flatten.length + (splitP l).length
  | [] => by simp [splitP]
  | c :: l => by
    have ih := len_split l
    unfold splitP
    split
    · simp only [List.flatten_cons, List.nil_append, List.length_cons]; omega
    · obtain ⟨r, rs, hr⟩ := splitP_cons l
      rw [hr] at ih ⊢
      simp only [consHead, List.flatten_cons, List.length_append, List.length_cons, List.cons_append] at ih ⊢
      omega
/-- A board has at most 42 bytes. -/
theorem isBd_len {l : List UInt8} (h : isBd l = true) : l.length ≤ 42 := by
  unfold isBd at h
  simp only [Bool.and_eq_true, decide_eq_true_eq] at h
  have h1 := flat_len _ _ h.2
  have h2 := len_split l
  omega
/-- The model's reader, with its limits, reads the boards. -/
theorem read_yes {l : List UInt8} (h : isBd l = true) : mach0.run (l ++ [47]) = some ⟨width l, (splitP l).length, 0, (splitP l).flatten⟩ ∧ width l ≤ 7 ∧ (splitP l).length ≤ 7 ∧ (splitP l).flatten.length ≤ 36 := by
  have h' := h
  unfold isBd at h
  simp only [Bool.and_eq_true, decide_eq_true_eq] at h
  refine ⟨?_, h.1.2.1, h.1.2.2.1, ?_⟩
  · rw [read_rows, if_pos ⟨h.1.1, h.2⟩]
  · rw [flat_len _ _ h.2]; exact h.1.2.2.2
theorem read_no {l : List UInt8} (h : isBd l = false) {m : Mach} (hr : mach0.run (l ++ [47]) = some m) : 7 < m.w ∨ 7 < m.h ∨ 36 < m.cells.length := by
  rw [read_rows] at hr
  split at hr
  · rename_i hc
    have hm : m = ⟨width l, (splitP l).length, 0, (splitP l).flatten⟩ := (Option.some.inj hr).symm
    subst hm
    show 7 < width l ∨ 7 < (splitP l).length ∨ 36 < (splitP l).flatten.length
    rw [flat_len _ _ hc.2]
    unfold isBd at h
    rw [hc.2] at h
    simp only [Bool.and_true, decide_eq_false_iff_not] at h
    omega
  · cases hr

theorem Mach.step_le {m m' : Mach} {c : UInt8} {a : Nat} (h : m.step c = some m') (hw : m.w ≤ a) (hh : m.h ≤ a) (hx : m.x ≤ a) (hc : m.cells.length ≤ a) : m'.w ≤ a + 1 ∧ m'.h ≤ a + 1 ∧ m'.x ≤ a + 1 ∧ m'.cells.length ≤ a + 1 := by
  unfold Mach.step at h
  split at h
  · split at h
    · cases h
    · have := Option.some.inj h
      subst this
      exact ⟨by show m.x ≤ _; omega, by show m.h + 1 ≤ _; omega, by show 0 ≤ _; omega, by show m.cells.length ≤ _; omega⟩
  · split at h
    · have := Option.some.inj h
      subst this
      exact ⟨by show m.w ≤ _; omega, by show m.h ≤ _; omega, by show m.x + 1 ≤ _; omega, by show (m.cells ++ [c]).length ≤ _; simp; omega⟩
    · cases h
theorem Mach.run_le : ∀ (l : List UInt8) (m m' : Mach) (a : Nat), m.run l = some m' → m.w ≤ a → m.h ≤ a → m.x ≤ a → m.cells.length ≤ a → m'.w ≤ a + l.length ∧ m'.h ≤ a + l.length ∧ m'.x ≤ a + l.length ∧ m'.cells.length ≤ a + l.length
  | [], m, m', a, h, hw, hh, hx, hc => by
    have : m = m' := Option.some.inj h
    subst this
    exact ⟨by simpa using hw, by simpa using hh, by simpa using hx, by simpa using hc⟩
  | c :: l, m, m', a, h, hw, hh, hx, hc => by
    rw [Mach.run_cons] at h
    cases hs : m.step c with
    | none => rw [hs] at h; cases h
    | some m1 =>
      rw [hs] at h
      obtain ⟨b1, b2, b3, b4⟩ := Mach.step_le hs hw hh hx hc
      obtain ⟨c1, c2, c3, c4⟩ := Mach.run_le l m1 m' (a + 1) h b1 b2 b3 b4
      simp only [List.length_cons]
      omega
theorem mach0_le {l : List UInt8} {m : Mach} (h : mach0.run l = some m) : m.w ≤ l.length ∧ m.h ≤ l.length ∧ m.x ≤ l.length ∧ m.cells.length ≤ l.length := by
  have := Mach.run_le l mach0 m 0 h (by simp [mach0]) (by simp [mach0]) (by simp [mach0]) (by simp [mach0])
  simpa using this
/-- A step more of the reading. -/
theorem run_take {m : Mach} {L : List UInt8} {k : Nat} {c : UInt8} (h : mach0.run (L.take k) = some m) (hc : L[k]? = some c) : mach0.run (L.take (k + 1)) = m.step c := by
  rw [List.take_add_one, hc]
  exact Mach.run_snoc h
theorem run_stopped {m : Mach} {L : List UInt8} {k : Nat} {c : UInt8} (h : mach0.run (L.take k) = some m) (hc : L[k]? = some c) (hs : m.step c = none) : mach0.run L = none := by
  have hlt := (List.getElem?_eq_some_iff.1 hc).1
  have hg := (List.getElem?_eq_some_iff.1 hc).2
  have e : L = L.take k ++ c :: L.drop (k + 1) := by
    conv => lhs; rw [← List.take_append_drop k L]
    rw [List.drop_eq_getElem_cons hlt, hg]
  rw [e]
  exact Mach.run_stop h hs
theorem not_board {l : List UInt8} (h : mach0.run (l ++ [47]) = none) : isBd l = false := by
  cases hb : isBd l
  · rfl
  · rw [(read_yes hb).1] at h; cases h

/-- The sign of a cell; none: a wall's. -/
def cellI (rows : List (List UInt8)) (x y : Int) : UInt8 := if 0 ≤ x ∧ 0 ≤ y then (rows.getD y.toNat []).getD x.toNat 35 else 35
def floorI (rows : List (List UInt8)) (x y : Int) : Bool := cellI rows x y == 46
/-- Is there a cell? -/
def hasI (rows : List (List UInt8)) (w : Nat) (x y : Int) : Bool := decide (0 ≤ x ∧ x < w ∧ 0 ≤ y ∧ y < rows.length)
theorem flat_at : ∀ (rs : List (List UInt8)) (n y x : Nat), rs.all (rowOk n) = true → x < n → y < rs.length → rs.flatten[y * n + x]? = some ((rs.getD y []).getD x 35)
  | [], _, _, _, _, _, h => by simp at h
  | r :: rs, n, y, x, h, hx, hy => by
    simp only [List.all_cons, Bool.and_eq_true, rowOk, decide_eq_true_eq] at h
    rw [List.flatten_cons]
    cases y with
    | zero =>
      rw [List.getElem?_append_left (by omega)]
      simp [List.getElem?_eq_getElem (show x < r.length by omega)]
    | succ y =>
      rw [List.getElem?_append_right (by rw [h.1.1, Nat.add_mul]; omega), h.1.1, show (y + 1) * n + x - n = y * n + x from by rw [Nat.add_mul]; omega, flat_at rs n y x h.2 hx (by simpa using hy)]
      rfl
end Go.Proofs.Ytbfclnigjijkbaa
