/- Plain mathematics of boards: texts cut at '/', read by a machine step by step. No Go in sight. Plain mathematics of labelled boards: labels taken away, rows of equal length in a text. No Go in sight. How many labels? Plain mathematics: signs written into a text of even rows. -/
import Derived.Lib.SplitLaws
import Derived.Lib.IndexBytes
import Derived.Lib.IndexLaws
namespace Go.Proofs.YthdkhikkdcjifaaDoor
set_option maxRecDepth 100000
set_option linter.all false
open Go

def consHead (c : UInt8) : List (List UInt8) → List (List UInt8)
  | [] => [[c]]
  | r :: rs => (c :: r) :: rs
/-- A text cut at each '/'. -/
def splitP : List UInt8 → List (List UInt8)
  | [] => [[]]
  | c :: l => if c = 47 then [] :: splitP l else consHead c (splitP l)

theorem consHead_ne (c : UInt8) (m : List (List UInt8)) : consHead c m ≠ [] := by cases m <;> simp [consHead]
theorem splitP_ne (l : List UInt8) : splitP l ≠ [] := by
  cases l with
  | nil => simp [splitP]
  | cons c l =>
    unfold splitP
    split
    · simp
    · exact consHead_ne _ _
theorem splitP_cons (l : List UInt8) : ∃ r rs, splitP l = r :: rs := by
  cases h : splitP l with
  | nil => exact absurd h (splitP_ne l)
  | cons r rs => exact ⟨r, rs, rfl⟩
theorem splitP_miss : ∀ (l : List UInt8), (∀ c ∈ l, c ≠ 47) → splitP l = [l]
  | [], _ => rfl
  | c :: l, h => by
    unfold splitP
    rw [if_neg (h c (by simp)), splitP_miss l (fun x hx => h x (by simp [hx]))]
    rfl
theorem splitP_hit : ∀ (a t : List UInt8), (∀ c ∈ a, c ≠ 47) → splitP (a ++ 47 :: t) = a :: splitP t
  | [], t, _ => by simp [splitP]
  | c :: a, t, h => by
    rw [List.cons_append]
    show (if c = 47 then [] :: splitP (a ++ 47 :: t) else consHead c (splitP (a ++ 47 :: t))) = _
    rw [if_neg (h c (by simp)), splitP_hit a t (fun x hx => h x (by simp [hx]))]
    rfl

/-- The library's cut is that one. -/
theorem splitK_P : ∀ (n : Nat) (l : List UInt8), l.length ≤ n → Lib.splitK [47] 0 (Lib.count l [47]) l = splitP l := by
  intro n
  induction n with
  | zero =>
    intro l h
    have : l = [] := List.eq_nil_of_length_eq_zero (by omega)
    subst this
    have hc : Lib.count [] [47] = 0 := Lib.count_miss (by rfl)
    rw [hc]
    rfl
  | succ n ih =>
    intro l h
    have hi := Lib.indexByte_ge l 47
    have ho := Lib.index_one l 47
    by_cases hm : Lib.indexByte l 47 = -1
    · have hx : Lib.index l [47] = -1 := by rw [ho, hm]
      rw [Lib.count_miss hx]
      have hno : ∀ c ∈ l, c ≠ 47 := by
        intro c hc he
        subst he
        obtain ⟨k, hk⟩ := List.mem_iff_getElem?.1 hc
        exact Lib.indexByte_none hm k hk
      rw [splitP_miss l hno]
      rfl
    · obtain ⟨i, hi'⟩ : ∃ i : Nat, Lib.indexByte l 47 = i := ⟨(Lib.indexByte l 47).toNat, by omega⟩
      have hx : Lib.index l [47] = i := by rw [ho, hi']
      obtain ⟨h1, h2⟩ := Lib.indexByte_some hi'
      have hil := (List.getElem?_eq_some_iff.1 h1).1
      have e : l = l.take i ++ 47 :: l.drop (i + 1) := by
        conv => lhs; rw [← List.take_append_drop i l]
        rw [List.drop_eq_getElem_cons hil, (List.getElem?_eq_some_iff.1 h1).2]
      have hno : ∀ c ∈ l.take i, c ≠ 47 := by
        intro c hc he
        subst he
        obtain ⟨k, hk⟩ := List.mem_iff_getElem?.1 hc
        rw [List.getElem?_take] at hk
        split at hk
        · rename_i hki
          exact h2 k hki hk
        · cases hk
      have hcnt : Lib.count l [47] = 1 + Lib.count (l.drop (i + 1)) [47] := Lib.count_hit (i := i) (by simp) hx
      rw [hcnt, Nat.add_comm 1]
      unfold Lib.splitK
      have hne : ¬ (Lib.index l [47] == -1) = true := by rw [hx]; simp
      rw [if_neg hne, hx]
      have hr : splitP l = l.take i :: splitP (l.drop (i + 1)) := by
        conv => lhs; rw [e]
        exact splitP_hit _ _ hno
      rw [hr]
      have := ih (l.drop (i + 1)) (by rw [List.length_drop]; omega)
      simpa using this

/-- A row of a board. -/
def okC (c : UInt8) : Bool := c == 46 || c == 35
def rowOk (n : Nat) (r : List UInt8) : Bool := decide (r.length = n) && r.all okC
def width (l : List UInt8) : Nat := ((splitP l).headD []).length
/-- Is a text a board? -/
def isBd (l : List UInt8) : Bool := decide (1 ≤ width l ∧ width l ≤ 7 ∧ (splitP l).length ≤ 7 ∧ width l * (splitP l).length ≤ 36) && (splitP l).all (rowOk (width l))

/-- The model's reader. -/
structure Mach where
  w : Nat
  h : Nat
  x : Nat
  cells : List UInt8
def Mach.step (m : Mach) (c : UInt8) : Option Mach :=
  if c = 47 then (if (0 < m.h ∧ m.x ≠ m.w) ∨ m.x = 0 then none else some ⟨m.x, m.h + 1, 0, m.cells⟩)
  else if okC c = true then some ⟨m.w, m.h, m.x + 1, m.cells ++ [c]⟩ else none
def Mach.run (m : Mach) : List UInt8 → Option Mach
  | [] => some m
  | c :: l => match m.step c with
    | none => none
    | some m' => m'.run l
theorem Mach.run_cons (m : Mach) (c : UInt8) (l : List UInt8) : m.run (c :: l) = (match m.step c with | none => none | some m' => m'.run l) := rfl
theorem Mach.run_append : ∀ (a b : List UInt8) (m : Mach), m.run (a ++ b) = (match m.run a with | none => none | some m' => m'.run b)
  | [], _, _ => rfl
  | c :: a, b, m => by
    rw [List.cons_append, Mach.run_cons, Mach.run_cons]
    cases m.step c with
    | none => rfl
    | some m' => exact Mach.run_append a b m'
theorem Mach.run_snoc {m m' : Mach} {l : List UInt8} {c : UInt8} (h : m.run l = some m') : m.run (l ++ [c]) = m'.step c := by
  rw [Mach.run_append, h]
  show (match m'.step c with | none => none | some m'' => some m'') = _
  cases m'.step c <;> rfl
theorem Mach.run_stop {m m' : Mach} {l : List UInt8} {c : UInt8} {t : List UInt8} (h : m.run l = some m') (hs : m'.step c = none) : m.run (l ++ c :: t) = none := by
  rw [Mach.run_append, h]
  show (match m'.step c with | none => none | some m'' => m''.run t) = _
  rw [hs]
def fin (m : Mach) : List (List UInt8) → Option Mach
  | [] => some m
  | r :: rs => if r.all okC = true ∧ ¬ ((0 < m.h ∧ m.x + r.length ≠ m.w) ∨ m.x + r.length = 0) then fin ⟨m.x + r.length, m.h + 1, 0, m.cells ++ r⟩ rs else none
theorem run_fin : ∀ (l : List UInt8) (m : Mach), m.run (l ++ [47]) = fin m (splitP l)
  | [], m => by
    show (match m.step 47 with | none => none | some m'' => some m'') = fin m [[]]
    unfold Mach.step fin fin
    simp only [if_pos, List.all_nil, List.length_nil, Nat.add_zero, List.append_nil, true_and]
    split <;> simp_all
  | c :: l, m => by
    rw [List.cons_append]
    unfold Mach.run splitP
    by_cases hc : c = 47
    · subst hc
      rw [if_pos rfl]
      unfold Mach.step fin
      simp only [if_pos, List.all_nil, List.length_nil, Nat.add_zero, List.append_nil, true_and]
      by_cases hx : (0 < m.h ∧ m.x ≠ m.w) ∨ m.x = 0
      · rw [if_pos hx, if_neg (fun h => h hx)]
      · rw [if_neg hx, if_pos hx]
        exact run_fin l _
    · rw [if_neg hc]
      obtain ⟨r, rs, hr⟩ := splitP_cons l
      rw [hr]
      unfold Mach.step
      rw [if_neg hc]
      by_cases ho : okC c = true
      · rw [if_pos ho]
        show Mach.run ⟨m.w, m.h, m.x + 1, m.cells ++ [c]⟩ (l ++ [47]) = fin m ((c :: r) :: rs)
        rw [run_fin l, hr]
        unfold fin
        simp only [List.all_cons, ho, Bool.true_and, List.length_cons]
        have e : m.x + 1 + r.length = m.x + (r.length + 1) := by omega
        rw [e]
        simp only [List.append_assoc, List.singleton_append]
      · rw [if_neg ho]
        show none = fin m ((c :: r) :: rs)
        unfold fin
        rw [if_neg]
        simp [ho]
theorem fin_rest : ∀ (rs : List (List UInt8)) (w h : Nat) (cs : List UInt8), 0 < w → 0 < h → fin ⟨w, h, 0, cs⟩ rs = if rs.all (rowOk w) = true then some ⟨w, h + rs.length, 0, cs ++ rs.flatten⟩ else none
  | [], w, h, cs, _, _ => by simp [fin]
  | r :: rs, w, h, cs, hw, hh => by
    unfold fin
    simp only [Nat.zero_add, List.all_cons, rowOk]
    by_cases h1 : r.all okC = true
    · by_cases h2 : r.length = w
      · subst h2
        rw [if_pos ⟨h1, by omega⟩, fin_rest rs _ (h + 1) _ hw (by omega)]
        simp only [h1, decide_true, Bool.true_and]
        have e : h + 1 + rs.length = h + (r :: rs).length := by simp; omega
        simp only [List.flatten_cons, List.append_assoc, e]
      · rw [if_neg (fun h => h2 (by omega))]
        simp [h2]
    · rw [if_neg (fun h => h1 h.1)]
      simp [h1]
def mach0 : Mach := ⟨0, 0, 0, []⟩
/-- What the model reads, ahead of the limits. -/
theorem read_rows (l : List UInt8) : mach0.run (l ++ [47]) = if 1 ≤ width l ∧ (splitP l).all (rowOk (width l)) = true then some ⟨width l, (splitP l).length, 0, (splitP l).flatten⟩ else none := by
  rw [run_fin]
  unfold width
  obtain ⟨r, rs, hr⟩ := splitP_cons l
  rw [hr]
  unfold fin mach0
  simp only [Nat.zero_add, List.headD_cons, List.all_cons]
  by_cases h1 : r.all okC = true
  · by_cases h2 : 1 ≤ r.length
    · rw [if_pos ⟨h1, by omega⟩, fin_rest rs _ _ _ (by omega) (by omega)]
      simp only [rowOk, h1, decide_true, Bool.true_and, h2, true_and]
      have e : 1 + rs.length = (r :: rs).length := by simp; omega
      rw [e]
      simp only [List.nil_append, List.flatten_cons]
    · rw [if_neg (fun h => h2 (by omega))]
      simp [h2]
  · rw [if_neg (fun h => h1 h.1)]
    simp [rowOk, h1]
theorem flat_len : ∀ (rs : List (List UInt8)) (n : Nat), rs.all (rowOk n) = true → rs.flatten.length = n * rs.length
  | [], n, _ => by simp
  | r :: rs, n, h => by
    simp only [List.all_cons, Bool.and_eq_true, rowOk, decide_eq_true_eq] at h
    rw [List.flatten_cons, List.length_append, flat_len rs n h.2, h.1.1, List.length_cons, Nat.mul_add]
    omega
theorem len_split : ∀ (l : List UInt8), l.length + 1 = (splitP l).flatten.length + (splitP l).length
  | [] => by simp [splitP]
  | c :: l => by
    have ih := len_split l
    unfold splitP
    split
    · simp only [List.flatten_cons, List.nil_append, List.length_cons]; omega
    · obtain ⟨r, rs, hr⟩ := splitP_cons l
      rw [hr] at ih ⊢
      simp only [consHead, List.flatten_cons, List.length_append, List.length_cons, List.cons_append] at ih ⊢
      omega
/-- A board has at most 42 bytes. -/
theorem isBd_len {l : List UInt8} (h : isBd l = true) : l.length ≤ 42 := by
  unfold isBd at h
  simp only [Bool.and_eq_true, decide_eq_true_eq] at h
  have h1 := flat_len _ _ h.2
  have h2 := len_split l
  omega
/-- The model's reader, with its limits, reads the boards. -/
theorem read_yes {l : List UInt8} (h : isBd l = true) : mach0.run (l ++ [47]) = some ⟨width l, (splitP l).length, 0, (splitP l).flatten⟩ ∧ width l ≤ 7 ∧ (splitP l).length ≤ 7 ∧ (splitP l).flatten.length ≤ 36 := by
  have h' := h
  unfold isBd at h
  simp only [Bool.and_eq_true, decide_eq_true_eq] at h
  refine ⟨?_, h.1.2.1, h.1.2.2.1, ?_⟩
  · rw [read_rows, if_pos ⟨h.1.1, h.2⟩]
  · rw [flat_len _ _ h.2]; exact h.1.2.2.2
theorem read_no {l : List UInt8} (h : isBd l = false) {m : Mach} (hr : mach0.run (l ++ [47]) = some m) : 7 < m.w ∨ 7 < m.h ∨ 36 < m.cells.length := by
  rw [read_rows] at hr
  split at hr
  · rename_i hc
    have hm : m = ⟨width l, (splitP l).length, 0, (splitP l).flatten⟩ := (Option.some.inj hr).symm
    subst hm
    show 7 < width l ∨ 7 < (splitP l).length ∨ 36 < (splitP l).flatten.length
    rw [flat_len _ _ hc.2]
    unfold isBd at h
    rw [hc.2] at h
    simp only [Bool.and_true, decide_eq_false_iff_not] at h
    omega
  · cases hr

theorem Mach.step_le {m m' : Mach} {c : UInt8} {a : Nat} (h : m.step c = some m') (hw : m.w ≤ a) (hh : m.h ≤ a) (hx : m.x ≤ a) (hc : m.cells.length ≤ a) : m'.w ≤ a + 1 ∧ m'.h ≤ a + 1 ∧ m'.x ≤ a + 1 ∧ m'.cells.length ≤ a + 1 := by
  unfold Mach.step at h
  split at h
  · split at h
    · cases h
    · have := Option.some.inj h
      subst this
      exact ⟨by show m.x ≤ _; omega, by show m.h + 1 ≤ _; omega, by show 0 ≤ _; omega, by show m.cells.length ≤ _; omega⟩
  · split at h
    · have := Option.some.inj h
      subst this
      exact ⟨by show m.w ≤ _; omega, by show m.h ≤ _; omega, by show m.x + 1 ≤ _; omega, by show (m.cells ++ [c]).length ≤ _; simp; omega⟩
    · cases h
theorem Mach.run_le : ∀ (l : List UInt8) (m m' : Mach) (a : Nat), m.run l = some m' → m.w ≤ a → m.h ≤ a → m.x ≤ a → m.cells.length ≤ a → m'.w ≤ a + l.length ∧ m'.h ≤ a + l.length ∧ m'.x ≤ a + l.length ∧ m'.cells.length ≤ a + l.length
  | [], m, m', a, h, hw, hh, hx, hc => by
    have : m = m' := Option.some.inj h
    subst this
    exact ⟨by simpa using hw, by simpa using hh, by simpa using hx, by simpa using hc⟩
  | c :: l, m, m', a, h, hw, hh, hx, hc => by
    rw [Mach.run_cons] at h
    cases hs : m.step c with
    | none => rw [hs] at h; cases h
    | some m1 =>
      rw [hs] at h
      obtain ⟨b1, b2, b3, b4⟩ := Mach.step_le hs hw hh hx hc
      obtain ⟨c1, c2, c3, c4⟩ := Mach.run_le l m1 m' (a + 1) h b1 b2 b3 b4
      simp only [List.length_cons]
      omega
theorem mach0_le {l : List UInt8} {m : Mach} (h : mach0.run l = some m) : m.w ≤ l.length ∧ m.h ≤ l.length ∧ m.x ≤ l.length ∧ m.cells.length ≤ l.length := by
  have := Mach.run_le l mach0 m 0 h (by simp [mach0]) (by simp [mach0]) (by simp [mach0]) (by simp [mach0])
  simpa using this
/-- A step more of the reading. -/
theorem run_take {m : Mach} {L : List UInt8} {k : Nat} {c : UInt8} (h : mach0.run (L.take k) = some m) (hc : L[k]? = some c) : mach0.run (L.take (k + 1)) = m.step c := by
  rw [List.take_add_one, hc]
  exact Mach.run_snoc h
theorem run_stopped {m : Mach} {L : List UInt8} {k : Nat} {c : UInt8} (h : mach0.run (L.take k) = some m) (hc : L[k]? = some c) (hs : m.step c = none) : mach0.run L = none := by
  have hlt := (List.getElem?_eq_some_iff.1 hc).1
  have hg := (List.getElem?_eq_some_iff.1 hc).2
  have e : L = L.take k ++ c :: L.drop (k + 1) := by
    conv => lhs; rw [← List.take_append_drop k L]
    rw [List.drop_eq_getElem_cons hlt, hg]
  rw [e]
  exact Mach.run_stop h hs
theorem not_board {l : List UInt8} (h : mach0.run (l ++ [47]) = none) : isBd l = false := by
  cases hb : isBd l
  · rfl
  · rw [(read_yes hb).1] at h; cases h

/-- The sign of a cell; none: a wall's. -/
def cellI (rows : List (List UInt8)) (x y : Int) : UInt8 := if 0 ≤ x ∧ 0 ≤ y then (rows.getD y.toNat []).getD x.toNat 35 else 35
def floorI (rows : List (List UInt8)) (x y : Int) : Bool := cellI rows x y == 46
/-- Is there a cell? -/
def hasI (rows : List (List UInt8)) (w : Nat) (x y : Int) : Bool := decide (0 ≤ x ∧ x < w ∧ 0 ≤ y ∧ y < rows.length)
theorem flat_at : ∀ (rs : List (List UInt8)) (n y x : Nat), rs.all (rowOk n) = true → x < n → y < rs.length → rs.flatten[y * n + x]? = some ((rs.getD y []).getD x 35)
  | [], _, _, _, _, _, h => by simp at h
  | r :: rs, n, y, x, h, hx, hy => by
    simp only [List.all_cons, Bool.and_eq_true, rowOk, decide_eq_true_eq] at h
    rw [List.flatten_cons]
    cases y with
    | zero =>
      rw [List.getElem?_append_left (by omega)]
      simp [List.getElem?_eq_getElem (show x < r.length by omega)]
    | succ y =>
      rw [List.getElem?_append_right (by rw [h.1.1, Nat.add_mul]; omega), h.1.1, show (y + 1) * n + x - n = y * n + x from by rw [Nat.add_mul]; omega, flat_at rs n y x h.2 hx (by simpa using hy)]
      rfl
end Go.Proofs.YthdkhikkdcjifaaDoor
namespace Go.Proofs.YthdkhikkdcjifaaDoor
set_option maxRecDepth 100000
set_option linter.all false
open Go

/-- Is a sign a label? -/
def isDig (c : UInt8) : Bool := decide (48 ≤ (c.toNat : Int) ∧ (c.toNat : Int) ≤ 57)
/-- Floor in place of a label. -/
def unl (c : UInt8) : UInt8 := if isDig c then 46 else c
def unlab (l : List UInt8) : List UInt8 := l.map unl
/-- Is a text a labelled board? -/
def isLab (l : List UInt8) : Bool := isBd (unlab l)

theorem unl_slash (c : UInt8) : unl c = 47 ↔ c = 47 := by
  unfold unl
  split
  · rename_i h
    constructor
    · intro h'; exact absurd h' (by decide)
    · intro h'; subst h'; exact absurd h (by decide)
  · rfl
theorem unl_no {c : UInt8} (h : isDig c = false) : unl c = c := by unfold unl; rw [h]; rfl
theorem unl_yes {c : UInt8} (h : isDig c = true) : unl c = 46 := by unfold unl; rw [h]; rfl
theorem unlab_len (l : List UInt8) : (unlab l).length = l.length := by simp [unlab]
theorem map_consHead (c : UInt8) (m : List (List UInt8)) (h : m ≠ []) : (consHead c m).map unlab = consHead (unl c) (m.map unlab) := by
  cases m with
  | nil => exact absurd rfl h
  | cons r rs => simp [consHead, unlab]
theorem split_unlab : ∀ l : List UInt8, splitP (unlab l) = (splitP l).map unlab
  | [] => by simp [unlab, splitP]
  | c :: l => by
    have ih := split_unlab l
    show splitP (unl c :: unlab l) = _
    unfold splitP
    by_cases h : c = 47
    · rw [if_pos ((unl_slash c).2 h), if_pos h, ih]
      rfl
    · rw [if_neg (fun h' => h ((unl_slash c).1 h')), if_neg h, ih, map_consHead c _ (splitP_ne l)]
theorem width_unlab (l : List UInt8) : width (unlab l) = width l := by
  unfold width
  rw [split_unlab]
  obtain ⟨r, rs, h⟩ := splitP_cons l
  rw [h]
  simp [unlab]
theorem rows_unlab (l : List UInt8) : (splitP (unlab l)).length = (splitP l).length := by rw [split_unlab, List.length_map]
theorem flat_unlab (l : List UInt8) : (splitP (unlab l)).flatten = unlab (splitP l).flatten := by
  rw [split_unlab]
  unfold unlab
  rw [List.map_flatten]
theorem split_mem {l r : List UInt8} (h : r ∈ splitP l) : ∀ c ∈ r, c ∈ l ∧ c ≠ 47 := by
  induction l generalizing r with
  | nil =>
    simp [splitP] at h
    subst h
    simp
  | cons a l ih =>
    unfold splitP at h
    split at h
    · rcases List.mem_cons.1 h with rfl | h
      · simp
      · exact fun c hc => ⟨List.mem_cons_of_mem _ (ih h c hc).1, (ih h c hc).2⟩
    · rename_i ha
      obtain ⟨q, qs, hq⟩ := splitP_cons l
      rw [hq] at h ih
      rcases List.mem_cons.1 h with rfl | h
      · intro c hc
        rcases List.mem_cons.1 hc with rfl | hc
        · exact ⟨by simp, ha⟩
        · exact ⟨List.mem_cons_of_mem _ (ih (r := q) (by simp) c hc).1, (ih (r := q) (by simp) c hc).2⟩
      · exact fun c hc => ⟨List.mem_cons_of_mem _ (ih (by simp [h]) c hc).1, (ih (by simp [h]) c hc).2⟩
/-- The signs that are no '/', in their order. -/
theorem flat_filter : ∀ l : List UInt8, (splitP l).flatten = l.filter (fun c => !(c == 47))
  | [] => by simp [splitP]
  | c :: l => by
    have ih := flat_filter l
    unfold splitP
    by_cases h : c = 47
    · rw [if_pos h]
      subst h
      simpa using ih
    · rw [if_neg h]
      obtain ⟨r, rs, hr⟩ := splitP_cons l
      rw [hr] at ih ⊢
      rw [List.filter_cons, if_pos (by simp [h]), ← ih]
      simp [consHead]

/-- The text of rows. -/
def joinP : List (List UInt8) → List UInt8
  | [] => []
  | [r] => r
  | r :: rs => r ++ 47 :: joinP rs
theorem joinP_cons (r : List UInt8) {rs : List (List UInt8)} (h : rs ≠ []) : joinP (r :: rs) = r ++ 47 :: joinP rs := by
  cases rs with
  | nil => exact absurd rfl h
  | cons _ _ => rfl
theorem join_head (c : UInt8) (m : List (List UInt8)) (h : m ≠ []) : joinP (consHead c m) = c :: joinP m := by
  cases m with
  | nil => exact absurd rfl h
  | cons r rs =>
    cases rs with
    | nil => rfl
    | cons a b => rfl
theorem join_split : ∀ l : List UInt8, joinP (splitP l) = l
  | [] => rfl
  | c :: l => by
    have ih := join_split l
    unfold splitP
    by_cases h : c = 47
    · rw [if_pos h, joinP_cons _ (splitP_ne l), ih, h]
      rfl
    · rw [if_neg h, join_head _ _ (splitP_ne l), ih]
/-- A text whose rows are all of one length. -/
def Even (l : List UInt8) (W : Nat) : Prop := ∀ r ∈ splitP l, r.length = W
theorem even_unlab {l : List UInt8} {W : Nat} : Even (unlab l) W ↔ Even l W := by
  unfold Even
  rw [split_unlab]
  constructor
  · intro h r hr
    have := h (unlab r) (List.mem_map.2 ⟨r, hr, rfl⟩)
    rwa [unlab_len] at this
  · intro h r hr
    obtain ⟨q, hq, rfl⟩ := List.mem_map.1 hr
    rw [unlab_len]
    exact h q hq
theorem bd_even {l : List UInt8} (h : isBd l = true) : Even l (width l) := by
  unfold isBd at h
  simp only [Bool.and_eq_true, decide_eq_true_eq] at h
  intro r hr
  have := List.all_eq_true.1 h.2 r hr
  simp only [rowOk, Bool.and_eq_true, decide_eq_true_eq] at this
  exact this.1
theorem join_len : ∀ (rs : List (List UInt8)) (W : Nat), rs ≠ [] → (∀ r ∈ rs, r.length = W) → (joinP rs).length + 1 = rs.length * (W + 1)
  | [], _, h, _ => absurd rfl h
  | [r], W, _, hr => by simp [joinP, hr r (by simp)]
  | r :: q :: rs, W, _, hr => by
    have ih := join_len (q :: rs) W (by simp) (fun x hx => hr x (List.mem_cons_of_mem _ hx))
    rw [joinP_cons r (by simp), List.length_append, List.length_cons, hr r (by simp)]
    rw [List.length_cons (as := q :: rs), Nat.add_mul]
    omega
theorem join_at : ∀ (rs : List (List UInt8)) (W : Nat), (∀ r ∈ rs, r.length = W) → ∀ k j : Nat, k < rs.length → j < W → (joinP rs)[k * (W + 1) + j]? = (rs.getD k [])[j]?
  | [], _, _, k, _, hk, _ => by simp at hk
  | [r], W, hr, k, j, hk, hj => by
    have : k = 0 := by simpa using hk
    subst this
    simp [joinP]
  | r :: q :: rs, W, hr, k, j, hk, hj => by
    have h0 := hr r (by simp)
    rw [joinP_cons r (by simp)]
    cases k with
    | zero =>
      rw [List.getElem?_append_left (by omega)]
      simp
    | succ k =>
      have ih := join_at (q :: rs) W (fun x hx => hr x (List.mem_cons_of_mem _ hx)) k j (by simpa using hk) hj
      rw [List.getElem?_append_right (by rw [h0, Nat.add_mul]; omega), h0]
      have e : (k + 1) * (W + 1) + j - W = (k * (W + 1) + j) + 1 := by rw [Nat.add_mul k 1]; omega
      rw [e, List.getElem?_cons_succ, ih]
      rfl
theorem join_mark : ∀ (rs : List (List UInt8)) (W : Nat), (∀ r ∈ rs, r.length = W) → ∀ k : Nat, k + 1 < rs.length → (joinP rs)[k * (W + 1) + W]? = some 47
  | [], _, _, k, hk => by simp at hk
  | [r], _, _, k, hk => by simp at hk
  | r :: q :: rs, W, hr, k, hk => by
    have h0 := hr r (by simp)
    rw [joinP_cons r (by simp)]
    cases k with
    | zero =>
      rw [List.getElem?_append_right (by omega), h0]
      simp
    | succ k =>
      have ih := join_mark (q :: rs) W (fun x hx => hr x (List.mem_cons_of_mem _ hx)) k (by simpa using hk)
      rw [List.getElem?_append_right (by rw [h0, Nat.add_mul]; omega), h0]
      have e : (k + 1) * (W + 1) + W - W = (k * (W + 1) + W) + 1 := by rw [Nat.add_mul k 1]; omega
      rw [e, List.getElem?_cons_succ, ih]
theorem even_len {l : List UInt8} {W : Nat} (h : Even l W) : l.length + 1 = (splitP l).length * (W + 1) := by
  have := join_len (splitP l) W (splitP_ne l) h
  rwa [join_split] at this
theorem even_at {l : List UInt8} {W : Nat} (h : Even l W) {k j : Nat} (hk : k < (splitP l).length) (hj : j < W) : l[k * (W + 1) + j]? = ((splitP l).getD k [])[j]? := by
  have := join_at (splitP l) W h k j hk hj
  rwa [join_split] at this
theorem even_mark {l : List UInt8} {W : Nat} (h : Even l W) {k : Nat} (hk : k + 1 < (splitP l).length) : l[k * (W + 1) + W]? = some 47 := by
  have := join_mark (splitP l) W h k hk
  rwa [join_split] at this
theorem even_row {l : List UInt8} {W : Nat} (h : Even l W) {k : Nat} (hk : k < (splitP l).length) : ((splitP l).getD k []).length = W ∧ ∀ c ∈ (splitP l).getD k [], c ≠ 47 := by
  have e : (splitP l).getD k [] = (splitP l)[k]'hk := by simp [hk]
  rw [e]
  exact ⟨h _ (List.getElem_mem hk), fun c hc => (split_mem (List.getElem_mem hk) c hc).2⟩
/-- The sign of a cell by its place in the text. -/
theorem even_cell {l : List UInt8} {W : Nat} (h : Even l W) {k j : Nat} (hk : k < (splitP l).length) (hj : j < W) : l[k * (W + 1) + j]? = some (cellI (splitP l) j k) ∧ cellI (splitP l) j k ≠ 47 := by
  obtain ⟨h1, h2⟩ := even_row h hk
  have e : cellI (splitP l) j k = ((splitP l).getD k []).getD j 35 := by unfold cellI; rw [if_pos ⟨by omega, by omega⟩]; rfl
  have h3 : ((splitP l).getD k [])[j]? = some (((splitP l).getD k []).getD j 35) := by
    simp only [List.getD]
    rw [List.getElem?_eq_getElem (by simpa [List.getD] using (by omega : j < ((splitP l).getD k []).length))]
    rfl
  rw [even_at h hk hj, e]
  refine ⟨h3, h2 _ ?_⟩
  exact List.mem_of_getElem? h3
theorem cellI_flat {l : List UInt8} {W : Nat} (h : Even l W) {k j : Nat} (hk : k < (splitP l).length) (hj : j < W) : (splitP l).flatten[k * W + j]? = some (cellI (splitP l) j k) := by
  have e : cellI (splitP l) j k = ((splitP l).getD k []).getD j 35 := by unfold cellI; rw [if_pos ⟨by omega, by omega⟩]; rfl
  rw [e]
  have key : ∀ (rs : List (List UInt8)) (y : Nat), (∀ r ∈ rs, r.length = W) → y < rs.length → rs.flatten[y * W + j]? = some ((rs.getD y []).getD j 35) := by
    intro rs
    induction rs with
    | nil => intro y _ hy; simp at hy
    | cons r rs ih =>
      intro y hr hy
      have h0 := hr r (by simp)
      rw [List.flatten_cons]
      cases y with
      | zero =>
        rw [List.getElem?_append_left (by omega)]
        simp [List.getElem?_eq_getElem (show j < r.length by omega)]
      | succ y =>
        rw [List.getElem?_append_right (by rw [h0, Nat.add_mul]; omega), h0, show (y + 1) * W + j - W = y * W + j from by rw [Nat.add_mul]; omega, ih y (fun x hx => hr x (by simp [hx])) (by simpa using hy)]
        rfl
  exact key _ _ h hk
theorem flat_even {l : List UInt8} {W : Nat} (h : Even l W) : (splitP l).flatten.length = W * (splitP l).length := by
  have key : ∀ rs : List (List UInt8), (∀ r ∈ rs, r.length = W) → rs.flatten.length = W * rs.length := by
    intro rs
    induction rs with
    | nil => simp
    | cons r rs ih =>
      intro hr
      rw [List.flatten_cons, List.length_append, hr r (by simp), ih (fun x hx => hr x (by simp [hx])), List.length_cons, Nat.mul_add]
      omega
  exact key _ h
theorem cellI_unlab {l : List UInt8} (x y : Int) : cellI (splitP (unlab l)) x y = unl (cellI (splitP l) x y) := by
  unfold cellI
  split
  · rw [split_unlab]
    simp only [List.getD, List.getElem?_map]
    cases (splitP l)[y.toNat]? with
    | none => simp; decide
    | some r =>
      simp only [Option.map_some, Option.getD_some, unlab, List.getElem?_map]
      cases r[x.toNat]? with
      | none => simp; decide
      | some c => rfl
  · decide
end Go.Proofs.YthdkhikkdcjifaaDoor
namespace Go.Proofs.YthdkhikkdcjifaaDoor
set_option maxRecDepth 100000
set_option linter.all false
open Go

/-- How many labels a text has. -/
def cntD (L : List UInt8) : Nat := L.countP isDig
end Go.Proofs.YthdkhikkdcjifaaDoor
namespace Go.Proofs.YthdkhikkdcjifaaDoor
set_option maxRecDepth 100000
set_option linter.all false
open Go

/-- Rows without '/' are cut again as they were joined. -/
theorem split_join : ∀ (rs : List (List UInt8)), rs ≠ [] → (∀ r ∈ rs, ∀ c ∈ r, c ≠ 47) → splitP (joinP rs) = rs
  | [], h, _ => absurd rfl h
  | [r], _, h => by
    show splitP r = [r]
    exact splitP_miss r (h r (by simp))
  | r :: q :: rs, _, h => by
    rw [joinP_cons r (by simp), splitP_hit r _ (h r (by simp)), split_join (q :: rs) (by simp) (fun x hx => h x (List.mem_cons_of_mem _ hx))]
theorem join_set : ∀ (rs : List (List UInt8)) (W : Nat), (∀ r ∈ rs, r.length = W) → ∀ (y x : Nat) (c : UInt8), y < rs.length → x < W → (joinP rs).set (y * (W + 1) + x) c = joinP (rs.set y ((rs.getD y []).set x c))
  | [], _, _, y, _, _, h, _ => by simp at h
  | [r], W, hr, y, x, c, hy, hx => by
    have : y = 0 := by simpa using hy
    subst this
    simp [joinP]
  | r :: q :: rs, W, hr, y, x, c, hy, hx => by
    have h0 := hr r (by simp)
    cases y with
    | zero =>
      rw [joinP_cons r (by simp), List.set_append_left _ _ (by omega)]
      simp [joinP]
    | succ y =>
      have ih := join_set (q :: rs) W (fun z hz => hr z (List.mem_cons_of_mem _ hz)) y x c (by simpa using hy) hx
      rw [joinP_cons r (by simp), List.set_append_right _ _ (by rw [h0, Nat.add_mul]; omega), h0]
      have e : (y + 1) * (W + 1) + x - W = (y * (W + 1) + x) + 1 := by rw [Nat.add_mul y 1]; omega
      rw [e, List.set_cons_succ, ih]
      rw [List.set_cons_succ, joinP_cons r (by cases y <;> simp)]
      rfl
theorem flat_set : ∀ (rs : List (List UInt8)) (W : Nat), (∀ r ∈ rs, r.length = W) → ∀ (y x : Nat) (c : UInt8), y < rs.length → x < W → rs.flatten.set (y * W + x) c = (rs.set y ((rs.getD y []).set x c)).flatten
  | [], _, _, y, _, _, h, _ => by simp at h
  | r :: rs, W, hr, y, x, c, hy, hx => by
    have h0 := hr r (by simp)
    cases y with
    | zero =>
      rw [List.flatten_cons, List.set_append_left _ _ (by omega)]
      simp
    | succ y =>
      have ih := flat_set rs W (fun z hz => hr z (List.mem_cons_of_mem _ hz)) y x c (by simpa using hy) hx
      rw [List.flatten_cons, List.set_append_right _ _ (by rw [h0, Nat.add_mul]; omega), h0, show (y + 1) * W + x - W = y * W + x from by rw [Nat.add_mul]; omega, ih, List.set_cons_succ, List.flatten_cons]
      rfl
/-- A sign written at a cell. -/
theorem put_even {S : List UInt8} {W : Nat} (h : Even S W) {x y : Nat} (hy : y < (splitP S).length) (hx : x < W) (c : UInt8) (hc : c ≠ 47) :
    Even (S.set (y * (W + 1) + x) c) W ∧ (splitP (S.set (y * (W + 1) + x) c)).length = (splitP S).length ∧ (splitP (S.set (y * (W + 1) + x) c)).flatten = (splitP S).flatten.set (y * W + x) c := by
  have e1 : S.set (y * (W + 1) + x) c = joinP ((splitP S).set y (((splitP S).getD y []).set x c)) := by
    have := join_set (splitP S) W h y x c hy hx
    rwa [join_split] at this
  have hm : ∀ r ∈ (splitP S).set y (((splitP S).getD y []).set x c), r.length = W ∧ ∀ d ∈ r, d ≠ 47 := by
    intro r hr
    rcases List.mem_or_eq_of_mem_set hr with hr | rfl
    · exact ⟨h r hr, fun d hd => (split_mem hr d hd).2⟩
    · obtain ⟨h1, h2⟩ := even_row h hy
      refine ⟨by rw [List.length_set]; exact h1, fun d hd => ?_⟩
      rcases List.mem_or_eq_of_mem_set hd with hd | rfl
      · exact h2 d hd
      · exact hc
  have e2 : splitP (S.set (y * (W + 1) + x) c) = (splitP S).set y (((splitP S).getD y []).set x c) := by
    rw [e1]
    refine split_join _ ?_ (fun r hr => (hm r hr).2)
    intro he
    have := congrArg List.length he
    rw [List.length_set] at this
    simp at this
    exact splitP_ne S this
  refine ⟨?_, by rw [e2, List.length_set], ?_⟩
  · intro r hr
    rw [e2] at hr
    exact (hm r hr).1
  · rw [e2, flat_set (splitP S) W h y x c hy hx]
/-- The label of a face. -/
def lab (n : Int) : UInt8 := UInt8.ofNat (48 + n.toNat)
theorem lab_nat {n : Int} (h0 : 0 ≤ n) (h9 : n ≤ 9) : ((lab n).toNat : Int) = 48 + n := by
  unfold lab
  rw [UInt8.toNat_ofNat']
  omega
theorem lab_dig {n : Int} (h0 : 0 ≤ n) (h9 : n ≤ 9) : isDig (lab n) = true := by
  unfold isDig
  rw [decide_eq_true_eq, lab_nat h0 h9]
  omega
theorem lab_not47 {n : Int} (h0 : 0 ≤ n) (h9 : n ≤ 9) : lab n ≠ 47 := by
  intro h
  have := lab_nat h0 h9
  rw [h] at this
  have e : ((47 : UInt8).toNat : Int) = 47 := rfl
  omega
theorem bd_unlab {l : List UInt8} (h : isBd l = true) : unlab l = l := by
  have hk : ∀ c ∈ l, unl c = c := by
    intro c hc
    by_cases h47 : c = 47
    · subst h47; rfl
    · have hm : c ∈ (splitP l).flatten := by
        rw [flat_filter]
        exact List.mem_filter.2 ⟨hc, by simp [h47]⟩
      obtain ⟨r, hr, hcr⟩ := List.mem_flatten.1 hm
      unfold isBd at h
      simp only [Bool.and_eq_true] at h
      have := List.all_eq_true.1 h.2 r hr
      simp only [rowOk, Bool.and_eq_true] at this
      have h2 := List.all_eq_true.1 this.2 c hcr
      unfold okC at h2
      apply unl_no
      unfold isDig
      rw [decide_eq_false_iff_not]
      rw [Bool.or_eq_true, beq_iff_eq, beq_iff_eq] at h2
      rcases h2 with rfl | rfl <;> decide
  unfold unlab
  conv => rhs; rw [← List.map_id l]
  exact List.map_congr_left (fun c hc => hk c hc)
/-- A label written where there is floor leaves the floor as it is. -/
theorem unlab_put {S : List UInt8} {p : Nat} {c d : UInt8} (h : S[p]? = some d) (hd : unl d = 46) (hc : isDig c = true) : unlab (S.set p c) = unlab S := by
  unfold unlab
  rw [List.map_set, unl_yes hc]
  obtain ⟨hp, he⟩ := List.getElem?_eq_some_iff.1 h
  have e : (S.map unl)[p]'(by simpa using hp) = 46 := by rw [List.getElem_map, he, hd]
  rw [← e]
  exact List.set_getElem_self _
end Go.Proofs.YthdkhikkdcjifaaDoor
