/- Plain mathematics of labelled boards: labels taken away, rows of equal length in a text. No Go in sight. -/
import Derived.Test.YtbfclnigjijkbaaBoard
namespace Go.Proofs.Ytbfclnigjijkbaa
set_option maxRecDepth 100000
set_option linter.all false
open Go

/-- Is a sign a label? -/
def isDig (c : UInt8) : Bool := decide (48 ≤ (c.toNat : Int) ∧ (c.toNat : Int) ≤ 57)
/-- Floor in place of a label. -/
def unl (c : UInt8) : UInt8 := if isDig c then 46 else c
def unlab (l : List UInt8) : List UInt8 := l.map unl
/-- Is a text a labelled board? -/
def isLab (l : List UInt8) : Bool := isBd (unlab l)

theorem unl_slash (c : UInt8) : unl c = 47 ↔ c = 47 := by
  unfold unl
  split
  · rename_i h
    constructor
    · intro h'; exact absurd h' (by decide)
    · intro h'; subst h'; exact absurd h (by decide)
  · rfl
theorem unl_no {c : UInt8} (h : isDig c = false) : unl c = c := by unfold unl; rw [h]; rfl
theorem unl_yes {c : UInt8} (h : isDig c = true) : unl c = 46 := by unfold unl; rw [h]; rfl
theorem unlab_len (l : List UInt8) : (unlab l).length = l.length := by simp [unlab]
theorem map_consHead (c : UInt8) (m : List (List UInt8)) (h : m ≠ []) : (consHead c m).map unlab = consHead (unl c) (m.map unlab) := by
  cases m with
  | nil => exact absurd rfl h
  | cons r rs => simp [consHead, unlab]
theorem split_unlab : ∀ l : List UInt8, splitP (unlab l) = (splitP l).map unlab
  | [] => by simp [unlab, splitP]
  | c :: l => by
    have ih := split_unlab l
    show splitP (unl c :: unlab l) = _
    unfold splitP
    by_cases h : c = 47
    · rw [if_pos ((unl_slash c).2 h), if_pos h, ih]
      rfl
    · rw [if_neg (fun h' => h ((unl_slash c).1 h')), if_neg h, ih, map_consHead c _ (splitP_ne l)]
theorem width_unlab (l : List UInt8) : width (unlab l) = width l := by
  unfold width
  rw [split_unlab]
  obtain ⟨r, rs, h⟩ := splitP_cons l
  rw [h]
  simp [unlab]
theorem rows_unlab (l : List UInt8) : (splitP (unlab l)).length = (splitP l).length := by rw [split_unlab, List.length_map]
theorem flat_unlab (l : List UInt8) : (splitP (unlab l)).flatten = unlab (splitP l).flatten := by
  rw [split_unlab]
  unfold unlab
  rw [List.map_flatten]
theorem split_mem {l r : List UInt8} (h : r ∈ splitP l) : ∀ c ∈ r, c ∈ l ∧ c ≠ 47 := by
  induction l generalizing r with
  | nil =>
    simp [splitP] at h
    subst h
    simp
  | cons a l ih =>
    unfold splitP at h
    split at h
    · rcases List.mem_cons.1 h with rfl | h
      · simp
      · exact fun c hc => ⟨List.mem_cons_of_mem _ (ih h c hc).1, (ih h c hc).2⟩
    · rename_i ha
      obtain ⟨q, qs, hq⟩ := splitP_cons l
      rw [hq] at h ih
      rcases List.mem_cons.1 h with rfl | h
      · intro c hc
        rcases List.mem_cons.1 hc with rfl | hc
        · exact ⟨by simp, ha⟩
        · exact ⟨List.mem_cons_of_mem _ (ih (r := q) (by simp) c hc).1, (ih (r := q) (by simp) c hc).2⟩
      · exact fun c hc => ⟨List.mem_cons_of_mem _ (ih (by simp [h]) c hc).1, (ih (by simp [h]) c hc).2⟩
/-- The signs that are no '/', in their order. -/
theorem flat_filter : ∀ l : List UInt8, (splitP l).flatten = l.filter (fun c => !(c == 47))
  | [] => by simp [splitP]
  | c :: l => by
    have ih := flat_filter l
    unfold splitP
    by_cases h : c = 47
    · rw [if_pos h]
      subst h
      simpa using ih
    · rw [if_neg h]
      obtain ⟨r, rs, hr⟩ := splitP_cons l
      rw [hr] at ih ⊢
      rw [List.filter_cons, if_pos (by simp [h]), ← ih]
      simp [consHead]

/-- The text of rows. -/
def joinP : List (List UInt8) → List UInt8
  | [] => []
  | [r] => r
  | r :: rs => r ++ 47 :: joinP rs
theorem joinP_cons (r : List UInt8) {rs : List (List UInt8)} (h : rs ≠ []) : joinP (r :: rs) = r ++ 47 :: joinP rs := by
  cases rs with
  | nil => exact absurd rfl h
  | cons _ _ => rfl
theorem join_head (c : UInt8) (m : List (List UInt8)) (h : m ≠ []) : joinP (consHead c m) = c :: joinP m := by
  cases m with
  | nil => exact absurd rfl h
  | cons r rs =>
    cases rs with
    | nil => rfl
    | cons a b => rfl
theorem join_split : ∀ l : List UInt8, joinP (splitP l) = l
  | [] => rfl
  | c :: l => by
    have ih := join_split l
    unfold splitP
    by_cases h : c = 47
    · rw [if_pos h, joinP_cons _ (splitP_ne l), ih, h]
      rfl
    · rw [if_neg h, join_head _ _ (splitP_ne l), ih]
/-- A text whose rows are all of one length. -/
def Even (l : List UInt8) (W : Nat) : Prop := ∀ r ∈ splitP l, r.length = W
theorem even_unlab {l : List UInt8} {W : Nat} : Even (unlab l) W ↔ Even l W := by
  unfold Even
  rw [split_unlab]
  constructor
  · intro h r hr
    have := h (unlab r) (List.mem_map.2 ⟨r, hr, rfl⟩)
    rwa [unlab_len] at this
  · intro h r hr
    obtain ⟨q, hq, rfl⟩ := List.mem_map.1 hr
    rw [unlab_len]
    exact h q hq
theorem bd_even {l : List UInt8} (h : isBd l = true) : Even l (width l) := by
  unfold isBd at h
  simp only [Bool.and_eq_true, decide_eq_true_eq] at h
  intro r hr
  have := List.all_eq_true.1 h.2 r hr
  simp only [rowOk, Bool.and_eq_true, decide_eq_true_eq] at this
  exact this.1
theorem join_len : ∀ (rs : List (List UInt8)) (W : Nat), rs ≠ [] → (∀ r ∈ rs, r.length = W) → (joinP rs).length + 1 = rs.length * (W + 1)
  | [], _, h, _ => absurd rfl h
  | [r], W, _, hr => by simp [joinP, hr r (by simp)]
  | r :: q :: rs, W, _, hr => by
    have ih := join_len (q :: rs) W (by simp) (fun x hx => hr x (List.mem_cons_of_mem _ hx))
    rw [joinP_cons r (by simp), List.length_append, List.length_cons, hr r (by simp)]
    rw [List.length_cons (as := q :: rs), Nat.add_mul]
    omega
theorem join_at : ∀ (rs : List (List UInt8)) (W : Nat), (∀ r ∈ rs, r.length = W) → ∀ k j : Nat, k < rs.length → j < W → (joinP rs)[k * (W + 1) + j]? = (rs.getD k [])[j]?
  | [], _, _, k, _, hk, _ => by simp at hk
  | [r], W, hr, k, j, hk, hj => by
    have : k = 0 := by simpa using hk
    subst this
    simp [joinP]
  | r :: q :: rs, W, hr, k, j, hk, hj => by
    have h0 := hr r (by simp)
    rw [joinP_cons r (by simp)]
    cases k with
    | zero =>
      rw [List.getElem?_append_left (by omega)]
      simp
    | succ k =>
      have ih := join_at (q :: rs) W (fun x hx => hr x (List.mem_cons_of_mem _ hx)) k j (by simpa using hk) hj
      rw [List.getElem?_append_right (by rw [h0, Nat.add_mul]; omega), h0]
      have e : (k + 1) * (W + 1) + j - W = (k * (W + 1) + j) + 1 := by rw [Nat.add_mul k 1]; omega
      rw [e, List.getElem?_cons_succ, ih]
      rfl
theorem join_mark : ∀ (rs : List (List UInt8)) (W : Nat), (∀ r ∈ rs, r.length = W) → ∀ k : Nat, k + 1 < rs.length → (joinP rs)[k * (W + 1) + W]? = some 47
  | [], _, _, k, hk => by simp at hk
  | [r], _, _, k, hk => by simp at hk
  | r :: q :: rs, W, hr, k, hk => by
    have h0 := hr r (by simp)
    rw [joinP_cons r (by simp)]
    cases k with
    | zero =>
      rw [List.getElem?_append_right (by omega), h0]
      simp
    | succ k =>
      have ih := join_mark (q :: rs) W (fun x hx => hr x (List.mem_cons_of_mem _ hx)) k (by simpa using hk)
      rw [List.getElem?_append_right (by rw [h0, Nat.add_mul]; omega), h0]
      have e : (k + 1) * (W + 1) + W - W = (k * (W + 1) + W) + 1 := by rw [Nat.add_mul k 1]; omega
      rw [e, List.getElem?_cons_succ, ih]
theorem even_len {l : List UInt8} {W : Nat} (h : Even l W) : l.length + 1 = (splitP l).length * (W + 1) := by
  have := join_len (splitP l) W (splitP_ne l) h
  rwa [join_split] at this
theorem even_at {l : List UInt8} {W : Nat} (h : Even l W) {k j : Nat} (hk : k < (splitP l).length) (hj : j < W) : l[k * (W + 1) + j]? = ((splitP l).getD k [])[j]? := by
  have := join_at (splitP l) W h k j hk hj
  rwa [join_split] at this
theorem even_mark {l : List UInt8} {W : Nat} (h : Even l W) {k : Nat} (hk : k + 1 < (splitP l).length) : l[k * (W + 1) + W]? = some 47 := by
  have := join_mark (splitP l) W h k hk
  rwa [join_split] at this
theorem even_row {l : List UInt8} {W : Nat} (h : Even l W) {k : Nat} (hk : k < (splitP l).length) : ((splitP l).getD k []).length = W ∧ ∀ c ∈ (splitP l).getD k [], c ≠ 47 := by
  have e : (splitP l).getD k [] = (splitP l)[k]'hk := by simp [hk]
  rw [e]
  exact ⟨h _ (List.getElem_mem hk), fun c hc => (split_mem (List.getElem_mem hk) c hc).2⟩
/-- The sign of a cell by its place in the text. -/
theorem even_cell {l : List UInt8} {W : Nat} (h : Even l W) {k j : Nat} (hk : k < (splitP l).length) (hj : j < W) : l[k * (W + 1) + j]? = some (cellI (splitP l) j k) ∧ cellI (splitP l) j k ≠ 47 := by
  obtain ⟨h1, h2⟩ := even_row h hk
  have e : cellI (splitP l) j k = ((splitP l).getD k []).getD j 35 := by unfold cellI; rw [if_pos ⟨by omega, by omega⟩]; rfl
  have h3 : ((splitP l).getD k [])[j]? = some (((splitP l).getD k []).getD j 35) := by
    simp only [List.getD]
    rw [List.getElem?_eq_getElem (by simpa [List.getD] using (by omega : j < ((splitP l).getD k []).length))]
    rfl
  rw [even_at h hk hj, e]
  refine ⟨h3, h2 _ ?_⟩
  exact List.mem_of_getElem? h3
theorem cellI_flat {l : List UInt8} {W : Nat} (h : Even l W) {k j : Nat} (hk : k < (splitP l).length) (hj : j < W) : (splitP l).flatten[k * W + j]? = some (cellI (splitP l) j k) := by
  have e : cellI (splitP l) j k = ((splitP l).getD k []).getD j 35 := by unfold cellI; rw [if_pos ⟨by omega, by omega⟩]; rfl
  rw [e]
  have key : ∀ (rs : List (List UInt8)) (y : Nat), (∀ r ∈ rs, r.length = W) → y < rs.length → rs.flatten[y * W + j]? = some ((rs.getD y []).getD j 35) := by
    intro rs
    induction rs with
    | nil => intro y _ hy; simp at hy
    | cons r rs ih =>
      intro y hr hy
      have h0 := hr r (by simp)
      rw [List.flatten_cons]
      cases y with
      | zero =>
        rw [List.getElem?_append_left (by omega)]
        simp [List.getElem?_eq_getElem (show j < r.length by omega)]
      | succ y =>
        rw [List.getElem?_append_right (by rw [h0, Nat.add_mul]; omega), h0, show (y + 1) * W + j - W = y * W + j from by rw [Nat.add_mul]; omega, ih y (fun x hx => hr x (by simp [hx])) (by simpa using hy)]
        rfl
  exact key _ _ h hk
theorem flat_even {l : List UInt8} {W : Nat} (h : Even l W) : (splitP l).flatten.length = W * (splitP l).length := by
  have key : ∀ rs : List (List UInt8), (∀ r ∈ rs, r.length = W) → rs.flatten.length = W * rs.length := by
    intro rs
    induction rs with
    | nil => simp
    | cons r rs ih =>
      intro hr
      rw [List.flatten_cons, List.length_append, hr r (by simp), ih (fun x hx => hr x (by simp [hx])), List.length_cons, Nat.mul_add]
      omega
  exact key _ h
theorem cellI_unlab {l : List UInt8} (x y : Int) : cellI (splitP (unlab l)) x y = unl (cellI (splitP l) x y) := by
  unfold cellI
  split
  · rw [split_unlab]
    simp only [List.getD, List.getElem?_map]
    cases (splitP l)[y.toNat]? with
    | none => simp; decide
    | some r =>
      simp only [Option.map_some, Option.getD_some, unlab, List.getElem?_map]
      cases r[x.toNat]? with
      | none => simp; decide
      | some c => rfl
  · decide
end Go.Proofs.Ytbfclnigjijkbaa
