/- Plain mathematics of grounds: a ground's text is a board's where weak floor and the hole count as floor; boxes on it. No Go in sight. -/
import Derived.Test.YthdkhikkdcjifaaDoorBoard
namespace Go.Proofs.YthdkhikkdcjifaaDoor
set_option maxRecDepth 100000
set_option linter.all false
open Go

/-- A ground's sign. -/
def okG (c : UInt8) : Bool := c == 46 || c == 35 || c == 45 || c == 111
/-- Floor in place of weak floor and of the hole. -/
def ung (c : UInt8) : UInt8 := if c == 45 || c == 111 then 46 else c
def ungl (l : List UInt8) : List UInt8 := l.map ung
/-- Is a text a ground? -/
def isGd (l : List UInt8) : Bool := isBd (ungl l) && decide (l.count 111 ≤ 1)

theorem ung_all : ∀ c : UInt8, (ung c = 47 ↔ c = 47) ∧ okC (ung c) = okG c ∧ (ung c = 35 ↔ c = 35) := by
  have : ∀ n : Fin 256, (ung (UInt8.ofNat n.val) = 47 ↔ UInt8.ofNat n.val = 47) ∧ okC (ung (UInt8.ofNat n.val)) = okG (UInt8.ofNat n.val) ∧ (ung (UInt8.ofNat n.val) = 35 ↔ UInt8.ofNat n.val = 35) := by decide +kernel
  intro c
  have h := this ⟨c.toNat, c.toNat_lt⟩
  simpa using h
theorem ung_slash (c : UInt8) : ung c = 47 ↔ c = 47 := (ung_all c).1
theorem okC_ung (c : UInt8) : okC (ung c) = okG c := (ung_all c).2.1
theorem ungl_len (l : List UInt8) : (ungl l).length = l.length := by simp [ungl]
theorem mapg_consHead (c : UInt8) (m : List (List UInt8)) (h : m ≠ []) : (consHead c m).map ungl = consHead (ung c) (m.map ungl) := by
  cases m with
  | nil => exact absurd rfl h
  | cons r rs => simp [consHead, ungl]
theorem split_ungl : ∀ l : List UInt8, splitP (ungl l) = (splitP l).map ungl
  | [] => by simp [ungl, splitP]
  | c :: l => by
    have ih := split_ungl l
    show splitP (ung c :: ungl l) = _
    unfold splitP
    by_cases h : c = 47
    · rw [if_pos ((ung_slash c).2 h), if_pos h, ih]
      rfl
    · rw [if_neg (fun h' => h ((ung_slash c).1 h')), if_neg h, ih, mapg_consHead c _ (splitP_ne l)]
theorem width_ungl (l : List UInt8) : width (ungl l) = width l := by
  unfold width
  rw [split_ungl]
  obtain ⟨r, rs, h⟩ := splitP_cons l
  rw [h]
  simp [ungl]
theorem rows_ungl (l : List UInt8) : (splitP (ungl l)).length = (splitP l).length := by rw [split_ungl, List.length_map]
theorem flat_ungl (l : List UInt8) : (splitP (ungl l)).flatten = ungl (splitP l).flatten := by
  rw [split_ungl]
  unfold ungl
  rw [List.map_flatten]
theorem even_ungl {l : List UInt8} {W : Nat} : Even (ungl l) W ↔ Even l W := by
  unfold Even
  rw [split_ungl]
  constructor
  · intro h r hr
    have := h (ungl r) (List.mem_map.2 ⟨r, hr, rfl⟩)
    rwa [ungl_len] at this
  · intro h r hr
    obtain ⟨q, hq, rfl⟩ := List.mem_map.1 hr
    rw [ungl_len]
    exact h q hq
theorem cellI_ungl {l : List UInt8} (x y : Int) : cellI (splitP (ungl l)) x y = ung (cellI (splitP l) x y) := by
  unfold cellI
  split
  · rw [split_ungl]
    simp only [List.getD, List.getElem?_map]
    cases (splitP l)[y.toNat]? with
    | none => simp; decide
    | some r =>
      simp only [Option.map_some, Option.getD_some, ungl, List.getElem?_map]
      cases r[x.toNat]? with
      | none => simp; decide
      | some c => rfl
  · decide
theorem gd_bd {l : List UInt8} (h : isGd l = true) : isBd (ungl l) = true := by
  unfold isGd at h
  rw [Bool.and_eq_true] at h
  exact h.1
theorem gd_even {l : List UInt8} (h : isGd l = true) : Even l (width l) := by
  have := bd_even (gd_bd h)
  rwa [width_ungl, even_ungl] at this

/-! ### A text whose rows have some signs -/
/-- Is a text a board whose cells have the signs of ok? -/
def isW (ok : UInt8 → Bool) (l : List UInt8) : Bool := decide (1 ≤ width l ∧ width l ≤ 7 ∧ (splitP l).length ≤ 7 ∧ width l * (splitP l).length ≤ 36) && (splitP l).all (fun r => decide (r.length = width l) && r.all ok)
theorem isW_bd (l : List UInt8) : isW okC l = isBd l := rfl
theorem isW_gd (l : List UInt8) : isW okG l = isBd (ungl l) := by
  unfold isW isBd
  rw [width_ungl, rows_ungl, split_ungl, List.all_map]
  congr 1
  congr 1
  funext r
  show _ = rowOk (width l) (ungl r)
  unfold rowOk
  rw [ungl_len]
  congr 1
  unfold ungl
  rw [List.all_map]
  congr 1
  funext c
  exact (okC_ung c).symm

/-! ### Boxes -/
/-- A box: a cell and a pose. -/
structure Bx where
  x : Int
  y : Int
  p : Int
def zeroX : Bx := ⟨0, 0, 0⟩
theorem Bx.ext' {s t : Bx} (h1 : s.x = t.x) (h2 : s.y = t.y) (h3 : s.p = t.p) : s = t := by cases s; cases t; simp_all
instance : DecidableEq Bx := fun s t =>
  if h : s.x = t.x ∧ s.y = t.y ∧ s.p = t.p then isTrue (Bx.ext' h.1 h.2.1 h.2.2) else isFalse (fun e => h (by subst e; simp))
/-- The cell that is farthest to the east or to the south. -/
def lastX (b : Bx) : Int := if b.p = 1 then b.x + 1 else b.x
def lastY (b : Bx) : Int := if b.p = 2 then b.y + 1 else b.y
def isPo (p : Int) : Bool := decide (0 ≤ p ∧ p ≤ 2)
/-- Is it a box on rows? -/
def goodX (rows : List (List UInt8)) (b : Bx) : Bool :=
  isPo b.p && !(cellI rows b.x b.y == 35) && !(cellI rows (lastX b) (lastY b) == 35) && (decide (b.p ≠ 0) || !(cellI rows b.x b.y == 45))
/-- The box tipped in direction k. -/
def tipX (b : Bx) (k : Int) : Bx :=
  if k = 0 then (if b.p = 0 then ⟨b.x, b.y - 2, 2⟩ else if b.p = 2 then ⟨b.x, b.y - 1, 0⟩ else ⟨b.x, b.y - 1, b.p⟩)
  else if k = 1 then (if b.p = 0 then ⟨b.x + 1, b.y, 1⟩ else if b.p = 1 then ⟨b.x + 2, b.y, 0⟩ else ⟨b.x + 1, b.y, b.p⟩)
  else if k = 2 then (if b.p = 0 then ⟨b.x, b.y + 1, 2⟩ else if b.p = 2 then ⟨b.x, b.y + 2, 0⟩ else ⟨b.x, b.y + 1, b.p⟩)
  else (if b.p = 0 then ⟨b.x - 2, b.y, 1⟩ else if b.p = 1 then ⟨b.x - 1, b.y, 0⟩ else ⟨b.x - 1, b.y, b.p⟩)
theorem cellI_bd {l : List UInt8} (h : isGd l = true) {x y : Int} (hc : cellI (splitP l) x y ≠ 35) : 0 ≤ x ∧ x ≤ (width l : Int) - 1 ∧ 0 ≤ y ∧ y ≤ ((splitP l).length : Int) - 1 := by
  have he := gd_even h
  by_cases hxy : 0 ≤ x ∧ 0 ≤ y
  · have e : cellI (splitP l) x y = ((splitP l).getD y.toNat []).getD x.toNat 35 := by unfold cellI; rw [if_pos hxy]
    rw [e] at hc
    by_cases hy : y.toNat < (splitP l).length
    · have hr : (splitP l).getD y.toNat [] = (splitP l)[y.toNat]'hy := by simp [hy]
      rw [hr] at hc
      have hl := he _ (List.getElem_mem hy)
      by_cases hx : x.toNat < width l
      · omega
      · exact absurd (by simp [List.getD, List.getElem?_eq_none (show ((splitP l)[y.toNat]'hy).length ≤ x.toNat by omega)]) hc
    · exact absurd (by simp [List.getD, List.getElem?_eq_none (Nat.not_lt.1 hy)]) hc
  · exact absurd (by unfold cellI; rw [if_neg hxy]) hc
theorem good_facts {l : List UInt8} (h : isGd l = true) {b : Bx} (hb : goodX (splitP l) b = true) : 0 ≤ b.x ∧ b.x ≤ 6 ∧ 0 ≤ b.y ∧ b.y ≤ 6 ∧ 0 ≤ b.p ∧ b.p ≤ 2 ∧ b.x ≤ (width l : Int) - 1 ∧ b.y ≤ ((splitP l).length : Int) - 1 ∧ lastX b ≤ (width l : Int) - 1 ∧ lastY b ≤ ((splitP l).length : Int) - 1 := by
  unfold goodX at hb
  simp only [Bool.and_eq_true, Bool.not_eq_true', beq_eq_false_iff_ne] at hb
  obtain ⟨⟨⟨h1, h2⟩, h3⟩, h4⟩ := hb
  have a := cellI_bd h h2
  have b' := cellI_bd h h3
  have hbd := gd_bd h
  unfold isBd at hbd
  rw [width_ungl, rows_ungl] at hbd
  simp only [Bool.and_eq_true, decide_eq_true_eq] at hbd
  unfold isPo at h1
  rw [decide_eq_true_eq] at h1
  omega
/-! ### How the model reads a ground -/
/-- The signs among the first k that are no '/'. -/
def labG (L : List UInt8) (k : Nat) : List UInt8 := (L.take k).filter (fun c => !(c == 47))
theorem labG_le (L : List UInt8) (k : Nat) : (labG L k).length ≤ k := by
  have h1 := List.length_filter_le (fun c : UInt8 => !(c == 47)) (L.take k)
  have h2 := List.length_take_le k L
  exact Nat.le_trans h1 h2
theorem labG_skip {L : List UInt8} {k : Nat} (h : L[k]? = some 47) : labG L (k + 1) = labG L k := by
  unfold labG
  rw [List.take_add_one, h, List.filter_append]
  simp
theorem labG_add {L : List UInt8} {k : Nat} {c : UInt8} (h : L[k]? = some c) (hc : ¬ (c.toNat : Int) = 47) : labG L (k + 1) = labG L k ++ [c] := by
  unfold labG
  have : ¬ c = 47 := fun e => hc (by rw [e]; rfl)
  rw [List.take_add_one, h, List.filter_append]
  simp [this]
/-- How many holes are among the first k signs. -/
def cntO (L : List UInt8) (k : Nat) : Nat := (L.take k).count 111
theorem cntO_le (L : List UInt8) (k : Nat) : cntO L k ≤ k := Nat.le_trans List.count_le_length (List.length_take_le k L)
theorem cntO_hole {L : List UInt8} {k : Nat} (h : L[k]? = some 111) : cntO L (k + 1) = cntO L k + 1 := by
  unfold cntO
  rw [List.take_add_one, h, List.count_append]
  simp
theorem cntO_else {L : List UInt8} {k : Nat} {c : UInt8} (h : L[k]? = some c) (hc : ¬ (c.toNat : Int) = 111) : cntO L (k + 1) = cntO L k := by
  unfold cntO
  have : ¬ c = 111 := fun e => hc (by rw [e]; rfl)
  rw [List.take_add_one, h, List.count_append]
  simp [this]
theorem step_cells {m m' : Mach} {c : UInt8} (h : m.step c = some m') : m'.cells = m.cells ++ [c].filter (fun c => !(c == 47)) := by
  unfold Mach.step at h
  split at h
  · rename_i hc
    subst hc
    split at h
    · cases h
    · have := Option.some.inj h
      subst this
      simp
  · rename_i hc
    split at h
    · have := Option.some.inj h
      subst this
      simp [hc]
    · cases h
theorem run_cells : ∀ (l : List UInt8) (m m' : Mach), m.run l = some m' → m'.cells = m.cells ++ l.filter (fun c => !(c == 47))
  | [], m, m', h => by
    have : m = m' := Option.some.inj h
    subst this
    simp
  | c :: l, m, m', h => by
    rw [Mach.run_cons] at h
    cases hs : m.step c with
    | none => rw [hs] at h; cases h
    | some m1 =>
      rw [hs] at h
      rw [run_cells l m1 m' h, step_cells hs, List.append_assoc, ← List.filter_append]
      rfl
theorem filter_ungl (l : List UInt8) : (ungl l).filter (fun c => !(c == 47)) = ungl (l.filter (fun c => !(c == 47))) := by
  unfold ungl
  rw [List.filter_map]
  congr 1
  apply List.filter_congr
  intro c _
  have := ung_slash c
  by_cases h : c = 47
  · subst h; rfl
  · have h' : ¬ ung c = 47 := fun e => h (this.1 e)
    show (!(ung c == 47)) = (!(c == 47))
    rw [beq_eq_false_iff_ne.2 h, beq_eq_false_iff_ne.2 h']
theorem mach_labG {L : List UInt8} {k : Nat} {m : Mach} (h : mach0.run (ungl (L.take k)) = some m) : m.cells.length = (labG L k).length := by
  rw [run_cells _ _ _ h, filter_ungl]
  show ([] ++ ungl (labG L k)).length = _
  rw [List.nil_append, ungl_len]
theorem ungl_take (L : List UInt8) (k : Nat) : ungl (L.take k) = (ungl L).take k := by unfold ungl; rw [List.map_take]
theorem ungl_at {L : List UInt8} {k : Nat} {c : UInt8} (h : L[k]? = some c) : (ungl L)[k]? = some (ung c) := by unfold ungl; rw [List.getElem?_map, h]; rfl
theorem runG_take {m : Mach} {L : List UInt8} {k : Nat} {c : UInt8} (h : mach0.run (ungl (L.take k)) = some m) (hc : L[k]? = some c) : mach0.run (ungl (L.take (k + 1))) = m.step (ung c) := by
  rw [ungl_take] at h ⊢
  exact run_take h (ungl_at hc)
theorem runG_stopped {m : Mach} {L : List UInt8} {k : Nat} {c : UInt8} (h : mach0.run (ungl (L.take k)) = some m) (hc : L[k]? = some c) (hs : m.step (ung c) = none) : mach0.run (ungl L) = none := by
  rw [ungl_take] at h
  exact run_stopped h (ungl_at hc) hs
theorem gnd_no {L : List UInt8} (h : mach0.run (ungl (L ++ [47])) = none) : isGd L = false := by
  have e : ungl (L ++ [47]) = ungl L ++ [47] := by unfold ungl; rw [List.map_append]; rfl
  rw [e] at h
  unfold isGd
  rw [not_board h]
  rfl
theorem gnd_read {L : List UInt8} {m : Mach} (h : mach0.run (ungl (L ++ [47])) = some m) : 1 ≤ m.w ∧ 0 < m.cells.length ∧ m.w = width L ∧ m.h = (splitP L).length ∧ m.cells.length = (splitP L).flatten.length ∧ (isBd (ungl L) = true → m.w ≤ 7 ∧ m.h ≤ 7 ∧ m.cells.length ≤ 36) ∧ (isBd (ungl L) = false → 7 < m.w ∨ 7 < m.h ∨ 36 < m.cells.length) := by
  have e : ungl (L ++ [47]) = ungl L ++ [47] := by unfold ungl; rw [List.map_append]; rfl
  rw [e] at h
  have hr := read_rows (ungl L)
  rw [h] at hr
  split at hr
  · rename_i hc
    have hm := Option.some.inj hr
    subst hm
    refine ⟨hc.1, ?_, width_ungl L, rows_ungl L, ?_, ?_, fun hb => read_no hb h⟩
    · show 0 < (splitP (ungl L)).flatten.length
      rw [flat_len _ _ hc.2]
      exact Nat.mul_pos hc.1 (List.length_pos_iff.2 (splitP_ne _))
    · show (splitP (ungl L)).flatten.length = _
      rw [flat_ungl, ungl_len]
    · intro hb
      obtain ⟨_, a, b, c⟩ := read_yes hb
      exact ⟨a, b, c⟩
  · cases hr
theorem labG_end (L : List UInt8) : labG (L ++ [47]) (L.length + 1) = (splitP L).flatten := by
  unfold labG
  rw [List.take_of_length_le (by simp), List.filter_append, flat_filter]
  simp
theorem cntO_end (L : List UInt8) : cntO (L ++ [47]) (L.length + 1) = L.count 111 := by
  unfold cntO
  rw [List.take_of_length_le (by simp), List.count_append]
  simp
theorem gd_len {l : List UInt8} (h : isGd l = true) : l.length ≤ 42 := by
  have := isBd_len (gd_bd h)
  rwa [ungl_len] at this
theorem gd_split (l : List UInt8) : isGd l = (isBd (ungl l) && decide (l.count 111 ≤ 1)) := rfl
end Go.Proofs.YthdkhikkdcjifaaDoor
