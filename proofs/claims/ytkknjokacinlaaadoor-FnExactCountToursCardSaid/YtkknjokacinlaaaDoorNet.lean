/- Plain mathematics of sixes: rows, digits, and a die that rolls over them from the first one. Plain mathematics of sixes: the reader of the model. Plain mathematics of sixes: the model's search from the first digit, and its bits of rows and columns. -/
import Derived.Test.YtkknjokacinlaaaDoorBoard
import Derived.Test.YtkknjokacinlaaaDoorPure
import Derived.Test.YtkknjokacinlaaaDoorRollT
namespace Go.Proofs.YtkknjokacinlaaaDoor
set_option maxRecDepth 100000
set_option linter.all false
open Go

/-- A landing: the state, and the number of rolls to it. -/
abbrev Lg := St × Nat
/-- A sign of sixes. -/
def okN (c : UInt8) : Bool := c == 46 || isDig c
/-- Is there a digit? -/
def digL (l : List UInt8) (x y : Int) : Bool := isDig (cellI (splitP l) x y)
def hasDigX (rs : List (List UInt8)) (x : Nat) : Bool := rs.any fun r => isDig (r.getD x 0)
/-- Rows of one length, no strange sign, each row and each column has a digit. -/
def filledB (l : List UInt8) : Bool := (splitP l).all (fun r => decide (r.length = width l) && r.any isDig && r.all okN) && (List.range (width l)).all (hasDigX (splitP l))
def flatL (l : List UInt8) : List UInt8 := (splitP l).flatten
/-- The digits, as numbers of cells. -/
def digs (l : List UInt8) : List Nat := (List.range (flatL l).length).filter fun i => isDig ((flatL l).getD i 0)

theorem dig_slash : isDig 47 = false := rfl
theorem dig_wall : isDig 35 = false := rfl
theorem cnt_flat (l : List UInt8) : cntD l = (flatL l).countP isDig := by
  unfold cntD flatL
  rw [flat_filter, List.countP_filter]
  congr 1
  funext c
  by_cases h : c = 47
  · subst h; rfl
  · simp [h]
theorem count_range (F : List UInt8) : ((List.range F.length).filter fun i => isDig (F.getD i 0)).length = F.countP isDig := by
  rw [← List.countP_eq_length_filter]
  have : F.countP isDig = ((List.range F.length).map fun i => F.getD i 0).countP isDig := by
    congr 1
    apply List.ext_getElem?
    intro i
    by_cases h : i < F.length
    · simp [h]
    · simp [h]
  rw [this, List.countP_map]
  rfl
theorem digs_len (l : List UInt8) : (digs l).length = cntD l := by unfold digs; rw [count_range, ← cnt_flat]
theorem digs_nodup (l : List UInt8) : (digs l).Nodup := (List.nodup_range).filter _
theorem digs_sorted (l : List UInt8) : (digs l).Pairwise (· < ·) := (List.pairwise_lt_range).filter _
theorem mem_digs {l : List UInt8} {i : Nat} : i ∈ digs l ↔ i < (flatL l).length ∧ isDig ((flatL l).getD i 0) = true := by simp [digs]

/-- A text of even rows with six digits. -/
structure Grid6 (l : List UInt8) (W H : Nat) : Prop where
  w1 : 1 ≤ W
  w6 : W ≤ 6
  h1 : 1 ≤ H
  h6 : H ≤ 6
  ww : width l = W
  hh : (splitP l).length = H
  even : Even l W
  ok : ∀ r ∈ splitP l, r.all okN = true
  cnt : cntD l = 6
structure Filled (l : List UInt8) (W H : Nat) : Prop extends Grid6 l W H where
  fill : filledB l = true

theorem nodup_map_on {α β : Type} (f : α → β) : ∀ (l : List α), l.Nodup → (∀ a ∈ l, ∀ b ∈ l, f a = f b → a = b) → (l.map f).Nodup
  | [], _, _ => by simp
  | a :: l, h, hi => by
    rw [List.nodup_cons] at h
    rw [List.map_cons, List.nodup_cons]
    refine ⟨fun hm => ?_, nodup_map_on f l h.2 (fun x hx y hy => hi x (by simp [hx]) y (by simp [hy]))⟩
    obtain ⟨b, hb, e⟩ := List.mem_map.1 hm
    have := hi b (by simp [hb]) a (by simp) e
    subst this
    exact h.1 hb
/-- A sum of at least one for each row. -/
theorem rows_cnt : ∀ (rs : List (List UInt8)), (∀ r ∈ rs, r.any isDig = true) → rs.length ≤ rs.flatten.countP isDig
  | [], _ => by simp
  | r :: rs, h => by
    have h1 := rows_cnt rs (fun x hx => h x (by simp [hx]))
    have h2 : 0 < r.countP isDig := by
      have := h r (by simp)
      rw [List.any_eq_true] at this
      obtain ⟨c, hc, hd⟩ := this
      exact List.countP_pos_iff.2 ⟨c, hc, hd⟩
    rw [List.flatten_cons, List.countP_append, List.length_cons]
    omega
theorem filled_of {l : List UInt8} (h : filledB l = true) (hc : cntD l = 6) : Filled l (width l) (splitP l).length := by
  have h0 := h
  unfold filledB at h
  rw [Bool.and_eq_true] at h
  obtain ⟨hr, hx⟩ := h
  have hr' : ∀ r ∈ splitP l, r.length = width l ∧ r.any isDig = true ∧ r.all okN = true := by
    intro r hm
    have := List.all_eq_true.1 hr r hm
    rw [Bool.and_eq_true, Bool.and_eq_true, decide_eq_true_eq] at this
    exact ⟨this.1.1, this.1.2, this.2⟩
  have he : Even l (width l) := fun r hm => (hr' r hm).1
  have h6 := rows_cnt (splitP l) (fun r hm => (hr' r hm).2.1)
  have hcf := cnt_flat l
  unfold flatL at hcf
  have hH1 : 1 ≤ (splitP l).length := by
    obtain ⟨r, rs, e⟩ := splitP_cons l
    rw [e]; simp
  have hw1 : 1 ≤ width l := by
    obtain ⟨r, rs, e⟩ := splitP_cons l
    obtain ⟨h1, h2, _⟩ := hr' r (by rw [e]; simp)
    rw [List.any_eq_true] at h2
    obtain ⟨c, hcm, _⟩ := h2
    have := List.length_pos_of_mem hcm
    omega
  -- one digit for each column
  have hsel : ∀ x, x < width l → ∃ y, y < (splitP l).length ∧ isDig (((splitP l).getD y []).getD x 0) = true := by
    intro x hxl
    have := List.all_eq_true.1 hx x (List.mem_range.2 hxl)
    unfold hasDigX at this
    rw [List.any_eq_true] at this
    obtain ⟨r, hm, hd⟩ := this
    obtain ⟨y, hy, e⟩ := List.mem_iff_getElem.1 hm
    exact ⟨y, hy, by rw [List.getD_eq_getElem?_getD (l := splitP l), List.getElem?_eq_getElem hy]; simpa [e] using hd⟩
  have hflen := flat_even he
  have hw6 : width l ≤ 6 := by
    have hsel' : ∀ x : Fin (width l), ∃ i, i ∈ digs l ∧ i % width l = x.val := by
      intro x
      obtain ⟨y, hy, hd⟩ := hsel x.val x.isLt
      refine ⟨y * width l + x.val, mem_digs.2 ⟨?_, ?_⟩, ?_⟩
      · unfold flatL
        rw [hflen]
        have := Nat.mul_le_mul_left (width l) (show y + 1 ≤ (splitP l).length from hy)
        rw [Nat.mul_add, Nat.mul_one, Nat.mul_comm (width l) y] at this
        omega
      · have := cellI_flat he hy x.isLt
        unfold flatL
        rw [List.getD_eq_getElem?_getD, this]
        have h2 : cellI (splitP l) (x.val : Int) (y : Int) = ((splitP l).getD y []).getD x.val 35 := by unfold cellI; simp
        rw [h2]
        have hlx : x.val < ((splitP l).getD y []).length := by
          have := (even_row he hy).1
          omega
        rw [List.getD_eq_getElem?_getD, List.getElem?_eq_getElem hlx] at hd
        show isDig (((splitP l).getD y []).getD x.val 35) = true
        rw [List.getD_eq_getElem?_getD, List.getElem?_eq_getElem hlx]
        exact hd
      · rw [Nat.mul_comm, Nat.mul_add_mod, Nat.mod_eq_of_lt x.isLt]
    obtain ⟨f, hf⟩ := Classical.axiomOfChoice hsel'
    have hn : ((List.finRange (width l)).map f).Nodup := by
      refine nodup_map_on f _ (List.nodup_finRange _) (fun a _ b _ e => ?_)
      have h1 := (hf a).2
      have h2 := (hf b).2
      rw [e] at h1
      exact Fin.ext (h1.symm.trans h2)
    have := nodup_le _ (digs l) hn (by
      intro i hi
      obtain ⟨a, _, rfl⟩ := List.mem_map.1 hi
      exact (hf a).1)
    rw [List.length_map, List.length_finRange, digs_len, hc] at this
    exact this
  exact ⟨⟨hw1, hw6, hH1, by omega, rfl, rfl, he, fun r hm => (hr' r hm).2.2, hc⟩, h0⟩

theorem Grid6.flat_len {l : List UInt8} {W H : Nat} (h : Grid6 l W H) : (flatL l).length = W * H := by
  unfold flatL; rw [flat_even h.even, h.hh]
theorem Grid6.at {l : List UInt8} {W H : Nat} (h : Grid6 l W H) {x y : Nat} (hx : x < W) (hy : y < H) : (flatL l)[y * W + x]? = some (cellI (splitP l) x y) :=
  cellI_flat h.even (by rw [h.hh]; exact hy) hx
theorem Grid6.lt {l : List UInt8} {W H : Nat} (h : Grid6 l W H) {x y : Nat} (hx : x < W) (hy : y < H) : y * W + x < W * H := by
  have := Nat.mul_le_mul_left W (show y + 1 ≤ H from hy)
  rw [Nat.mul_add, Nat.mul_one, Nat.mul_comm W y] at this
  omega
/-- A digit lies on the paper. -/
theorem Grid6.in {l : List UInt8} {W H : Nat} (h : Grid6 l W H) {x y : Int} (hd : digL l x y = true) : 0 ≤ x ∧ x < W ∧ 0 ≤ y ∧ y < H := by
  unfold digL cellI at hd
  split at hd
  · rename_i hxy
    by_cases hy : y.toNat < (splitP l).length
    · have hr := (even_row h.even hy).1
      by_cases hx : x.toNat < W
      · rw [h.hh] at hy; omega
      · rw [List.getD_eq_getElem?_getD (l := (splitP l).getD y.toNat []), List.getElem?_eq_none (by omega)] at hd
        cases hd
    · have e : (splitP l).getD y.toNat [] = [] := by simp [List.getD, List.getElem?_eq_none (Nat.not_lt.1 hy)]
      rw [e] at hd
      cases hd
  · cases hd

/-- The number of a position's cell. -/
def ixL (W : Nat) (s : St) : Nat := s.y.toNat * W + s.x.toNat
def seenL (Q : List Lg) (x y : Int) : Bool := Q.any fun q => decide (q.1.x = x ∧ q.1.y = y)
def stepL (l : List UInt8) (q : Lg) (k : Nat) (Q : List Lg) : List Lg :=
  if (digL l (rollT q.1 (k : Int)).x (rollT q.1 (k : Int)).y && !seenL Q (rollT q.1 (k : Int)).x (rollT q.1 (k : Int)).y) = true then Q ++ [(rollT q.1 (k : Int), q.2 + 1)] else Q
def stepsL (l : List UInt8) (q : Lg) : Nat → List Lg → List Lg
  | 0, Q => Q
  | j + 1, Q => stepL l q j (stepsL l q j Q)
def goL (l : List UInt8) : Nat → Nat → List Lg → List Lg
  | 0, _, Q => Q
  | f + 1, n, Q => match Q[n]? with
    | none => Q
    | some q => goL l f (n + 1) (stepsL l q 4 Q)
def firstX (l : List UInt8) : Nat := ((splitP l).headD []).findIdx isDig
def startL (l : List UInt8) : Lg := (⟨firstX l, 0, unitD⟩, 0)
def lgs (l : List UInt8) : List Lg := goL l 7 0 [startL l]

structure GoodQ (l : List UInt8) (Q : List Lg) : Prop where
  dig : ∀ q ∈ Q, digL l q.1.x q.1.y = true
  way : ∀ q ∈ Q, q.1.d ∈ ways
  far : ∀ q ∈ Q, q.2 ≤ Q.length
  apart : Q.Pairwise fun p q => ¬ (p.1.x = q.1.x ∧ p.1.y = q.1.y)

theorem seen_iff {Q : List Lg} {x y : Int} : seenL Q x y = true ↔ ∃ q ∈ Q, q.1.x = x ∧ q.1.y = y := by
  unfold seenL
  rw [List.any_eq_true]
  simp
theorem roll_ways {d : D} (h : d ∈ ways) (k : Nat) (hk : k < 4) : rollK (k : Int) d ∈ ways := by
  have h1 : rollK (k : Int) d = rollC (if k = 0 then 110 else if k = 1 then 101 else if k = 2 then 115 else 119) d := by
    match k, hk with
    | 0, _ => rfl
    | 1, _ => rfl
    | 2, _ => rfl
    | 3, _ => rfl
  rw [h1]
  exact ways_closed' h _
theorem GoodQ.step {l : List UInt8} {Q : List Lg} (h : GoodQ l Q) {q : Lg} (hq : q ∈ Q) (k : Nat) (hk : k < 4) : GoodQ l (stepL l q k Q) := by
  unfold stepL
  split
  · rename_i hc
    rw [Bool.and_eq_true, Bool.not_eq_true'] at hc
    refine ⟨fun p hp => ?_, fun p hp => ?_, fun p hp => ?_, ?_⟩
    · rcases List.mem_append.1 hp with hp | hp
      · exact h.dig p hp
      · rw [List.mem_singleton] at hp; subst hp; exact hc.1
    · rcases List.mem_append.1 hp with hp | hp
      · exact h.way p hp
      · rw [List.mem_singleton] at hp; subst hp; exact roll_ways (h.way q hq) k hk
    · rw [List.length_append, List.length_singleton]
      rcases List.mem_append.1 hp with hp | hp
      · have := h.far p hp; omega
      · rw [List.mem_singleton] at hp; subst hp
        have := h.far q hq
        show q.2 + 1 ≤ _
        omega
    · rw [List.pairwise_append]
      refine ⟨h.apart, by simp, fun a ha b hb => ?_⟩
      rw [List.mem_singleton] at hb; subst hb
      intro e
      have : seenL Q (rollT q.1 (k : Int)).x (rollT q.1 (k : Int)).y = true := seen_iff.2 ⟨a, ha, e⟩
      rw [hc.2] at this
      cases this
  · exact h
theorem stepL_pre (l : List UInt8) (q : Lg) (k : Nat) (Q : List Lg) : ∃ M, stepL l q k Q = Q ++ M := by
  unfold stepL
  split
  · exact ⟨_, rfl⟩
  · exact ⟨[], by simp⟩
theorem stepsL_pre (l : List UInt8) (q : Lg) : ∀ (j : Nat) (Q : List Lg), ∃ M, stepsL l q j Q = Q ++ M
  | 0, Q => ⟨[], by simp [stepsL]⟩
  | j + 1, Q => by
    obtain ⟨M, hM⟩ := stepsL_pre l q j Q
    obtain ⟨M', hM'⟩ := stepL_pre l q j (stepsL l q j Q)
    exact ⟨M ++ M', by rw [stepsL, hM', hM, List.append_assoc]⟩
theorem stepsL_mem {l : List UInt8} {q p : Lg} {j : Nat} {Q : List Lg} (h : p ∈ Q) : p ∈ stepsL l q j Q := by
  obtain ⟨M, hM⟩ := stepsL_pre l q j Q
  rw [hM]; simp [h]
theorem stepsL_get {l : List UInt8} {q p : Lg} {j n : Nat} {Q : List Lg} (h : Q[n]? = some p) : (stepsL l q j Q)[n]? = some p := by
  obtain ⟨M, hM⟩ := stepsL_pre l q j Q
  rw [hM, List.getElem?_append_left (List.getElem?_eq_some_iff.1 h).1]; exact h
theorem GoodQ.steps {l : List UInt8} {Q : List Lg} (h : GoodQ l Q) {q : Lg} (hq : q ∈ Q) : ∀ (j : Nat), j ≤ 4 → GoodQ l (stepsL l q j Q)
  | 0, _ => h
  | j + 1, hj => (h.steps hq j (by omega)).step (stepsL_mem hq) j (by omega)
theorem goL_good {l : List UInt8} : ∀ (f n : Nat) (Q : List Lg), GoodQ l Q → GoodQ l (goL l f n Q)
  | 0, _, Q, h => h
  | f + 1, n, Q, h => by
    unfold goL
    cases hq : Q[n]? with
    | none => exact h
    | some q => exact goL_good f (n + 1) _ (h.steps (List.mem_of_getElem? hq) 4 (by omega))
theorem dig_of {c : UInt8} (h : isDig c = true) : 48 ≤ (c.toNat : Int) ∧ (c.toNat : Int) ≤ 57 := by unfold isDig at h; simpa using h
theorem Filled.first {l : List UInt8} {W H : Nat} (h : Filled l W H) : firstX l < W ∧ digL l (firstX l) 0 = true ∧ ∀ j : Nat, j < firstX l → digL l (j : Int) 0 = false := by
  obtain ⟨r, rs, e⟩ := splitP_cons l
  have hf := h.fill
  unfold filledB at hf
  rw [Bool.and_eq_true] at hf
  have hr := List.all_eq_true.1 hf.1 r (by rw [e]; simp)
  rw [Bool.and_eq_true, Bool.and_eq_true, decide_eq_true_eq, h.ww] at hr
  have hx : firstX l = r.findIdx isDig := by unfold firstX; rw [e]; rfl
  have hlt : r.findIdx isDig < r.length := List.findIdx_lt_length.2 (by
    rw [List.any_eq_true] at hr
    exact hr.1.2)
  have hc : ∀ j : Nat, cellI (splitP l) (j : Int) 0 = r.getD j 35 := by intro j; unfold cellI; rw [e]; simp
  refine ⟨by rw [hx, ← hr.1.1]; exact hlt, ?_, fun j hj => ?_⟩
  · unfold digL
    rw [hc, hx, List.getD_eq_getElem?_getD, List.getElem?_eq_getElem hlt]
    exact List.findIdx_getElem (w := hlt)
  · unfold digL
    have hjl : j < r.length := by omega
    rw [hc, List.getD_eq_getElem?_getD, List.getElem?_eq_getElem hjl]
    rw [hx] at hj
    simpa using List.not_of_lt_findIdx hj
theorem Filled.start {l : List UInt8} {W H : Nat} (h : Filled l W H) : GoodQ l [startL l] := by
  obtain ⟨h1, h2, _⟩ := h.first
  refine ⟨fun q hq => ?_, fun q hq => ?_, fun q hq => ?_, by simp⟩ <;> (rw [List.mem_singleton] at hq; subst hq)
  · exact h2
  · show unitD ∈ ways
    decide +kernel
  · show 0 ≤ _
    omega
/-- The cells of landings are digits, each one met once. -/
theorem GoodQ.ix {l : List UInt8} {W H : Nat} (hf : Grid6 l W H) {Q : List Lg} (h : GoodQ l Q) : (Q.map fun q => ixL W q.1).Nodup ∧ ∀ i ∈ Q.map (fun q => ixL W q.1), i ∈ digs l := by
  constructor
  · unfold List.Nodup
    rw [List.pairwise_map]
    refine h.apart.imp_of_mem (fun {a b} ha hb hne e => hne ?_)
    obtain ⟨a1, a2, a3, a4⟩ := hf.in (h.dig a ha)
    obtain ⟨b1, b2, b3, b4⟩ := hf.in (h.dig b hb)
    unfold ixL at e
    have m1 : (a.1.y.toNat * W + a.1.x.toNat) % W = a.1.x.toNat := by rw [Nat.mul_comm, Nat.mul_add_mod, Nat.mod_eq_of_lt (by omega)]
    have m2 : (b.1.y.toNat * W + b.1.x.toNat) % W = b.1.x.toNat := by rw [Nat.mul_comm, Nat.mul_add_mod, Nat.mod_eq_of_lt (by omega)]
    rw [e, m2] at m1
    have hm : a.1.y.toNat * W = b.1.y.toNat * W := by omega
    have := Nat.eq_of_mul_eq_mul_right hf.w1 hm
    exact ⟨by omega, by omega⟩
  · intro i hi
    obtain ⟨q, hq, rfl⟩ := List.mem_map.1 hi
    have hd := h.dig q hq
    obtain ⟨a1, a2, a3, a4⟩ := hf.in hd
    obtain ⟨x, hx⟩ := Int.eq_ofNat_of_zero_le a1
    obtain ⟨y, hy⟩ := Int.eq_ofNat_of_zero_le a3
    have hxl : x < W := by omega
    have hyl : y < H := by omega
    refine mem_digs.2 ?_
    unfold ixL
    rw [hx, hy, Int.toNat_natCast, Int.toNat_natCast]
    refine ⟨by rw [hf.flat_len]; exact hf.lt hxl hyl, ?_⟩
    rw [List.getD_eq_getElem?_getD, hf.at hxl hyl]
    unfold digL at hd
    rw [hx, hy] at hd
    exact hd
theorem GoodQ.le {l : List UInt8} {W H : Nat} (hf : Grid6 l W H) {Q : List Lg} (h : GoodQ l Q) : Q.length ≤ 6 := by
  obtain ⟨h1, h2⟩ := h.ix hf
  have := nodup_le _ _ h1 h2
  rwa [List.length_map, digs_len, hf.cnt] at this
theorem lgs_good {l : List UInt8} {W H : Nat} (hf : Filled l W H) : GoodQ l (lgs l) := goL_good 7 0 _ hf.start
end Go.Proofs.YtkknjokacinlaaaDoor
namespace Go.Proofs.YtkknjokacinlaaaDoor
set_option maxRecDepth 100000
set_option linter.all false
open Go

def rowOkN (n : Nat) (r : List UInt8) : Bool := decide (r.length = n) && r.all okN
/-- Is a text read? -/
def isRd (l : List UInt8) : Bool := decide (l.length ≤ 41 ∧ 1 ≤ width l) && (splitP l).all (rowOkN (width l))
/-- The model's reader. -/
structure MachN where
  w : Nat
  h : Nat
  x : Nat
  cells : List UInt8
def MachN.step (m : MachN) (c : UInt8) : Option MachN :=
  if c = 47 then (if (0 < m.h ∧ m.x ≠ m.w) ∨ m.x = 0 then none else some ⟨m.x, m.h + 1, 0, m.cells⟩)
  else if okN c = true then some ⟨m.w, m.h, m.x + 1, m.cells ++ [c]⟩ else none
def MachN.run (m : MachN) : List UInt8 → Option MachN
  | [] => some m
  | c :: l => match m.step c with
    | none => none
    | some m' => m'.run l
theorem MachN.run_cons (m : MachN) (c : UInt8) (l : List UInt8) : m.run (c :: l) = (match m.step c with | none => none | some m' => m'.run l) := rfl
theorem MachN.run_append : ∀ (a b : List UInt8) (m : MachN), m.run (a ++ b) = (match m.run a with | none => none | some m' => m'.run b)
  | [], _, _ => rfl
  | c :: a, b, m => by
    rw [List.cons_append, MachN.run_cons, MachN.run_cons]
    cases m.step c with
    | none => rfl
    | some m' => exact MachN.run_append a b m'
theorem MachN.run_snoc {m m' : MachN} {l : List UInt8} {c : UInt8} (h : m.run l = some m') : m.run (l ++ [c]) = m'.step c := by
  rw [MachN.run_append, h]
  show (match m'.step c with | none => none | some m'' => some m'') = _
  cases m'.step c <;> rfl
theorem MachN.run_stop {m m' : MachN} {l : List UInt8} {c : UInt8} {t : List UInt8} (h : m.run l = some m') (hs : m'.step c = none) : m.run (l ++ c :: t) = none := by
  rw [MachN.run_append, h]
  show (match m'.step c with | none => none | some m'' => m''.run t) = _
  rw [hs]
def finN (m : MachN) : List (List UInt8) → Option MachN
  | [] => some m
  | r :: rs => if r.all okN = true ∧ ¬ ((0 < m.h ∧ m.x + r.length ≠ m.w) ∨ m.x + r.length = 0) then finN ⟨m.x + r.length, m.h + 1, 0, m.cells ++ r⟩ rs else none
theorem runN_fin : ∀ (l : List UInt8) (m : MachN), m.run (l ++ [47]) = finN m (splitP l)
  | [], m => by
    show (match m.step 47 with | none => none | some m'' => some m'') = finN m [[]]
    unfold MachN.step finN finN
    simp only [if_pos, List.all_nil, List.length_nil, Nat.add_zero, List.append_nil, true_and]
    split <;> simp_all
  | c :: l, m => by
    rw [List.cons_append]
    unfold MachN.run splitP
    by_cases hc : c = 47
    · subst hc
      rw [if_pos rfl]
      unfold MachN.step finN
      simp only [if_pos, List.all_nil, List.length_nil, Nat.add_zero, List.append_nil, true_and]
      by_cases hx : (0 < m.h ∧ m.x ≠ m.w) ∨ m.x = 0
      · rw [if_pos hx, if_neg (fun h => h hx)]
      · rw [if_neg hx, if_pos hx]
        exact runN_fin l _
    · rw [if_neg hc]
      obtain ⟨r, rs, hr⟩ := splitP_cons l
      rw [hr]
      unfold MachN.step
      rw [if_neg hc]
      by_cases ho : okN c = true
      · rw [if_pos ho]
        show MachN.run ⟨m.w, m.h, m.x + 1, m.cells ++ [c]⟩ (l ++ [47]) = finN m ((c :: r) :: rs)
        rw [runN_fin l, hr]
        unfold finN
        simp only [List.all_cons, ho, Bool.true_and, List.length_cons]
        have e : m.x + 1 + r.length = m.x + (r.length + 1) := by omega
        rw [e]
        simp only [List.append_assoc, List.singleton_append]
      · rw [if_neg ho]
        show none = finN m ((c :: r) :: rs)
        unfold finN
        rw [if_neg]
        simp [ho]
theorem finN_rest : ∀ (rs : List (List UInt8)) (w h : Nat) (cs : List UInt8), 0 < w → 0 < h → finN ⟨w, h, 0, cs⟩ rs = if rs.all (rowOkN w) = true then some ⟨w, h + rs.length, 0, cs ++ rs.flatten⟩ else none
  | [], w, h, cs, _, _ => by simp [finN]
  | r :: rs, w, h, cs, hw, hh => by
    unfold finN
    simp only [Nat.zero_add, List.all_cons, rowOkN]
    by_cases h1 : r.all okN = true
    · by_cases h2 : r.length = w
      · subst h2
        rw [if_pos ⟨h1, by omega⟩, finN_rest rs _ (h + 1) _ hw (by omega)]
        simp only [h1, decide_true, Bool.true_and]
        have e : h + 1 + rs.length = h + (r :: rs).length := by simp; omega
        simp only [List.flatten_cons, List.append_assoc, e]
      · rw [if_neg (fun h => h2 (by omega))]
        simp [h2]
    · rw [if_neg (fun h => h1 h.1)]
      simp [h1]
def machN0 : MachN := ⟨0, 0, 0, []⟩
theorem readN_rows (l : List UInt8) : machN0.run (l ++ [47]) = if 1 ≤ width l ∧ (splitP l).all (rowOkN (width l)) = true then some ⟨width l, (splitP l).length, 0, (splitP l).flatten⟩ else none := by
  rw [runN_fin]
  unfold width
  obtain ⟨r, rs, hr⟩ := splitP_cons l
  rw [hr]
  unfold finN machN0
  simp only [Nat.zero_add, List.headD_cons, List.all_cons]
  by_cases h1 : r.all okN = true
  · by_cases h2 : 1 ≤ r.length
    · rw [if_pos ⟨h1, by omega⟩, finN_rest rs _ _ _ (by omega) (by omega)]
      simp only [rowOkN, h1, decide_true, Bool.true_and, h2, true_and]
      have e : 1 + rs.length = (r :: rs).length := by simp; omega
      rw [e]
      simp only [List.nil_append, List.flatten_cons]
    · rw [if_neg (fun h => h2 (by omega))]
      simp [h2]
  · rw [if_neg (fun h => h1 h.1)]
    simp [rowOkN, h1]
theorem flatN_len : ∀ (rs : List (List UInt8)) (n : Nat), rs.all (rowOkN n) = true → rs.flatten.length = n * rs.length
  | [], n, _ => by simp
  | r :: rs, n, h => by
    simp only [List.all_cons, Bool.and_eq_true, rowOkN, decide_eq_true_eq] at h
    rw [List.flatten_cons, List.length_append, flatN_len rs n h.2, h.1.1, List.length_cons, Nat.mul_add]
    omega
theorem MachN.step_le {m m' : MachN} {c : UInt8} {a : Nat} (h : m.step c = some m') (hw : m.w ≤ a) (hh : m.h ≤ a) (hx : m.x ≤ a) (hc : m.cells.length ≤ a) : m'.w ≤ a + 1 ∧ m'.h ≤ a + 1 ∧ m'.x ≤ a + 1 ∧ m'.cells.length ≤ a + 1 := by
  unfold MachN.step at h
  split at h
  · split at h
    · cases h
    · have := Option.some.inj h
      subst this
      exact ⟨by show m.x ≤ _; omega, by show m.h + 1 ≤ _; omega, by show 0 ≤ _; omega, by show m.cells.length ≤ _; omega⟩
  · split at h
    · have := Option.some.inj h
      subst this
      exact ⟨by show m.w ≤ _; omega, by show m.h ≤ _; omega, by show m.x + 1 ≤ _; omega, by show (m.cells ++ [c]).length ≤ _; simp; omega⟩
    · cases h
theorem MachN.run_le : ∀ (l : List UInt8) (m m' : MachN) (a : Nat), m.run l = some m' → m.w ≤ a → m.h ≤ a → m.x ≤ a → m.cells.length ≤ a → m'.w ≤ a + l.length ∧ m'.h ≤ a + l.length ∧ m'.x ≤ a + l.length ∧ m'.cells.length ≤ a + l.length
  | [], m, m', a, h, hw, hh, hx, hc => by
    have : m = m' := Option.some.inj h
    subst this
    exact ⟨by simpa using hw, by simpa using hh, by simpa using hx, by simpa using hc⟩
  | c :: l, m, m', a, h, hw, hh, hx, hc => by
    rw [MachN.run_cons] at h
    cases hs : m.step c with
    | none => rw [hs] at h; cases h
    | some m1 =>
      rw [hs] at h
      obtain ⟨b1, b2, b3, b4⟩ := MachN.step_le hs hw hh hx hc
      obtain ⟨c1, c2, c3, c4⟩ := MachN.run_le l m1 m' (a + 1) h b1 b2 b3 b4
      simp only [List.length_cons]
      omega
theorem machN0_le {l : List UInt8} {m : MachN} (h : machN0.run l = some m) : m.w ≤ l.length ∧ m.h ≤ l.length ∧ m.x ≤ l.length ∧ m.cells.length ≤ l.length := by
  have := MachN.run_le l machN0 m 0 h (by simp [machN0]) (by simp [machN0]) (by simp [machN0]) (by simp [machN0])
  simpa using this
/-- A step more of the reading. -/
theorem runN_take {m : MachN} {L : List UInt8} {k : Nat} {c : UInt8} (h : machN0.run (L.take k) = some m) (hc : L[k]? = some c) : machN0.run (L.take (k + 1)) = m.step c := by
  rw [List.take_add_one, hc]
  exact MachN.run_snoc h
theorem runN_stopped {m : MachN} {L : List UInt8} {k : Nat} {c : UInt8} (h : machN0.run (L.take k) = some m) (hc : L[k]? = some c) (hs : m.step c = none) : machN0.run L = none := by
  have hlt := (List.getElem?_eq_some_iff.1 hc).1
  have hg := (List.getElem?_eq_some_iff.1 hc).2
  have e : L = L.take k ++ c :: L.drop (k + 1) := by
    conv => lhs; rw [← List.take_append_drop k L]
    rw [List.drop_eq_getElem_cons hlt, hg]
  rw [e]
  exact MachN.run_stop h hs

theorem not_rd {l : List UInt8} (h : machN0.run (l ++ [47]) = none) : isRd l = false := by
  unfold isRd
  rw [readN_rows] at h
  split at h
  · cases h
  · rename_i hc
    cases h1 : (splitP l).all (rowOkN (width l))
    · simp
    · rw [h1] at hc
      simp only [Bool.and_true, decide_eq_false_iff_not]
      intro h2
      exact hc ⟨h2.2, rfl⟩
theorem is_rd {l : List UInt8} {m : MachN} (hl : l.length ≤ 41) (h : machN0.run (l ++ [47]) = some m) : isRd l = true ∧ m = ⟨width l, (splitP l).length, 0, (splitP l).flatten⟩ := by
  rw [readN_rows] at h
  split at h
  · rename_i hc
    refine ⟨?_, (Option.some.inj h).symm⟩
    unfold isRd
    rw [hc.2, Bool.and_true, decide_eq_true_eq]
    exact ⟨hl, hc.1⟩
  · cases h
/-- What is read has even rows. -/
theorem rd_parts {l : List UInt8} (h : isRd l = true) : l.length ≤ 41 ∧ 1 ≤ width l ∧ Even l (width l) ∧ ∀ r ∈ splitP l, r.all okN = true := by
  unfold isRd at h
  rw [Bool.and_eq_true, decide_eq_true_eq] at h
  refine ⟨h.1.1, h.1.2, fun r hr => ?_, fun r hr => ?_⟩
  · have := List.all_eq_true.1 h.2 r hr
    unfold rowOkN at this
    rw [Bool.and_eq_true, decide_eq_true_eq] at this
    exact this.1
  · have := List.all_eq_true.1 h.2 r hr
    unfold rowOkN at this
    rw [Bool.and_eq_true] at this
    exact this.2
theorem Filled.rd {l : List UInt8} {W H : Nat} (h : Filled l W H) : isRd l = true := by
  unfold isRd
  have h1 := h.flat_len
  have h2 := len_split l
  rw [h.hh] at h2
  unfold flatL at h1
  have h3 : W * H ≤ 6 * 6 := Nat.mul_le_mul h.w6 h.h6
  have := h.h6
  rw [Bool.and_eq_true, decide_eq_true_eq, h.ww]
  refine ⟨⟨by omega, h.w1⟩, ?_⟩
  rw [List.all_eq_true]
  intro r hr
  unfold rowOkN
  rw [h.even r hr, h.ok r hr]
  simp
end Go.Proofs.YtkknjokacinlaaaDoor
namespace Go.Proofs.YtkknjokacinlaaaDoor
set_option maxRecDepth 100000
set_option linter.all false
open Go

/-- The first digit's landing. -/
def startM (l : List UInt8) : Lg := (⟨(((digs l).headD 0 % width l : Nat) : Int), (((digs l).headD 0 / width l : Nat) : Int), unitD⟩, 0)
def lgm (l : List UInt8) : List Lg := goL l 7 0 [startM l]
theorem Grid6.dig_ix {l : List UInt8} {W H : Nat} (h : Grid6 l W H) {x y : Nat} (hx : x < W) (hy : y < H) : digL l (x : Int) (y : Int) = true ↔ y * W + x ∈ digs l := by
  rw [mem_digs, h.flat_len, List.getD_eq_getElem?_getD, h.at hx hy]
  unfold digL
  exact ⟨fun hd => ⟨h.lt hx hy, hd⟩, fun hd => hd.2⟩
theorem Grid6.ix_dig {l : List UInt8} {W H : Nat} (h : Grid6 l W H) {i : Nat} (hi : i ∈ digs l) : i % W < W ∧ i / W < H ∧ digL l ((i % W : Nat) : Int) ((i / W : Nat) : Int) = true := by
  have hw := h.w1
  have h1 : i % W < W := Nat.mod_lt _ hw
  have hl := (mem_digs.1 hi).1
  rw [h.flat_len] at hl
  have h2 : i / W < H := by
    rw [Nat.div_lt_iff_lt_mul hw, Nat.mul_comm]; exact hl
  refine ⟨h1, h2, (h.dig_ix h1 h2).2 ?_⟩
  rw [Nat.mul_comm, Nat.div_add_mod]
  exact hi
theorem Grid6.head {l : List UInt8} {W H : Nat} (h : Grid6 l W H) : (digs l).headD 0 ∈ digs l ∧ ∀ i ∈ digs l, (digs l).headD 0 ≤ i := by
  have hl := digs_len l
  rw [h.cnt] at hl
  have hs := digs_sorted l
  cases hd : digs l with
  | nil => rw [hd] at hl; cases hl
  | cons a ts =>
    rw [hd] at hs
    refine ⟨by simp, fun i hi => ?_⟩
    rcases List.mem_cons.1 hi with rfl | hi
    · exact Nat.le_refl _
    · exact Nat.le_of_lt ((List.pairwise_cons.1 hs).1 i hi)
theorem Grid6.start {l : List UInt8} {W H : Nat} (h : Grid6 l W H) : GoodQ l [startM l] := by
  obtain ⟨h1, h2, h3⟩ := h.ix_dig h.head.1
  refine ⟨fun q hq => ?_, fun q hq => ?_, fun q hq => ?_, by simp⟩ <;> (rw [List.mem_singleton] at hq; subst hq)
  · unfold startM; rw [h.ww]; exact h3
  · show unitD ∈ ways
    decide +kernel
  · show 0 ≤ _
    omega
theorem lgm_good {l : List UInt8} {W H : Nat} (hf : Grid6 l W H) : GoodQ l (lgm l) := goL_good 7 0 _ hf.start
theorem start_eq {l : List UInt8} {W H : Nat} (h : Filled l W H) : startM l = startL l := by
  obtain ⟨f1, f2, f3⟩ := h.first
  obtain ⟨h1, h2⟩ := h.head
  have h0 : 0 < H := h.h1
  have hm : firstX l ∈ digs l := by
    have := (h.toGrid6.dig_ix f1 h0).1 f2
    simpa using this
  have hle := h2 _ hm
  have he : (digs l).headD 0 = firstX l := by
    rcases Nat.lt_or_ge ((digs l).headD 0) (firstX l) with hlt | hge
    · have := (h.toGrid6.dig_ix (x := (digs l).headD 0) (y := 0) (by omega) h0).2 (by simpa using h1)
      have h3 := f3 _ hlt
      have e : ((0 : Nat) : Int) = 0 := rfl
      rw [e] at this
      rw [this] at h3
      cases h3
    · omega
  unfold startM startL
  rw [he, h.ww, Nat.mod_eq_of_lt f1, Nat.div_eq_of_lt f1]
  rfl
theorem lgm_eq {l : List UInt8} {W H : Nat} (h : Filled l W H) : lgm l = lgs l := by unfold lgm lgs; rw [start_eq h]

theorem goL_hitS {l : List UInt8} {f n : Nat} {Q : List Lg} {q : Lg} (h : Q[n]? = some q) : goL l (f + 1) n Q = goL l f (n + 1) (stepsL l q 4 Q) := by
  show (match Q[n]? with | none => Q | some q => goL l f (n + 1) (stepsL l q 4 Q)) = _
  rw [h]
theorem goL_endS {l : List UInt8} {f n : Nat} {Q : List Lg} (h : Q.length ≤ n) : goL l f n Q = Q := by
  cases f with
  | zero => rfl
  | succ f =>
    unfold goL
    rw [List.getElem?_eq_none h]
/-- The number of rolls to a cell, or -1. -/
def farI (W : Nat) (Q : List Lg) (i : Nat) : Int := match Q.find? (fun q => ixL W q.1 == i) with
  | none => -1
  | some q => (q.2 : Int)
/-- The face that lies on a cell, or -1. -/
def botI (W : Nat) (Q : List Lg) (i : Nat) : Int := match Q.find? (fun q => ixL W q.1 == i) with
  | none => -1
  | some q => q.1.d.b
theorem find_snoc {W : Nat} {Q : List Lg} {q : Lg} (h : ixL W q.1 ∉ Q.map (fun q => ixL W q.1)) (i : Nat) : (Q ++ [q]).find? (fun q => ixL W q.1 == i) = if i = ixL W q.1 then some q else Q.find? (fun q => ixL W q.1 == i) := by
  rw [List.find?_append]
  by_cases he : i = ixL W q.1
  · rw [if_pos he, he]
    have : Q.find? (fun p => ixL W p.1 == ixL W q.1) = none := by
      rw [List.find?_eq_none]
      intro p hp hc
      exact h (List.mem_map.2 ⟨p, hp, by simpa using hc⟩)
    rw [this]
    simp
  · rw [if_neg he]
    have : [q].find? (fun p => ixL W p.1 == i) = none := by
      rw [List.find?_eq_none]
      intro p hp hc
      rw [List.mem_singleton] at hp
      subst hp
      exact he (by have := beq_iff_eq.1 hc; exact this.symm)
    rw [this]
    simp
theorem farI_snoc {W : Nat} {Q : List Lg} {q : Lg} (h : ixL W q.1 ∉ Q.map (fun q => ixL W q.1)) (i : Nat) : farI W (Q ++ [q]) i = if i = ixL W q.1 then (q.2 : Int) else farI W Q i := by
  unfold farI
  rw [find_snoc h]
  split
  · rename_i hc
    split at hc
    · cases hc
    · rename_i hne
      rw [if_neg hne, hc]
  · rename_i q' hc
    split at hc
    · rename_i he
      rw [if_pos he, ← Option.some.inj hc]
    · rename_i hne
      rw [if_neg hne, hc]
theorem botI_snoc {W : Nat} {Q : List Lg} {q : Lg} (h : ixL W q.1 ∉ Q.map (fun q => ixL W q.1)) (i : Nat) : botI W (Q ++ [q]) i = if i = ixL W q.1 then q.1.d.b else botI W Q i := by
  unfold botI
  rw [find_snoc h]
  split
  · rename_i hc
    split at hc
    · cases hc
    · rename_i hne
      rw [if_neg hne, hc]
  · rename_i q' hc
    split at hc
    · rename_i he
      rw [if_pos he, ← Option.some.inj hc]
    · rename_i hne
      rw [if_neg hne, hc]
theorem find_ix {W : Nat} {Q : List Lg} (h : (Q.map fun q => ixL W q.1).Nodup) {q : Lg} (hq : q ∈ Q) : Q.find? (fun p => ixL W p.1 == ixL W q.1) = some q := by
  cases hf : Q.find? (fun p => ixL W p.1 == ixL W q.1) with
  | none =>
    rw [List.find?_eq_none] at hf
    exact absurd (beq_iff_eq.2 rfl) (hf q hq)
  | some p =>
    have h1 : ixL W p.1 = ixL W q.1 := by have := List.find?_some hf; simpa using this
    have h2 := List.mem_of_find?_eq_some hf
    unfold List.Nodup at h
    rw [List.pairwise_map] at h
    by_cases he : p = q
    · rw [he]
    · obtain ⟨a, ha, ea⟩ := List.mem_iff_getElem.1 h2
      obtain ⟨b, hb, eb⟩ := List.mem_iff_getElem.1 hq
      rw [List.pairwise_iff_getElem] at h
      rcases Nat.lt_trichotomy a b with hab | hab | hab
      · have := h a b ha hb hab
        rw [ea, eb] at this
        exact absurd h1 this
      · subst hab
        exact absurd (ea.symm.trans eb) he
      · have := h b a hb ha hab
        rw [ea, eb] at this
        exact absurd h1.symm this
theorem farI_none {W : Nat} {Q : List Lg} {i : Nat} : farI W Q i < 0 ↔ i ∉ Q.map (fun q => ixL W q.1) := by
  unfold farI
  cases hf : Q.find? (fun q => ixL W q.1 == i) with
  | none =>
    rw [List.find?_eq_none] at hf
    refine ⟨fun _ hm => ?_, fun _ => by show (-1 : Int) < 0; omega⟩
    obtain ⟨q, hq, e⟩ := List.mem_map.1 hm
    exact hf q hq (beq_iff_eq.2 e)
  | some q =>
    have h1 : ixL W q.1 = i := by have := List.find?_some hf; simpa using this
    refine ⟨fun h => ?_, fun h => absurd (List.mem_map.2 ⟨q, List.mem_of_find?_eq_some hf, h1⟩) h⟩
    have h' : (q.2 : Int) < 0 := h
    omega

/-- Bits. -/
def bitsL (f : Nat → Nat) : List Nat → Nat → Nat
  | [], b => b
  | i :: D, b => bitsL f D (b ||| 1 <<< f i)
theorem bitsL_test (f : Nat → Nat) : ∀ (D : List Nat) (b j : Nat), (bitsL f D b).testBit j = (b.testBit j || D.any fun i => decide (f i = j))
  | [], b, j => by simp [bitsL]
  | i :: D, b, j => by
    rw [bitsL, bitsL_test f D, Nat.testBit_or, Nat.shiftLeft_eq, Nat.one_mul, Nat.testBit_two_pow, List.any_cons, Bool.or_assoc]
theorem bits_full {f : Nat → Nat} {D : List Nat} {n : Nat} (hf : ∀ i ∈ D, f i < n) : bitsL f D 0 = 2 ^ n - 1 ↔ ∀ j, j < n → ∃ i ∈ D, f i = j := by
  constructor
  · intro h j hj
    have h1 := bitsL_test f D 0 j
    rw [h, Nat.testBit_two_pow_sub_one, Nat.zero_testBit, Bool.false_or, decide_eq_true hj] at h1
    obtain ⟨i, hi, e⟩ := List.any_eq_true.1 h1.symm
    exact ⟨i, hi, of_decide_eq_true e⟩
  · intro h
    apply Nat.eq_of_testBit_eq
    intro j
    rw [bitsL_test, Nat.testBit_two_pow_sub_one, Nat.zero_testBit, Bool.false_or]
    by_cases hj : j < n
    · rw [decide_eq_true hj, List.any_eq_true]
      obtain ⟨i, hi, e⟩ := h j hj
      exact ⟨i, hi, decide_eq_true e⟩
    · rw [decide_eq_false hj, List.any_eq_false]
      intro i hi hc
      have := hf i hi
      have := of_decide_eq_true hc
      omega
theorem bitsL_snoc (f : Nat → Nat) : ∀ (D : List Nat) (b i : Nat), bitsL f (D ++ [i]) b = bitsL f D b ||| 1 <<< f i
  | [], b, i => rfl
  | a :: D, b, i => by
    rw [List.cons_append, bitsL, bitsL_snoc f D, bitsL]
theorem bitsL_lt {f : Nat → Nat} {n : Nat} : ∀ (D : List Nat) (b : Nat), b < 2 ^ n → (∀ i ∈ D, f i < n) → bitsL f D b < 2 ^ n
  | [], b, hb, _ => hb
  | i :: D, b, hb, h => by
    refine bitsL_lt D _ (Nat.or_lt_two_pow hb ?_) (fun k hk => h k (by simp [hk]))
    rw [Nat.shiftLeft_eq, Nat.one_mul]
    exact Nat.pow_lt_pow_right (by omega) (h i (by simp))
/-- All columns and all rows are met: the text is filled. -/
theorem Grid6.filled {l : List UInt8} {W H : Nat} (h : Grid6 l W H) : filledB l = decide (bitsL (· % W) (digs l) 0 = 2 ^ W - 1 ∧ bitsL (· / W) (digs l) 0 = 2 ^ H - 1) := by
  have hw := h.w1
  rw [Bool.eq_iff_iff, decide_eq_true_eq, bits_full (fun i hi => (h.ix_dig hi).1), bits_full (fun i hi => (h.ix_dig hi).2.1)]
  have hcell : ∀ x y : Nat, cellI (splitP l) (x : Int) (y : Int) = ((splitP l).getD y []).getD x 35 := by intro x y; unfold cellI; simp
  have hrow : ∀ y, y < H → ∃ r, (splitP l)[y]? = some r ∧ r ∈ splitP l ∧ r.length = W ∧ (splitP l).getD y [] = r := by
    intro y hy
    have hy' : y < (splitP l).length := by rw [h.hh]; exact hy
    refine ⟨(splitP l)[y], List.getElem?_eq_getElem hy', List.getElem_mem _, h.even _ (List.getElem_mem _), ?_⟩
    rw [List.getD_eq_getElem?_getD, List.getElem?_eq_getElem hy']; rfl
  unfold filledB
  rw [Bool.and_eq_true, List.all_eq_true, List.all_eq_true]
  constructor
  · rintro ⟨h1, h2⟩
    refine ⟨fun x hx => ?_, fun y hy => ?_⟩
    · have h3 := h2 x (List.mem_range.2 (by rw [h.ww]; exact hx))
      unfold hasDigX at h3
      obtain ⟨r, hr, hd⟩ := List.any_eq_true.1 h3
      obtain ⟨y, hy, e⟩ := List.mem_iff_getElem.1 hr
      have hy' : y < H := by rw [← h.hh]; exact hy
      have hrl := h.even r hr
      refine ⟨y * W + x, (h.dig_ix hx hy').1 ?_, by rw [Nat.mul_comm, Nat.mul_add_mod, Nat.mod_eq_of_lt hx]⟩
      unfold digL
      rw [hcell, List.getD_eq_getElem?_getD (l := splitP l), List.getElem?_eq_getElem hy, e]
      show isDig (r.getD x 35) = true
      rw [List.getD_eq_getElem?_getD, List.getElem?_eq_getElem (by omega)] at hd ⊢
      exact hd
    · obtain ⟨r, hr, hm, hl, hg⟩ := hrow y hy
      have h3 := h1 r hm
      rw [Bool.and_eq_true, Bool.and_eq_true] at h3
      obtain ⟨c, hc, hd⟩ := List.any_eq_true.1 h3.1.2
      obtain ⟨x, hx, e⟩ := List.mem_iff_getElem.1 hc
      have hx' : x < W := by omega
      refine ⟨y * W + x, (h.dig_ix hx' hy).1 ?_, ?_⟩
      · unfold digL
        rw [hcell, hg, List.getD_eq_getElem?_getD, List.getElem?_eq_getElem hx, e]
        exact hd
      · rw [Nat.mul_comm, Nat.mul_add_div hw, Nat.div_eq_of_lt hx', Nat.add_zero]
  · rintro ⟨h1, h2⟩
    refine ⟨fun r hr => ?_, fun x hx => ?_⟩
    · obtain ⟨y, hy, e⟩ := List.mem_iff_getElem.1 hr
      have hy' : y < H := by rw [← h.hh]; exact hy
      obtain ⟨i, hi, hid⟩ := h2 y hy'
      obtain ⟨g1, g2, g3⟩ := h.ix_dig hi
      rw [Bool.and_eq_true, Bool.and_eq_true, decide_eq_true_eq, h.ww]
      refine ⟨⟨h.even r hr, ?_⟩, h.ok r hr⟩
      have hid' : i / W = y := hid
      unfold digL at g3
      rw [hcell, hid', List.getD_eq_getElem?_getD (l := splitP l), List.getElem?_eq_getElem hy, e] at g3
      change isDig (r.getD (i % W) 35) = true at g3
      have hrl := h.even r hr
      rw [List.getD_eq_getElem?_getD, List.getElem?_eq_getElem (by omega)] at g3
      exact List.any_eq_true.2 ⟨_, List.getElem_mem _, g3⟩
    · rw [List.mem_range, h.ww] at hx
      obtain ⟨i, hi, hid⟩ := h1 x hx
      obtain ⟨g1, g2, g3⟩ := h.ix_dig hi
      obtain ⟨r, hr, hm, hl, hg⟩ := hrow (i / W) g2
      have hid' : i % W = x := hid
      unfold digL at g3
      rw [hcell, hg, hid', List.getD_eq_getElem?_getD, List.getElem?_eq_getElem (by omega)] at g3
      unfold hasDigX
      refine List.any_eq_true.2 ⟨r, hm, ?_⟩
      rw [List.getD_eq_getElem?_getD, List.getElem?_eq_getElem (by omega)]
      exact g3
/-- Is a text a six? -/
def sixB (l : List UInt8) : Bool := decide (cntD l = 6) && filledB l && decide ((lgs l).length = 6)
theorem six_partsS {l : List UInt8} (h : sixB l = true) : Filled l (width l) (splitP l).length ∧ (lgs l).length = 6 := by
  unfold sixB at h
  rw [Bool.and_eq_true, Bool.and_eq_true, decide_eq_true_eq, decide_eq_true_eq] at h
  exact ⟨filled_of h.1.2 h.1.1, h.2⟩
theorem nodup_len {A B : List Nat} (h : A.Nodup) (hs : ∀ i ∈ A, i ∈ B) (hb : B.length ≤ A.length) : ∀ i ∈ B, i ∈ A := by
  intro i hi
  by_cases hm : i ∈ A
  · exact hm
  · have h1 : (i :: A).Nodup := List.nodup_cons.2 ⟨hm, h⟩
    have h2 := nodup_le (i :: A) B h1 (by
      intro k hk
      rcases List.mem_cons.1 hk with rfl | hk
      · exact hi
      · exact hs k hk)
    rw [List.length_cons] at h2
    omega
/-- All digits are met: there are six landings. -/
theorem Grid6.all_met {l : List UInt8} {W H : Nat} (h : Grid6 l W H) {Q : List Lg} (hQ : GoodQ l Q) : (∀ i ∈ digs l, ¬ farI W Q i < 0) ↔ Q.length = 6 := by
  obtain ⟨h1, h2⟩ := hQ.ix h
  have hl := digs_len l
  rw [h.cnt] at hl
  constructor
  · intro h3
    have h4 := nodup_le (digs l) (Q.map fun q => ixL W q.1) (digs_nodup l) (fun i hi => by
      have := h3 i hi
      rw [farI_none] at this
      exact Classical.not_not.1 this)
    rw [List.length_map] at h4
    have := hQ.le h
    omega
  · intro h3 i hi hn
    rw [farI_none] at hn
    exact hn (nodup_len h1 h2 (by rw [List.length_map]; omega) i hi)
/-- What the model finds of a text that it has read. -/
theorem Grid6.six {l : List UInt8} {W H : Nat} (h : Grid6 l W H) : sixB l = (decide (∀ i ∈ digs l, ¬ farI W (lgm l) i < 0) && decide (bitsL (· % W) (digs l) 0 = 2 ^ W - 1 ∧ bitsL (· / W) (digs l) 0 = 2 ^ H - 1)) := by
  rw [← h.filled]
  unfold sixB
  rw [h.cnt]
  cases hf : filledB l
  · simp
  · have hF : Filled l W H := ⟨h, hf⟩
    have e : decide (∀ i ∈ digs l, ¬ farI W (lgm l) i < 0) = decide ((lgs l).length = 6) := by
      rw [decide_eq_decide, h.all_met (lgm_good h), lgm_eq hF]
    rw [e]
    simp
end Go.Proofs.YtkknjokacinlaaaDoor
