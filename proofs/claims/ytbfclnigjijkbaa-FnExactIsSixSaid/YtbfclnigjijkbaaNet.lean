/- Plain mathematics of sixes: rows, digits, and a die that rolls over them from the first one. -/
import Derived.Test.YtbfclnigjijkbaaCntD
import Derived.Test.YtbfclnigjijkbaaPure2
import Derived.Test.YtbfclnigjijkbaaRollT
namespace Go.Proofs.Ytbfclnigjijkbaa
set_option maxRecDepth 100000
set_option linter.all false
open Go

/-- A landing: the state, and the number of rolls to it. -/
abbrev Lg := St × Nat
/-- A sign of sixes. -/
def okN (c : UInt8) : Bool := c == 46 || isDig c
/-- Is there a digit? -/
def digL (l : List UInt8) (x y : Int) : Bool := isDig (cellI (splitP l) x y)
def hasDigX (rs : List (List UInt8)) (x : Nat) : Bool := rs.any fun r => isDig (r.getD x 0)
/-- Rows of one length, no strange sign, each row and each column has a digit. -/
def filledB (l : List UInt8) : Bool := (splitP l).all (fun r => decide (r.length = width l) && r.any isDig && r.all okN) && (List.range (width l)).all (hasDigX (splitP l))
def flatL (l : List UInt8) : List UInt8 := (splitP l).flatten
/-- The digits, as numbers of cells. -/
def digs (l : List UInt8) : List Nat := (List.range (flatL l).length).filter fun i => isDig ((flatL l).getD i 0)

theorem dig_slash : isDig 47 = false := rfl
theorem dig_wall : isDig 35 = false := rfl
theorem cnt_flat (l : List UInt8) : cntD l = (flatL l).countP isDig := by
  unfold cntD flatL
  rw [flat_filter, List.countP_filter]
  congr 1
  funext c
  by_cases h : c = 47
  · subst h; rfl
  · simp [h]
theorem count_range (F : List UInt8) : ((List.range F.length).filter fun i => isDig (F.getD i 0)).length = F.countP isDig := by
  rw [← List.countP_eq_length_filter]
  have : F.countP isDig = ((List.range F.length).map fun i => F.getD i 0).countP isDig := by
    congr 1
    apply List.ext_getElem?
    intro i
    by_cases h : i < F.length
    · simp [h]
    · simp [h]
  rw [this, List.countP_map]
  rfl
theorem digs_len (l : List UInt8) : (digs l).length = cntD l := by unfold digs; rw [count_range, ← cnt_flat]
theorem digs_nodup (l : List UInt8) : (digs l).Nodup := (List.nodup_range).filter _
theorem digs_sorted (l : List UInt8) : (digs l).Pairwise (· < ·) := (List.pairwise_lt_range).filter _
theorem mem_digs {l : List UInt8} {i : Nat} : i ∈ digs l ↔ i < (flatL l).length ∧ isDig ((flatL l).getD i 0) = true := by simp [digs]

/-- A text of even rows with six digits. -/
structure Grid6 (l : List UInt8) (W H : Nat) : Prop where
  w1 : 1 ≤ W
  w6 : W ≤ 6
  h1 : 1 ≤ H
  h6 : H ≤ 6
  ww : width l = W
  hh : (splitP l).length = H
  even : Even l W
  ok : ∀ r ∈ splitP l, r.all okN = true
  cnt : cntD l = 6
structure Filled (l : List UInt8) (W H : Nat) : Prop extends Grid6 l W H where
  fill : filledB l = true

theorem nodup_map_on {α β : Type} (f : α → β) : ∀ (l : List α), l.Nodup → (∀ a ∈ l, ∀ b ∈ l, f a = f b → a = b) → (l.map f).Nodup
  | [], _, _ => by simp
  | a :: l, h, hi => by
    rw [List.nodup_cons] at h
    rw [List.map_cons, List.nodup_cons]
    refine ⟨fun hm => ?_, nodup_map_on f l h.2 (fun x hx y hy => hi x (by simp [hx]) y (by simp [hy]))⟩
    obtain ⟨b, hb, e⟩ := List.mem_map.1 hm
    have := hi b (by simp [hb]) a (by simp) e
    subst this
    exact h.1 hb
/-- A sum of at least one for each row. -/
theorem rows_cnt : ∀ (rs : List (List UInt8)), (∀ r ∈ rs, r.any isDig = true) → rs.length ≤ rs.flatten.countP isDig
  | [], _ => by simp
  | r :: rs, h => by
    have h1 := rows_cnt rs (fun x hx => h x (by simp [hx]))
    have h2 : 0 < r.countP isDig := by
      have := h r (by simp)
      rw [List.any_eq_true] at this
      obtain ⟨c, hc, hd⟩ := this
      exact List.countP_pos_iff.2 ⟨c, hc, hd⟩
    rw [List.flatten_cons, List.countP_append, List.length_cons]
    omega
theorem filled_of {l : List UInt8} (h : filledB l = true) (hc : cntD l = 6) : Filled l (width l) (splitP l).length := by
  have h0 := h
  unfold filledB at h
  rw [Bool.and_eq_true] at h
  obtain ⟨hr, hx⟩ := h
  have hr' : ∀ r ∈ splitP l, r.length = width l ∧ r.any isDig = true ∧ r.all okN = true := by
    intro r hm
    have := List.all_eq_true.1 hr r hm
    rw [Bool.and_eq_true, Bool.and_eq_true, decide_eq_true_eq] at this
    exact ⟨this.1.1, this.1.2, this.2⟩
  have he : Even l (width l) := fun r hm => (hr' r hm).1
  have h6 := rows_cnt (splitP l) (fun r hm => (hr' r hm).2.1)
  have hcf := cnt_flat l
  unfold flatL at hcf
  have hH1 : 1 ≤ (splitP l).length := by
    obtain ⟨r, rs, e⟩ := splitP_cons l
    rw [e]; simp
  have hw1 : 1 ≤ width l := by
    obtain ⟨r, rs, e⟩ := splitP_cons l
    obtain ⟨h1, h2, _⟩ := hr' r (by rw [e]; simp)
    rw [List.any_eq_true] at h2
    obtain ⟨c, hcm, _⟩ := h2
    have := List.length_pos_of_mem hcm
    omega
  -- one digit for each column
  have hsel : ∀ x, x < width l → ∃ y, y < (splitP l).length ∧ isDig (((splitP l).getD y []).getD x 0) = true := by
    intro x hxl
    have := List.all_eq_true.1 hx x (List.mem_range.2 hxl)
    unfold hasDigX at this
    rw [List.any_eq_true] at this
    obtain ⟨r, hm, hd⟩ := this
    obtain ⟨y, hy, e⟩ := List.mem_iff_getElem.1 hm
    exact ⟨y, hy, by rw [List.getD_eq_getElem?_getD (l := splitP l), List.getElem?_eq_getElem hy]; simpa [e] using hd⟩
  have hflen := flat_even he
  have hw6 : width l ≤ 6 := by
    have hsel' : ∀ x : Fin (width l), ∃ i, i ∈ digs l ∧ i % width l = x.val := by
      intro x
      obtain ⟨y, hy, hd⟩ := hsel x.val x.isLt
      refine ⟨y * width l + x.val, mem_digs.2 ⟨?_, ?_⟩, ?_⟩
      · unfold flatL
        rw [hflen]
        have := Nat.mul_le_mul_left (width l) (show y + 1 ≤ (splitP l).length from hy)
        rw [Nat.mul_add, Nat.mul_one, Nat.mul_comm (width l) y] at this
        omega
      · have := cellI_flat he hy x.isLt
        unfold flatL
        rw [List.getD_eq_getElem?_getD, this]
        have h2 : cellI (splitP l) (x.val : Int) (y : Int) = ((splitP l).getD y []).getD x.val 35 := by unfold cellI; simp
        rw [h2]
        have hlx : x.val < ((splitP l).getD y []).length := by
          have := (even_row he hy).1
          omega
        rw [List.getD_eq_getElem?_getD, List.getElem?_eq_getElem hlx] at hd
        show isDig (((splitP l).getD y []).getD x.val 35) = true
        rw [List.getD_eq_getElem?_getD, List.getElem?_eq_getElem hlx]
        exact hd
      · rw [Nat.mul_comm, Nat.mul_add_mod, Nat.mod_eq_of_lt x.isLt]
    obtain ⟨f, hf⟩ := Classical.axiomOfChoice hsel'
    have hn : ((List.finRange (width l)).map f).Nodup := by
      refine nodup_map_on f _ (List.nodup_finRange _) (fun a _ b _ e => ?_)
      have h1 := (hf a).2
      have h2 := (hf b).2
      rw [e] at h1
      exact Fin.ext (h1.symm.trans h2)
    have := nodup_le _ (digs l) hn (by
      intro i hi
      obtain ⟨a, _, rfl⟩ := List.mem_map.1 hi
      exact (hf a).1)
    rw [List.length_map, List.length_finRange, digs_len, hc] at this
    exact this
  exact ⟨⟨hw1, hw6, hH1, by omega, rfl, rfl, he, fun r hm => (hr' r hm).2.2, hc⟩, h0⟩

theorem Grid6.flat_len {l : List UInt8} {W H : Nat} (h : Grid6 l W H) : (flatL l).length = W * H := by
  unfold flatL; rw [flat_even h.even, h.hh]
theorem Grid6.at {l : List UInt8} {W H : Nat} (h : Grid6 l W H) {x y : Nat} (hx : x < W) (hy : y < H) : (flatL l)[y * W + x]? = some (cellI (splitP l) x y) :=
  cellI_flat h.even (by rw [h.hh]; exact hy) hx
theorem Grid6.lt {l : List UInt8} {W H : Nat} (h : Grid6 l W H) {x y : Nat} (hx : x < W) (hy : y < H) : y * W + x < W * H := by
  have := Nat.mul_le_mul_left W (show y + 1 ≤ H from hy)
  rw [Nat.mul_add, Nat.mul_one, Nat.mul_comm W y] at this
  omega
/-- A digit lies on the paper. -/
theorem Grid6.in {l : List UInt8} {W H : Nat} (h : Grid6 l W H) {x y : Int} (hd : digL l x y = true) : 0 ≤ x ∧ x < W ∧ 0 ≤ y ∧ y < H := by
  unfold digL cellI at hd
  split at hd
  · rename_i hxy
    by_cases hy : y.toNat < (splitP l).length
    · have hr := (even_row h.even hy).1
      by_cases hx : x.toNat < W
      · rw [h.hh] at hy; omega
      · rw [List.getD_eq_getElem?_getD (l := (splitP l).getD y.toNat []), List.getElem?_eq_none (by omega)] at hd
        cases hd
    · have e : (splitP l).getD y.toNat [] = [] := by simp [List.getD, List.getElem?_eq_none (Nat.not_lt.1 hy)]
      rw [e] at hd
      cases hd
  · cases hd

/-- The number of a position's cell. -/
def ixL (W : Nat) (s : St) : Nat := s.y.toNat * W + s.x.toNat
def seenL (Q : List Lg) (x y : Int) : Bool := Q.any fun q => decide (q.1.x = x ∧ q.1.y = y)
def stepL (l : List UInt8) (q : Lg) (k : Nat) (Q : List Lg) : List Lg :=
  if (digL l (rollT q.1 (k : Int)).x (rollT q.1 (k : Int)).y && !seenL Q (rollT q.1 (k : Int)).x (rollT q.1 (k : Int)).y) = true then Q ++ [(rollT q.1 (k : Int), q.2 + 1)] else Q
def stepsL (l : List UInt8) (q : Lg) : Nat → List Lg → List Lg
  | 0, Q => Q
  | j + 1, Q => stepL l q j (stepsL l q j Q)
def goL (l : List UInt8) : Nat → Nat → List Lg → List Lg
  | 0, _, Q => Q
  | f + 1, n, Q => match Q[n]? with
    | none => Q
    | some q => goL l f (n + 1) (stepsL l q 4 Q)
def firstX (l : List UInt8) : Nat := ((splitP l).headD []).findIdx isDig
def startL (l : List UInt8) : Lg := (⟨firstX l, 0, unitD⟩, 0)
def lgs (l : List UInt8) : List Lg := goL l 7 0 [startL l]

structure GoodQ (l : List UInt8) (Q : List Lg) : Prop where
  dig : ∀ q ∈ Q, digL l q.1.x q.1.y = true
  way : ∀ q ∈ Q, q.1.d ∈ ways
  far : ∀ q ∈ Q, q.2 ≤ Q.length
  apart : Q.Pairwise fun p q => ¬ (p.1.x = q.1.x ∧ p.1.y = q.1.y)

theorem seen_iff {Q : List Lg} {x y : Int} : seenL Q x y = true ↔ ∃ q ∈ Q, q.1.x = x ∧ q.1.y = y := by
  unfold seenL
  rw [List.any_eq_true]
  simp
theorem roll_ways {d : D} (h : d ∈ ways) (k : Nat) (hk : k < 4) : rollK (k : Int) d ∈ ways := by
  have h1 : rollK (k : Int) d = rollC (if k = 0 then 110 else if k = 1 then 101 else if k = 2 then 115 else 119) d := by
    match k, hk with
    | 0, _ => rfl
    | 1, _ => rfl
    | 2, _ => rfl
    | 3, _ => rfl
  rw [h1]
  exact ways_closed' h _
theorem GoodQ.step {l : List UInt8} {Q : List Lg} (h : GoodQ l Q) {q : Lg} (hq : q ∈ Q) (k : Nat) (hk : k < 4) : GoodQ l (stepL l q k Q) := by
  unfold stepL
  split
  · rename_i hc
    rw [Bool.and_eq_true, Bool.not_eq_true'] at hc
    refine ⟨fun p hp => ?_, fun p hp => ?_, fun p hp => ?_, ?_⟩
    · rcases List.mem_append.1 hp with hp | hp
      · exact h.dig p hp
      · rw [List.mem_singleton] at hp; subst hp; exact hc.1
    · rcases List.mem_append.1 hp with hp | hp
      · exact h.way p hp
      · rw [List.mem_singleton] at hp; subst hp; exact roll_ways (h.way q hq) k hk
    · rw [List.length_append, List.length_singleton]
      rcases List.mem_append.1 hp with hp | hp
      · have := h.far p hp; omega
      · rw [List.mem_singleton] at hp; subst hp
        have := h.far q hq
        show q.2 + 1 ≤ _
        omega
    · rw [List.pairwise_append]
      refine ⟨h.apart, by simp, fun a ha b hb => ?_⟩
      rw [List.mem_singleton] at hb; subst hb
      intro e
      have : seenL Q (rollT q.1 (k : Int)).x (rollT q.1 (k : Int)).y = true := seen_iff.2 ⟨a, ha, e⟩
      rw [hc.2] at this
      cases this
  · exact h
theorem stepL_pre (l : List UInt8) (q : Lg) (k : Nat) (Q : List Lg) : ∃ M, stepL l q k Q = Q ++ M := by
  unfold stepL
  split
  · exact ⟨_, rfl⟩
  · exact ⟨[], by simp⟩
theorem stepsL_pre (l : List UInt8) (q : Lg) : ∀ (j : Nat) (Q : List Lg), ∃ M, stepsL l q j Q = Q ++ M
  | 0, Q => ⟨[], by simp [stepsL]⟩
  | j + 1, Q => by
    obtain ⟨M, hM⟩ := stepsL_pre l q j Q
    obtain ⟨M', hM'⟩ := stepL_pre l q j (stepsL l q j Q)
    exact ⟨M ++ M', by rw [stepsL, hM', hM, List.append_assoc]⟩
theorem stepsL_mem {l : List UInt8} {q p : Lg} {j : Nat} {Q : List Lg} (h : p ∈ Q) : p ∈ stepsL l q j Q := by
  obtain ⟨M, hM⟩ := stepsL_pre l q j Q
  rw [hM]; simp [h]
theorem stepsL_get {l : List UInt8} {q p : Lg} {j n : Nat} {Q : List Lg} (h : Q[n]? = some p) : (stepsL l q j Q)[n]? = some p := by
  obtain ⟨M, hM⟩ := stepsL_pre l q j Q
  rw [hM, List.getElem?_append_left (List.getElem?_eq_some_iff.1 h).1]; exact h
theorem GoodQ.steps {l : List UInt8} {Q : List Lg} (h : GoodQ l Q) {q : Lg} (hq : q ∈ Q) : ∀ (j : Nat), j ≤ 4 → GoodQ l (stepsL l q j Q)
  | 0, _ => h
  | j + 1, hj => (h.steps hq j (by omega)).step (stepsL_mem hq) j (by omega)
theorem goL_good {l : List UInt8} : ∀ (f n : Nat) (Q : List Lg), GoodQ l Q → GoodQ l (goL l f n Q)
  | 0, _, Q, h => h
  | f + 1, n, Q, h => by
    unfold goL
    cases hq : Q[n]? with
    | none => exact h
    | some q => exact goL_good f (n + 1) _ (h.steps (List.mem_of_getElem? hq) 4 (by omega))
theorem dig_of {c : UInt8} (h : isDig c = true) : 48 ≤ (c.toNat : Int) ∧ (c.toNat : Int) ≤ 57 := by unfold isDig at h; simpa using h
theorem Filled.first {l : List UInt8} {W H : Nat} (h : Filled l W H) : firstX l < W ∧ digL l (firstX l) 0 = true ∧ ∀ j : Nat, j < firstX l → digL l (j : Int) 0 = false := by
  obtain ⟨r, rs, e⟩ := splitP_cons l
  have hf := h.fill
  unfold filledB at hf
  rw [Bool.and_eq_true] at hf
  have hr := List.all_eq_true.1 hf.1 r (by rw [e]; simp)
  rw [Bool.and_eq_true, Bool.and_eq_true, decide_eq_true_eq, h.ww] at hr
  have hx : firstX l = r.findIdx isDig := by unfold firstX; rw [e]; rfl
  have hlt : r.findIdx isDig < r.length := List.findIdx_lt_length.2 (by
    rw [List.any_eq_true] at hr
    exact hr.1.2)
  have hc : ∀ j : Nat, cellI (splitP l) (j : Int) 0 = r.getD j 35 := by intro j; unfold cellI; rw [e]; simp
  refine ⟨by rw [hx, ← hr.1.1]; exact hlt, ?_, fun j hj => ?_⟩
  · unfold digL
    rw [hc, hx, List.getD_eq_getElem?_getD, List.getElem?_eq_getElem hlt]
    exact List.findIdx_getElem (w := hlt)
  · unfold digL
    have hjl : j < r.length := by omega
    rw [hc, List.getD_eq_getElem?_getD, List.getElem?_eq_getElem hjl]
    rw [hx] at hj
    simpa using List.not_of_lt_findIdx hj
theorem Filled.start {l : List UInt8} {W H : Nat} (h : Filled l W H) : GoodQ l [startL l] := by
  obtain ⟨h1, h2, _⟩ := h.first
  refine ⟨fun q hq => ?_, fun q hq => ?_, fun q hq => ?_, by simp⟩ <;> (rw [List.mem_singleton] at hq; subst hq)
  · exact h2
  · show unitD ∈ ways
    decide +kernel
  · show 0 ≤ _
    omega
/-- The cells of landings are digits, each one met once. -/
theorem GoodQ.ix {l : List UInt8} {W H : Nat} (hf : Grid6 l W H) {Q : List Lg} (h : GoodQ l Q) : (Q.map fun q => ixL W q.1).Nodup ∧ ∀ i ∈ Q.map (fun q => ixL W q.1), i ∈ digs l := by
  constructor
  · unfold List.Nodup
    rw [List.pairwise_map]
    refine h.apart.imp_of_mem (fun {a b} ha hb hne e => hne ?_)
    obtain ⟨a1, a2, a3, a4⟩ := hf.in (h.dig a ha)
    obtain ⟨b1, b2, b3, b4⟩ := hf.in (h.dig b hb)
    unfold ixL at e
    have m1 : (a.1.y.toNat * W + a.1.x.toNat) % W = a.1.x.toNat := by rw [Nat.mul_comm, Nat.mul_add_mod, Nat.mod_eq_of_lt (by omega)]
    have m2 : (b.1.y.toNat * W + b.1.x.toNat) % W = b.1.x.toNat := by rw [Nat.mul_comm, Nat.mul_add_mod, Nat.mod_eq_of_lt (by omega)]
    rw [e, m2] at m1
    have hm : a.1.y.toNat * W = b.1.y.toNat * W := by omega
    have := Nat.eq_of_mul_eq_mul_right hf.w1 hm
    exact ⟨by omega, by omega⟩
  · intro i hi
    obtain ⟨q, hq, rfl⟩ := List.mem_map.1 hi
    have hd := h.dig q hq
    obtain ⟨a1, a2, a3, a4⟩ := hf.in hd
    obtain ⟨x, hx⟩ := Int.eq_ofNat_of_zero_le a1
    obtain ⟨y, hy⟩ := Int.eq_ofNat_of_zero_le a3
    have hxl : x < W := by omega
    have hyl : y < H := by omega
    refine mem_digs.2 ?_
    unfold ixL
    rw [hx, hy, Int.toNat_natCast, Int.toNat_natCast]
    refine ⟨by rw [hf.flat_len]; exact hf.lt hxl hyl, ?_⟩
    rw [List.getD_eq_getElem?_getD, hf.at hxl hyl]
    unfold digL at hd
    rw [hx, hy] at hd
    exact hd
theorem GoodQ.le {l : List UInt8} {W H : Nat} (hf : Grid6 l W H) {Q : List Lg} (h : GoodQ l Q) : Q.length ≤ 6 := by
  obtain ⟨h1, h2⟩ := h.ix hf
  have := nodup_le _ _ h1 h2
  rwa [List.length_map, digs_len, hf.cnt] at this
theorem lgs_good {l : List UInt8} {W H : Nat} (hf : Filled l W H) : GoodQ l (lgs l) := goL_good 7 0 _ hf.start
end Go.Proofs.Ytbfclnigjijkbaa
