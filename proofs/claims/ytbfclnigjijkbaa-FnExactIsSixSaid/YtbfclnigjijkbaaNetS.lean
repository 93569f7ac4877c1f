/- Plain mathematics of sixes: the model's search from the first digit, and its bits of rows and columns. -/
import Derived.Test.YtbfclnigjijkbaaNetM
namespace Go.Proofs.Ytbfclnigjijkbaa
set_option maxRecDepth 100000
set_option linter.all false
open Go

/-- The first digit's landing. -/
def startM (l : List UInt8) : Lg := (⟨(((digs l).headD 0 % width l : Nat) : Int), (((digs l).headD 0 / width l : Nat) : Int), unitD⟩, 0)
def lgm (l : List UInt8) : List Lg := goL l 7 0 [startM l]
theorem Grid6.dig_ix {l : List UInt8} {W H : Nat} (h : Grid6 l W H) {x y : Nat} (hx : x < W) (hy : y < H) : digL l (x : Int) (y : Int) = true ↔ y * W + x ∈ digs l := by
  rw [mem_digs, h.flat_len, List.getD_eq_getElem?_getD, h.at hx hy]
  unfold digL
  exact ⟨fun hd => ⟨h.lt hx hy, hd⟩, fun hd => hd.2⟩
theorem Grid6.ix_dig {l : List UInt8} {W H : Nat} (h : Grid6 l W H) {i : Nat} (hi : i ∈ digs l) : i % W < W ∧ i / W < H ∧ digL l ((i % W : Nat) : Int) ((i / W : Nat) : Int) = true := by
  have hw := h.w1
  have h1 : i % W < W := Nat.mod_lt _ hw
  have hl := (mem_digs.1 hi).1
  rw [h.flat_len] at hl
  have h2 : i / W < H := by
    rw [Nat.div_lt_iff_lt_mul hw, Nat.mul_comm]; exact hl
  refine ⟨h1, h2, (h.dig_ix h1 h2).2 ?_⟩
  rw [Nat.mul_comm, Nat.div_add_mod]
  exact hi
theorem Grid6.head {l : List UInt8} {W H : Nat} (h : Grid6 l W H) : (digs l).headD 0 ∈ digs l ∧ ∀ i ∈ digs l, (digs l).headD 0 ≤ i := by
  have hl := digs_len l
  rw [h.cnt] at hl
  have hs := digs_sorted l
  cases hd : digs l with
  | nil => rw [hd] at hl; cases hl
  | cons a ts =>
    rw [hd] at hs
    refine ⟨by simp, fun i hi => ?_⟩
    rcases List.mem_cons.1 hi with rfl | hi
    · exact Nat.le_refl _
    · exact Nat.le_of_lt ((List.pairwise_cons.1 hs).1 i hi)
theorem Grid6.start {l : List UInt8} {W H : Nat} (h : Grid6 l W H) : GoodQ l [startM l] := by
  obtain ⟨h1, h2, h3⟩ := h.ix_dig h.head.1
  refine ⟨fun q hq => ?_, fun q hq => ?_, fun q hq => ?_, by simp⟩ <;> (rw [List.mem_singleton] at hq; subst hq)
  · unfold startM; rw [h.ww]; exact h3
  · show unitD ∈ ways
    decide +kernel
  · show 0 ≤ _
    omega
theorem lgm_good {l : List UInt8} {W H : Nat} (hf : Grid6 l W H) : GoodQ l (lgm l) := goL_good 7 0 _ hf.start
theorem start_eq {l : List UInt8} {W H : Nat} (h : Filled l W H) : startM l = startL l := by
  obtain ⟨f1, f2, f3⟩ := h.first
  obtain ⟨h1, h2⟩ := h.head
  have h0 : 0 < H := h.h1
  have hm : firstX l ∈ digs l := by
    have := (h.toGrid6.dig_ix f1 h0).1 f2
    simpa using this
  have hle := h2 _ hm
  have he : (digs l).headD 0 = firstX l := by
    rcases Nat.lt_or_ge ((digs l).headD 0) (firstX l) with hlt | hge
    · have := (h.toGrid6.dig_ix (x := (digs l).headD 0) (y := 0) (by omega) h0).2 (by simpa using h1)
      have h3 := f3 _ hlt
      have e : ((0 : Nat) : Int) = 0 := rfl
      rw [e] at this
      rw [this] at h3
      cases h3
    · omega
  unfold startM startL
  rw [he, h.ww, Nat.mod_eq_of_lt f1, Nat.div_eq_of_lt f1]
  rfl
theorem lgm_eq {l : List UInt8} {W H : Nat} (h : Filled l W H) : lgm l = lgs l := by unfold lgm lgs; rw [start_eq h]

theorem goL_hitS {l : List UInt8} {f n : Nat} {Q : List Lg} {q : Lg} (h : Q[n]? = some q) : goL l (f + 1) n Q = goL l f (n + 1) (stepsL l q 4 Q) := by
  show (match Q[n]? with | none => Q | some q => goL l f (n + 1) (stepsL l q 4 Q)) = _
  rw [h]
theorem goL_endS {l : List UInt8} {f n : Nat} {Q : List Lg} (h : Q.length ≤ n) : goL l f n Q = Q := by
  cases f with
  | zero => rfl
  | succ f =>
    unfold goL
    rw [List.getElem?_eq_none h]
/-- The number of rolls to a cell, or -1. -/
def farI (W : Nat) (Q : List Lg) (i : Nat) : Int := match Q.find? (fun q => ixL W q.1 == i) with
  | none => -1
  | some q => (q.2 : Int)
/-- The face that lies on a cell, or -1. -/
def botI (W : Nat) (Q : List Lg) (i : Nat) : Int := match Q.find? (fun q => ixL W q.1 == i) with
  | none => -1
  | some q => q.1.d.b
theorem find_snoc {W : Nat} {Q : List Lg} {q : Lg} (h : ixL W q.1 ∉ Q.map (fun q => ixL W q.1)) (i : Nat) : (Q ++ [q]).find? (fun q => ixL W q.1 == i) = if i = ixL W q.1 then some q else Q.find? (fun q => ixL W q.1 == i) := by
  rw [List.find?_append]
  by_cases he : i = ixL W q.1
  · rw [if_pos he, he]
    have : Q.find? (fun p => ixL W p.1 == ixL W q.1) = none := by
      rw [List.find?_eq_none]
      intro p hp hc
      exact h (List.mem_map.2 ⟨p, hp, by simpa using hc⟩)
    rw [this]
    simp
  · rw [if_neg he]
    have : [q].find? (fun p => ixL W p.1 == i) = none := by
      rw [List.find?_eq_none]
      intro p hp hc
      rw [List.mem_singleton] at hp
      subst hp
      exact he (by have := beq_iff_eq.1 hc; exact this.symm)
    rw [this]
    simp
theorem farI_snoc {W : Nat} {Q : List Lg} {q : Lg} (h : ixL W q.1 ∉ Q.map (fun q => ixL W q.1)) (i : Nat) : farI W (Q ++ [q]) i = if i = ixL W q.1 then (q.2 : Int) else farI W Q i := by
  unfold farI
  rw [find_snoc h]
  split
  · rename_i hc
    split at hc
    · cases hc
    · rename_i hne
      rw [if_neg hne, hc]
  · rename_i q' hc
    split at hc
    · rename_i he
      rw [if_pos he, ← Option.some.inj hc]
    · rename_i hne
      rw [if_neg hne, hc]
theorem botI_snoc {W : Nat} {Q : List Lg} {q : Lg} (h : ixL W q.1 ∉ Q.map (fun q => ixL W q.1)) (i : Nat) : botI W (Q ++ [q]) i = if i = ixL W q.1 then q.1.d.b else botI W Q i := by
  unfold botI
  rw [find_snoc h]
  split
  · rename_i hc
    split at hc
    · cases hc
    · rename_i hne
      rw [if_neg hne, hc]
  · rename_i q' hc
    split at hc
    · rename_i he
      rw [if_pos he, ← Option.some.inj hc]
    · rename_i hne
      rw [if_neg hne, hc]
theorem find_ix {W : Nat} {Q : List Lg} (h : (Q.map fun q => ixL W q.1).Nodup) {q : Lg} (hq : q ∈ Q) : Q.find? (fun p => ixL W p.1 == ixL W q.1) = some q := by
  cases hf : Q.find? (fun p => ixL W p.1 == ixL W q.1) with
  | none =>
    rw [List.find?_eq_none] at hf
    exact absurd (beq_iff_eq.2 rfl) (hf q hq)
  | some p =>
    have h1 : ixL W p.1 = ixL W q.1 := by have := List.find?_some hf; simpa using this
    have h2 := List.mem_of_find?_eq_some hf
    unfold List.Nodup at h
    rw [List.pairwise_map] at h
    by_cases he : p = q
    · rw [he]
    · obtain ⟨a, ha, ea⟩ := List.mem_iff_getElem.1 h2
      obtain ⟨b, hb, eb⟩ := List.mem_iff_getElem.1 hq
      rw [List.pairwise_iff_getElem] at h
      rcases Nat.lt_trichotomy a b with hab | hab | hab
      · have := h a b ha hb hab
        rw [ea, eb] at this
        exact absurd h1 this
      · subst hab
        exact absurd (ea.symm.trans eb) he
      · have := h b a hb ha hab
        rw [ea, eb] at this
        exact absurd h1.symm this
theorem farI_none {W : Nat} {Q : List Lg} {i : Nat} : farI W Q i < 0 ↔ i ∉ Q.map (fun q => ixL W q.1) := by
  unfold farI
  cases hf : Q.find? (fun q => ixL W q.1 == i) with
  | none =>
    rw [List.find?_eq_none] at hf
    refine ⟨fun _ hm => ?_, fun _ => by show (-1 : Int) < 0; omega⟩
    obtain ⟨q, hq, e⟩ := List.mem_map.1 hm
    exact hf q hq (beq_iff_eq.2 e)
  | some q =>
    have h1 : ixL W q.1 = i := by have := List.find?_some hf; simpa using this
    refine ⟨fun h => ?_, fun h => absurd (List.mem_map.2 ⟨q, List.mem_of_find?_eq_some hf, h1⟩) h⟩
    have h' : (q.2 : Int) < 0 := h
    omega

/-- Bits. -/
def bitsL (f : Nat → Nat) : List Nat → Nat → Nat
  | [], b => b
  | i :: D, b => bitsL f D (b ||| 1 <<< f i)
theorem bitsL_test (f : Nat → Nat) : ∀ (D : List Nat) (b j : Nat), (bitsL f D b).testBit j = (b.testBit j || D.any fun i => decide (f i = j))
  | [], b, j => by simp [bitsL]
  | i :: D, b, j => by
    rw [bitsL, bitsL_test f D, Nat.testBit_or, Nat.shiftLeft_eq, Nat.one_mul, Nat.testBit_two_pow, List.any_cons, Bool.or_assoc]
theorem bits_full {f : Nat → Nat} {D : List Nat} {n : Nat} (hf : ∀ i ∈ D, f i < n) : bitsL f D 0 = 2 ^ n - 1 ↔ ∀ j, j < n → ∃ i ∈ D, f i = j := by
  constructor
  · intro h j hj
    have h1 := bitsL_test f D 0 j
    rw [h, Nat.testBit_two_pow_sub_one, Nat.zero_testBit, Bool.false_or, decide_eq_true hj] at h1
    obtain ⟨i, hi, e⟩ := List.any_eq_true.1 h1.symm
    exact ⟨i, hi, of_decide_eq_true e⟩
  · intro h
    apply Nat.eq_of_testBit_eq
    intro j
    rw [bitsL_test, Nat.testBit_two_pow_sub_one, Nat.zero_testBit, Bool.false_or]
    by_cases hj : j < n
    · rw [decide_eq_true hj, List.any_eq_true]
      obtain ⟨i, hi, e⟩ := h j hj
      exact ⟨i, hi, decide_eq_true e⟩
    · rw [decide_eq_false hj, List.any_eq_false]
      intro i hi hc
      have := hf i hi
      have := of_decide_eq_true hc
      omega
theorem bitsL_snoc (f : Nat → Nat) : ∀ (D : List Nat) (b i : Nat), bitsL f (D ++ [i]) b = bitsL f D b ||| 1 <<< f i
  | [], b, i => rfl
  | a :: D, b, i => by
    rw [List.cons_append, bitsL, bitsL_snoc f D, bitsL]
theorem bitsL_lt {f : Nat → Nat} {n : Nat} : ∀ (D : List Nat) (b : Nat), b < 2 ^ n → (∀ i ∈ D, f i < n) → bitsL f D b < 2 ^ n
  | [], b, hb, _ => hb
  | i :: D, b, hb, h => by
    refine bitsL_lt D _ (Nat.or_lt_two_pow hb ?_) (fun k hk => h k (by simp [hk]))
    rw [Nat.shiftLeft_eq, Nat.one_mul]
    exact Nat.pow_lt_pow_right (by omega) (h i (by simp))
/-- All columns and all rows are met: the text is filled. -/
theorem Grid6.filled {l : List UInt8} {W H : Nat} (h : Grid6 l W H) : filledB l = decide (bitsL (· % W) (digs l) 0 = 2 ^ W - 1 ∧ bitsL (· / W) (digs l) 0 = 2 ^ H - 1) := by
  have hw := h.w1
  rw [Bool.eq_iff_iff, decide_eq_true_eq, bits_full (fun i hi => (h.ix_dig hi).1), bits_full (fun i hi => (h.ix_dig hi).2.1)]
  have hcell : ∀ x y : Nat, cellI (splitP l) (x : Int) (y : Int) = ((splitP l).getD y []).getD x 35 := by intro x y; unfold cellI; simp
  have hrow : ∀ y, y < H → ∃ r, (splitP l)[y]? = some r ∧ r ∈ splitP l ∧ r.length = W ∧ (splitP l).getD y [] = r := by
    intro y hy
    have hy' : y < (splitP l).length := by rw [h.hh]; exact hy
    refine ⟨(splitP l)[y], List.getElem?_eq_getElem hy', List.getElem_mem _, h.even _ (List.getElem_mem _), ?_⟩
    rw [List.getD_eq_getElem?_getD, List.getElem?_eq_getElem hy']; rfl
  unfold filledB
  rw [Bool.and_eq_true, List.all_eq_true, List.all_eq_true]
  constructor
  · rintro ⟨h1, h2⟩
    refine ⟨fun x hx => ?_, fun y hy => ?_⟩
    · have h3 := h2 x (List.mem_range.2 (by rw [h.ww]; exact hx))
      unfold hasDigX at h3
      obtain ⟨r, hr, hd⟩ := List.any_eq_true.1 h3
      obtain ⟨y, hy, e⟩ := List.mem_iff_getElem.1 hr
      have hy' : y < H := by rw [← h.hh]; exact hy
      have hrl := h.even r hr
      refine ⟨y * W + x, (h.dig_ix hx hy').1 ?_, by rw [Nat.mul_comm, Nat.mul_add_mod, Nat.mod_eq_of_lt hx]⟩
      unfold digL
      rw [hcell, List.getD_eq_getElem?_getD (l := splitP l), List.getElem?_eq_getElem hy, e]
      show isDig (r.getD x 35) = true
      rw [List.getD_eq_getElem?_getD, List.getElem?_eq_getElem (by omega)] at hd ⊢
      exact hd
    · obtain ⟨r, hr, hm, hl, hg⟩ := hrow y hy
      have h3 := h1 r hm
      rw [Bool.and_eq_true, Bool.and_eq_true] at h3
      obtain ⟨c, hc, hd⟩ := List.any_eq_true.1 h3.1.2
      obtain ⟨x, hx, e⟩ := List.mem_iff_getElem.1 hc
      have hx' : x < W := by omega
      refine ⟨y * W + x, (h.dig_ix hx' hy).1 ?_, ?_⟩
      · unfold digL
        rw [hcell, hg, List.getD_eq_getElem?_getD, List.getElem?_eq_getElem hx, e]
        exact hd
      · rw [Nat.mul_comm, Nat.mul_add_div hw, Nat.div_eq_of_lt hx', Nat.add_zero]
  · rintro ⟨h1, h2⟩
    refine ⟨fun r hr => ?_, fun x hx => ?_⟩
    · obtain ⟨y, hy, e⟩ := List.mem_iff_getElem.1 hr
      have hy' : y < H := by rw [← h.hh]; exact hy
      obtain ⟨i, hi, hid⟩ := h2 y hy'
      obtain ⟨g1, g2, g3⟩ := h.ix_dig hi
      rw [Bool.and_eq_true, Bool.and_eq_true, decide_eq_true_eq, h.ww]
      refine ⟨⟨h.even r hr, ?_⟩, h.ok r hr⟩
      have hid' : i / W = y := hid
      unfold digL at g3
      rw [hcell, hid', List.getD_eq_getElem?_getD (l := splitP l), List.getElem?_eq_getElem hy, e] at g3
      change isDig (r.getD (i % W) 35) = true at g3
      have hrl := h.even r hr
      rw [List.getD_eq_getElem?_getD, List.getElem?_eq_getElem (by omega)] at g3
      exact List.any_eq_true.2 ⟨_, List.getElem_mem _, g3⟩
    · rw [List.mem_range, h.ww] at hx
      obtain ⟨i, hi, hid⟩ := h1 x hx
      obtain ⟨g1, g2, g3⟩ := h.ix_dig hi
      obtain ⟨r, hr, hm, hl, hg⟩ := hrow (i / W) g2
      have hid' : i % W = x := hid
      unfold digL at g3
      rw [hcell, hg, hid', List.getD_eq_getElem?_getD, List.getElem?_eq_getElem (by omega)] at g3
      unfold hasDigX
      refine List.any_eq_true.2 ⟨r, hm, ?_⟩
      rw [List.getD_eq_getElem?_getD, List.getElem?_eq_getElem (by omega)]
      exact g3
/-- Is a text a six? -/
def sixB (l : List UInt8) : Bool := decide (cntD l = 6) && filledB l && decide ((lgs l).length = 6)
theorem six_partsS {l : List UInt8} (h : sixB l = true) : Filled l (width l) (splitP l).length ∧ (lgs l).length = 6 := by
  unfold sixB at h
  rw [Bool.and_eq_true, Bool.and_eq_true, decide_eq_true_eq, decide_eq_true_eq] at h
  exact ⟨filled_of h.1.2 h.1.1, h.2⟩
theorem nodup_len {A B : List Nat} (h : A.Nodup) (hs : ∀ i ∈ A, i ∈ B) (hb : B.length ≤ A.length) : ∀ i ∈ B, i ∈ A := by
  intro i hi
  by_cases hm : i ∈ A
  · exact hm
  · have h1 : (i :: A).Nodup := List.nodup_cons.2 ⟨hm, h⟩
    have h2 := nodup_le (i :: A) B h1 (by
      intro k hk
      rcases List.mem_cons.1 hk with rfl | hk
      · exact hi
      · exact hs k hk)
    rw [List.length_cons] at h2
    omega
/-- All digits are met: there are six landings. -/
theorem Grid6.all_met {l : List UInt8} {W H : Nat} (h : Grid6 l W H) {Q : List Lg} (hQ : GoodQ l Q) : (∀ i ∈ digs l, ¬ farI W Q i < 0) ↔ Q.length = 6 := by
  obtain ⟨h1, h2⟩ := hQ.ix h
  have hl := digs_len l
  rw [h.cnt] at hl
  constructor
  · intro h3
    have h4 := nodup_le (digs l) (Q.map fun q => ixL W q.1) (digs_nodup l) (fun i hi => by
      have := h3 i hi
      rw [farI_none] at this
      exact Classical.not_not.1 this)
    rw [List.length_map] at h4
    have := hQ.le h
    omega
  · intro h3 i hi hn
    rw [farI_none] at hn
    exact hn (nodup_len h1 h2 (by rw [List.length_map]; omega) i hi)
/-- What the model finds of a text that it has read. -/
theorem Grid6.six {l : List UInt8} {W H : Nat} (h : Grid6 l W H) : sixB l = (decide (∀ i ∈ digs l, ¬ farI W (lgm l) i < 0) && decide (bitsL (· % W) (digs l) 0 = 2 ^ W - 1 ∧ bitsL (· / W) (digs l) 0 = 2 ^ H - 1)) := by
  rw [← h.filled]
  unfold sixB
  rw [h.cnt]
  cases hf : filledB l
  · simp
  · have hF : Filled l W H := ⟨h, hf⟩
    have e : decide (∀ i ∈ digs l, ¬ farI W (lgm l) i < 0) = decide ((lgs l).length = 6) := by
      rw [decide_eq_decide, h.all_met (lgm_good h), lgm_eq hF]
    rw [e]
    simp
end Go.Proofs.Ytbfclnigjijkbaa
