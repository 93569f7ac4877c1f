/- Slices of slices of integers that a call made: SS; the statements' own eqIntSS, markIntSS, heldIntSS. -/
import Derived.Test.YtjikpkembcnfnaaDoorDieS
namespace Go.Proofs.YtjikpkembcnfnaaDoor
set_option maxRecDepth 100000
set_option linter.all false
open Go.RowKit

def sumL : List (List Int) → Nat
  | [] => 0
  | l :: L => l.length + sumL L
theorem sumL_append : ∀ (L M : List (List Int)), sumL (L ++ M) = sumL L + sumL M
  | [], M => by simp [sumL]
  | l :: L, M => by simp only [List.cons_append, sumL]; rw [sumL_append L M]; omega
theorem sumL_get : ∀ (L : List (List Int)) (i : Nat) (l : List Int), L[i]? = some l → sumL (L.take (i + 1)) = sumL (L.take i) + l.length := by
  intro L i l h
  rw [List.take_add_one, h, sumL_append]
  rfl
theorem sumL_take_le (L : List (List Int)) (i : Nat) : sumL (L.take i) ≤ sumL L := by
  have := sumL_append (L.take i) (L.drop i)
  rw [List.take_append_drop] at this
  omega
/-- All rows marked with k, k + 1, .. -/
def mkS (k : Int) : List (List Int) → List (List Int)
  | [] => []
  | l :: L => upTo k l.length :: mkS (k + (l.length : Int)) L
theorem mkS_len : ∀ (k : Int) (L : List (List Int)), (mkS k L).length = L.length
  | _, [] => rfl
  | k, l :: L => by simp only [mkS, List.length_cons]; rw [mkS_len _ L]
theorem mkS_append : ∀ (k : Int) (L M : List (List Int)), mkS k (L ++ M) = mkS k L ++ mkS (k + (sumL L : Int)) M
  | k, [], M => by simp [mkS, sumL]
  | k, l :: L, M => by
    simp only [List.cons_append, mkS, sumL]
    rw [mkS_append _ L M]
    congr 3
    omega
theorem mkS_get {L : List (List Int)} {i : Nat} {l : List Int} (k : Int) (h : L[i]? = some l) : (mkS k L)[i]? = some (upTo (k + (sumL (L.take i) : Int)) l.length) := by
  have hi := (List.getElem?_eq_some_iff.1 h).1
  have e : L = L.take i ++ l :: L.drop (i + 1) := by
    have := (List.getElem?_eq_some_iff.1 h).2
    rw [← this, ← List.drop_eq_getElem_cons hi, List.take_append_drop]
  have hl : (mkS k (L.take i)).length = i := by rw [mkS_len, List.length_take]; omega
  conv => lhs; rw [e]
  rw [mkS_append, List.getElem?_append_right (by omega), hl, Nat.sub_self]
  rfl
theorem mkS_next {L : List (List Int)} {i : Nat} {l : List Int} (k : Int) (h : L[i]? = some l) : (mkS k (L.take i) ++ L.drop i).set i (upTo (k + (sumL (L.take i) : Int)) l.length) = mkS k (L.take (i + 1)) ++ L.drop (i + 1) := by
  have hi := (List.getElem?_eq_some_iff.1 h).1
  have hl : (mkS k (L.take i)).length = i := by rw [mkS_len, List.length_take]; omega
  rw [List.set_append_right _ _ (by omega), hl, Nat.sub_self, List.drop_eq_getElem_cons hi, List.set_cons_zero, List.take_add_one, h]
  show _ = mkS k (L.take i ++ [l]) ++ _
  rw [mkS_append, List.append_assoc]
  rfl
theorem info_intS : (Tryd.prog.info? 45).map (fun i => (i.zero, i.size, i.bytes)) = some (some (.slice none 0 0), 1, 24) := by kernel_rfl
/-- Rows of integers in a row, all in blocks from B up to T, each in its own. -/
def SS (w : World) (B T : Nat) (v : Value) (L : List (List Int)) : Prop :=
  ∃ vs : List Value, vs.length = L.length ∧ w.ownsRow B 45 1 v L.length vs ∧ (∀ g, v.ownBlock = some g → g < T) ∧
    (∀ (i : Nat) (l : List Int) (u : Value), L[i]? = some l → vs[i]? = some u → w.ownsRow B 3 1 u l.length (ints l) ∧ (∀ g, u.ownBlock = some g → g < T) ∧ (∀ g, u.ownBlock = some g → v.ownBlock ≠ some g)) ∧
    (∀ (i j : Nat) (u u' : Value), i ≠ j → vs[i]? = some u → vs[j]? = some u' → ∀ g, u.ownBlock = some g → u'.ownBlock ≠ some g)
theorem ss_nil (w : World) (B T : Nat) : SS w B T (.slice none 0 0) [] := ⟨[], rfl, World.ownsRow_nil _ _ _ _, by simp [Value.ownBlock], by simp, by simp⟩
theorem own_same {w w1 : World} {B : Nat} {e : TypeId} {z : Nat} {v : Value} {n : Nat} {xs : List Value} (h : w.ownsRow B e z v n xs) (hh : w1.heap = w.heap) : w1.ownsRow B e z v n xs := by
  obtain ⟨h1, h2⟩ := h
  refine ⟨h1, ?_⟩
  rcases h2 with h2 | ⟨g, cap, cur, hv, hg, hx, r⟩
  · exact .inl h2
  · exact .inr ⟨g, cap, cur, hv, hg, by rw [hh]; exact hx, r⟩
theorem ss_to {w w0 w1 : World} {B T : Nat} {v : Value} {L : List (List Int)} (hb : Below w0.heap.size w0 w1) (h : SS w B T v L) (e : w0.heap = w.heap) : SS w1 B T v L := by
  obtain ⟨vs, h1, h2, h3, h4, h5⟩ := h
  exact ⟨vs, h1, own_to hb h2 e, h3, fun i l u hl hu => ⟨own_to hb (h4 i l u hl hu).1 e, (h4 i l u hl hu).2⟩, h5⟩
theorem ss_below {w w1 : World} {B B' T : Nat} {v : Value} {L : List (List Int)} (hb : Below B' w w1) (h : SS w B T v L) (hT : T ≤ B') : SS w1 B T v L := by
  obtain ⟨vs, h1, h2, h3, h4, h5⟩ := h
  exact ⟨vs, h1, own_below hb h2 (fun g hg => Nat.lt_of_lt_of_le (h3 g hg) hT), h3, fun i l u hl hu => ⟨own_below hb (h4 i l u hl hu).1 (fun g hg => Nat.lt_of_lt_of_le ((h4 i l u hl hu).2.1 g hg) hT), (h4 i l u hl hu).2⟩, h5⟩
theorem ss_mono {w : World} {B B' T T' : Nat} {v : Value} {L : List (List Int)} (h : SS w B T v L) (hB : B' ≤ B) (hT : T ≤ T') : SS w B' T' v L := by
  obtain ⟨vs, h1, h2, h3, h4, h5⟩ := h
  exact ⟨vs, h1, own_mono h2 hB, fun g hg => Nat.lt_of_lt_of_le (h3 g hg) hT, fun i l u hl hu => ⟨own_mono (h4 i l u hl hu).1 hB, fun g hg => Nat.lt_of_lt_of_le ((h4 i l u hl hu).2.1 g hg) hT, (h4 i l u hl hu).2.2⟩, h5⟩
theorem ss_kept {w w1 : World} {B T : Nat} {o : Option Nat} {v : Value} {L : List (List Int)} (hk : Kept o w w1) (h : SS w B T v L) (ho : ∀ g, B ≤ g → g < T → o ≠ some g) : SS w1 B T v L := by
  obtain ⟨vs, h1, h2, h3, h4, h5⟩ := h
  exact ⟨vs, h1, own_kept hk h2 (fun g hg => ho g (h2.lt g hg).1 (h3 g hg)), h3, fun i l u hl hu => ⟨own_kept hk (h4 i l u hl hu).1 (fun g hg => ho g ((h4 i l u hl hu).1.lt g hg).1 ((h4 i l u hl hu).2.1 g hg)), (h4 i l u hl hu).2⟩, h5⟩
theorem ss_lt {w : World} {B T : Nat} {v : Value} {L : List (List Int)} (_ : SS w B T v L) (h : T ≤ w.heap.size) : T ≤ w.heap.size := h
/-- An elder row is none of them; nor is a younger one. -/
theorem ss_apart {w w1 : World} {b z n B T : Nat} {e : TypeId} {v x : Value} {xs : List Value} {L : List (List Int)} (hx : w.ownsRow b e z x n xs) (_ : SS w1 B T v L) (hb : w.heap.size ≤ B) : ∀ g, B ≤ g → g < T → x.ownBlock ≠ some g := fun g h1 _ h3 => by
  have := (hx.lt g h3).2
  omega
theorem ss_apart2 {w w1 : World} {b z n B T : Nat} {e : TypeId} {v x : Value} {xs : List Value} {L : List (List Int)} (_ : SS w B T v L) (hx : w1.ownsRow b e z x n xs) (hb : T ≤ b) : ∀ g, B ≤ g → g < T → x.ownBlock ≠ some g := fun g _ h2 h3 => by
  have := (hx.lt g h3).1
  omega
theorem ss_form {w : World} {B T : Nat} {v : Value} {L : List (List Int)} (h : SS w B T v L) : (v = .slice none 0 0 ∧ L.length = 0) ∨ ∃ g cap, v = .slice (some ⟨g, 0, none⟩) L.length cap ∧ g < w.heap.size := by
  obtain ⟨vs, h1, h2, -⟩ := h
  rcases own_forms h2 with h | ⟨g, cap, h3, _, h4⟩
  · exact .inl h
  · exact .inr ⟨g, cap, h3, h4⟩
theorem int_form {w : World} {B n : Nat} {u : Value} {xs : List Value} {e : TypeId} {z : Nat} (h : w.ownsRow B e z u n xs) : ∃ p c, u = .slice p n c := by
  rcases own_forms h with ⟨rfl, rfl⟩ | ⟨g, cap, rfl, _, _⟩
  · exact ⟨none, 0, rfl⟩
  · exact ⟨_, cap, rfl⟩
/-- One of the rows: its cell, its own cells. -/
theorem ss_row {w : World} {B T g cap : Nat} {n : Nat} {L : List (List Int)} (h : SS w B T (.slice (some ⟨g, 0, none⟩) n cap) L) {i : Nat} {l : List Int} (hl : L[i]? = some l) : ∃ p c, w.cell? ⟨g, i, none⟩ = some (.slice p l.length c) ∧ w.ownsRow B 3 1 (.slice p l.length c) l.length (ints l) := by
  obtain ⟨vs, h1, h2, h3, h4, h5⟩ := h
  have hi := (List.getElem?_eq_some_iff.1 hl).1
  have hu : vs[i]? = some (vs[i]'(by omega)) := List.getElem?_eq_getElem (by omega)
  generalize vs[i]'(by omega) = u at hu
  have ho := (h4 i l u hl hu).1
  obtain ⟨p, c, rfl⟩ := int_form ho
  refine ⟨p, c, ?_, ho⟩
  have e : n = L.length := by
    rcases own_forms h2 with ⟨h, _⟩ | ⟨g', cap', h, _, _⟩
    · cases h
    · cases h; rfl
  subst e
  rw [h2.cellAt i (by omega), hu]
/-- One row is written over. -/
theorem ss_set {w : World} {B T g cap n : Nat} {L : List (List Int)} (h : SS w B T (.slice (some ⟨g, 0, none⟩) n cap) L) {i : Nat} {l : List Int} (hl : L[i]? = some l) : ∃ p c, w.cell? ⟨g, i, none⟩ = some (.slice p l.length c) ∧ w.ownsRow B 3 1 (.slice p l.length c) l.length (ints l) ∧
    ∀ (w1 : World) (l' : List Int), l'.length = l.length → w1.ownsRow B 3 1 (.slice p l.length c) l.length (ints l') → Kept (Value.slice p l.length c).ownBlock w w1 → SS w1 B T (.slice (some ⟨g, 0, none⟩) n cap) (L.set i l') := by
  obtain ⟨vs, h1, h2, h3, h4, h5⟩ := h
  have hi := (List.getElem?_eq_some_iff.1 hl).1
  have hu : vs[i]? = some (vs[i]'(by omega)) := List.getElem?_eq_getElem (by omega)
  generalize vs[i]'(by omega) = u at hu
  obtain ⟨ho, ho2, ho3⟩ := h4 i l u hl hu
  obtain ⟨p, c, rfl⟩ := int_form ho
  have e : n = L.length := by
    rcases own_forms h2 with ⟨h, _⟩ | ⟨g', cap', h, _, _⟩
    · cases h
    · cases h; rfl
  subst e
  refine ⟨p, c, by rw [h2.cellAt i (by omega), hu], ho, ?_⟩
  intro w1 l' hl' ho' hk
  refine ⟨vs, by rw [List.length_set]; exact h1, ?_, h3, ?_, h5⟩
  · rw [List.length_set]
    exact own_kept hk h2 (fun b hb hx => ho3 b hx hb)
  · intro j m x hm hx
    rw [List.getElem?_set] at hm
    by_cases hij : i = j
    · subst hij
      rw [if_pos rfl, if_pos hi] at hm
      cases hm
      rw [hu] at hx
      cases hx
      exact ⟨by rw [hl']; exact ho', ho2, ho3⟩
    · rw [if_neg hij] at hm
      obtain ⟨a1, a2, a3⟩ := h4 j m x hm hx
      exact ⟨own_kept hk a1 (fun b hb hy => h5 i j _ _ hij hu hx b hy hb), a2, a3⟩
/-- One row more, in the row's own block or a new one. -/
theorem ss_snoc {w1 w4 : World} {B T b : Nat} {v v' u : Value} {L : List (List Int)} {l : List Int} {vs : List Value} (hv : vs.length = L.length) (h3 : ∀ g, v.ownBlock = some g → g < T)
    (h4 : ∀ (i : Nat) (l : List Int) (u : Value), L[i]? = some l → vs[i]? = some u → w1.ownsRow B 3 1 u l.length (ints l) ∧ (∀ g, u.ownBlock = some g → g < T) ∧ (∀ g, u.ownBlock = some g → v.ownBlock ≠ some g))
    (h5 : ∀ (i j : Nat) (u u' : Value), i ≠ j → vs[i]? = some u → vs[j]? = some u' → ∀ g, u.ownBlock = some g → u'.ownBlock ≠ some g)
    (hu : w1.ownsRow b 3 1 u l.length (ints l)) (hb : T ≤ b) (hBT : B ≤ b) (hT : T ≤ w1.heap.size)
    (hown : w4.ownsRow B 45 1 v' (L.length + 1) (vs ++ [u])) (hg : w1.grownBy w4 v.ownBlock) (hblk : v'.ownBlock = v.ownBlock ∨ v'.ownBlock = some w1.heap.size) :
    SS w4 B w4.heap.size v' (L ++ [l]) := by
  have hgs := hg.size
  have hvu : ∀ g, u.ownBlock = some g → v.ownBlock ≠ some g := fun g hg' hx => by
    have := (hu.lt g hg').1
    have := h3 g hx
    omega
  have stay : ∀ {x : Value} {n : Nat} {xs : List Value} {c : Nat}, w1.ownsRow c 3 1 x n xs → (∀ g, x.ownBlock = some g → v.ownBlock ≠ some g) → w4.ownsRow c 3 1 x n xs := fun {x n xs c} hx hne => by
    refine hx.kept hg ?_
    cases hxb : x.ownBlock with
    | none => exact .inl rfl
    | some g => exact .inr (fun e => hne g hxb e.symm)
  have hv'n : ∀ {x : Value} {n : Nat} {xs : List Value} {c : Nat}, w1.ownsRow c 3 1 x n xs → (∀ g, x.ownBlock = some g → v.ownBlock ≠ some g) → ∀ g, x.ownBlock = some g → v'.ownBlock ≠ some g := fun {x n xs c} hx hne g hg' hv' => by
    rcases hblk with h | h
    · exact hne g hg' (by rw [← h]; exact hv')
    · have := (hx.lt g hg').2
      rw [h] at hv'
      have := Option.some.inj hv'
      omega
  refine ⟨vs ++ [u], by simp [hv], by rw [List.length_append]; exact hown, fun g hg' => (hown.lt g hg').2, ?_, ?_⟩
  · intro i m x hm hx
    by_cases hi : i < L.length
    · rw [List.getElem?_append_left hi] at hm
      rw [List.getElem?_append_left (by omega)] at hx
      obtain ⟨a1, a2, a3⟩ := h4 i m x hm hx
      exact ⟨stay a1 a3, fun g hg' => by have := a2 g hg'; omega, hv'n a1 a3⟩
    · rw [List.getElem?_append_right (by omega)] at hm hx
      have hi0 : i - L.length = 0 := by
        have := (List.getElem?_eq_some_iff.1 hm).1
        simp at this
        omega
      rw [hi0] at hm
      rw [hv, hi0] at hx
      simp at hm hx
      subst hm
      subst hx
      exact ⟨own_mono (stay hu hvu) hBT, fun g hg' => by have := (hu.lt g hg').2; omega, hv'n hu hvu⟩
  · intro i j x y hij hx hy g hxg hyg
    have aux : ∀ (k : Nat) (z : Value), (vs ++ [u])[k]? = some z → (k < vs.length ∧ vs[k]? = some z) ∨ (k = vs.length ∧ z = u) := by
      intro k z hz
      by_cases hk : k < vs.length
      · rw [List.getElem?_append_left hk] at hz
        exact .inl ⟨hk, hz⟩
      · have hk2 := (List.getElem?_eq_some_iff.1 hz).1
        rw [List.length_append, List.length_singleton] at hk2
        have : k = vs.length := by omega
        subst this
        rw [List.getElem?_append_right (Nat.le_refl _), Nat.sub_self] at hz
        simp at hz
        exact .inr ⟨rfl, hz.symm⟩
    have old : ∀ (k : Nat) (z : Value), k < vs.length → vs[k]? = some z → ∀ g, z.ownBlock = some g → u.ownBlock ≠ some g := fun k z hk hz g hzg hug => by
      have hl : L[k]? = some (L[k]'(by omega)) := List.getElem?_eq_getElem (by omega)
      have := (h4 k _ z hl hz).2.1 g hzg
      have := (hu.lt g hug).1
      omega
    rcases aux i x hx with ⟨hi, hx'⟩ | ⟨hi, rfl⟩ <;> rcases aux j y hy with ⟨hj, hy'⟩ | ⟨hj, rfl⟩
    · exact h5 i j x y hij hx' hy' g hxg hyg
    · exact old i x hi hx' g hxg hyg
    · exact old j y hj hy' g hyg hxg
    · omega

end Go.Proofs.YtjikpkembcnfnaaDoor
