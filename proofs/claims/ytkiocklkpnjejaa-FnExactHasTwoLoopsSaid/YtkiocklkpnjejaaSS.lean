/- Slices of slices of integers that a call made: SS; the statements' own eqIntSS, markIntSS, heldIntSS. -/
import Derived.Test.YtkiocklkpnjejaaDieS
namespace Go.Proofs.Ytkiocklkpnjejaa
set_option maxRecDepth 100000
set_option linter.all false
open Go.RowKit

def sumL : List (List Int) → Nat
  | [] => 0
  | l :: L => l.length + sumL L
theorem sumL_append : ∀ (L M : List (List Int)), sumL (L ++ M) = sumL L + sumL M
  | [], M => by simp [sumL]
  | l :: L, M => by simp only [List.cons_append, sumL]; rw [sumL_append L M]; omega
theorem sumL_get : ∀ (L : List (List Int)) (i : Nat) (l : List Int), L[i]? = some l → sumL (L.take (i + 1)) = sumL (L.take i) + l.length := by
  intro L i l h
  rw [List.take_add_one, h, sumL_append]
  rfl
theorem sumL_take_le (L : List (List Int)) (i : Nat) : sumL (L.take i) ≤ sumL L := by
  have := sumL_append (L.take i) (L.drop i)
  rw [List.take_append_drop] at this
  omega
/-- All rows marked with k, k + 1, .. -/
def mkS (k : Int) : List (List Int) → List (List Int)
  | [] => []
  | l :: L => upTo k l.length :: mkS (k + (l.length : Int)) L
theorem mkS_len : ∀ (k : Int) (L : List (List Int)), (mkS k L).length = L.length
  | _, [] => rfl
  | k, l :: L => by simp only [mkS, List.length_cons]; rw [mkS_len _ L]
theorem mkS_append : ∀ (k : Int) (L M : List (List Int)), mkS k (L ++ M) = mkS k L ++ mkS (k + (sumL L : Int)) M
  | k, [], M => by simp [mkS, sumL]
  | k, l :: L, M => by
    simp only [List.cons_append, mkS, sumL]
    rw [mkS_append _ L M]
    congr 3
    omega
theorem mkS_get {L : List (List Int)} {i : Nat} {l : List Int} (k : Int) (h : L[i]? = some l) : (mkS k L)[i]? = some (upTo (k + (sumL (L.take i) : Int)) l.length) := by
  have hi := (List.getElem?_eq_some_iff.1 h).1
  have e : L = L.take i ++ l :: L.drop (i + 1) := by
    have := (List.getElem?_eq_some_iff.1 h).2
    rw [← this, ← List.drop_eq_getElem_cons hi, List.take_append_drop]
  have hl : (mkS k (L.take i)).length = i := by rw [mkS_len, List.length_take]; omega
  conv => lhs; rw [e]
  rw [mkS_append, List.getElem?_append_right (by omega), hl, Nat.sub_self]
  rfl
theorem mkS_next {L : List (List Int)} {i : Nat} {l : List Int} (k : Int) (h : L[i]? = some l) : (mkS k (L.take i) ++ L.drop i).set i (upTo (k + (sumL (L.take i) : Int)) l.length) = mkS k (L.take (i + 1)) ++ L.drop (i + 1) := by
  have hi := (List.getElem?_eq_some_iff.1 h).1
  have hl : (mkS k (L.take i)).length = i := by rw [mkS_len, List.length_take]; omega
  rw [List.set_append_right _ _ (by omega), hl, Nat.sub_self, List.drop_eq_getElem_cons hi, List.set_cons_zero, List.take_add_one, h]
  show _ = mkS k (L.take i ++ [l]) ++ _
  rw [mkS_append, List.append_assoc]
  rfl
theorem info_intS : (Try.prog.info? 27).map (fun i => (i.zero, i.size, i.bytes)) = some (some (.slice none 0 0), 1, 24) := by kernel_rfl
/-- Rows of integers in a row, all in blocks from B up to T, each in its own. -/
def SS (w : World) (B T : Nat) (v : Value) (L : List (List Int)) : Prop :=
  ∃ vs : List Value, vs.length = L.length ∧ w.ownsRow B 27 1 v L.length vs ∧ (∀ g, v.ownBlock = some g → g < T) ∧
    (∀ (i : Nat) (l : List Int) (u : Value), L[i]? = some l → vs[i]? = some u → w.ownsRow B 3 1 u l.length (ints l) ∧ (∀ g, u.ownBlock = some g → g < T) ∧ (∀ g, u.ownBlock = some g → v.ownBlock ≠ some g)) ∧
    (∀ (i j : Nat) (u u' : Value), i ≠ j → vs[i]? = some u → vs[j]? = some u' → ∀ g, u.ownBlock = some g → u'.ownBlock ≠ some g)
theorem ss_nil (w : World) (B T : Nat) : SS w B T (.slice none 0 0) [] := ⟨[], rfl, World.ownsRow_nil _ _ _ _, by simp [Value.ownBlock], by simp, by simp⟩
theorem own_same {w w1 : World} {B : Nat} {e : TypeId} {z : Nat} {v : Value} {n : Nat} {xs : List Value} (h : w.ownsRow B e z v n xs) (hh : w1.heap = w.heap) : w1.ownsRow B e z v n xs := by
  obtain ⟨h1, h2⟩ := h
  refine ⟨h1, ?_⟩
  rcases h2 with h2 | ⟨g, cap, cur, hv, hg, hx, r⟩
  · exact .inl h2
  · exact .inr ⟨g, cap, cur, hv, hg, by rw [hh]; exact hx, r⟩
theorem ss_to {w w0 w1 : World} {B T : Nat} {v : Value} {L : List (List Int)} (hb : Below w0.heap.size w0 w1) (h : SS w B T v L) (e : w0.heap = w.heap) : SS w1 B T v L := by
  obtain ⟨vs, h1, h2, h3, h4, h5⟩ := h
  exact ⟨vs, h1, own_to hb h2 e, h3, fun i l u hl hu => ⟨own_to hb (h4 i l u hl hu).1 e, (h4 i l u hl hu).2⟩, h5⟩
theorem ss_below {w w1 : World} {B B' T : Nat} {v : Value} {L : List (List Int)} (hb : Below B' w w1) (h : SS w B T v L) (hT : T ≤ B') : SS w1 B T v L := by
  obtain ⟨vs, h1, h2, h3, h4, h5⟩ := h
  exact ⟨vs, h1, own_below hb h2 (fun g hg => Nat.lt_of_lt_of_le (h3 g hg) hT), h3, fun i l u hl hu => ⟨own_below hb (h4 i l u hl hu).1 (fun g hg => Nat.lt_of_lt_of_le ((h4 i l u hl hu).2.1 g hg) hT), (h4 i l u hl hu).2⟩, h5⟩
theorem ss_mono {w : World} {B B' T T' : Nat} {v : Value} {L : List (List Int)} (h : SS w B T v L) (hB : B' ≤ B) (hT : T ≤ T') : SS w B' T' v L := by
  obtain ⟨vs, h1, h2, h3, h4, h5⟩ := h
  exact ⟨vs, h1, own_mono h2 hB, fun g hg => Nat.lt_of_lt_of_le (h3 g hg) hT, fun i l u hl hu => ⟨own_mono (h4 i l u hl hu).1 hB, fun g hg => Nat.lt_of_lt_of_le ((h4 i l u hl hu).2.1 g hg) hT, (h4 i l u hl hu).2.2⟩, h5⟩
theorem ss_kept {w w1 : World} {B T : Nat} {o : Option Nat} {v : Value} {L : List (List Int)} (hk : Kept o w w1) (h : SS w B T v L) (ho : ∀ g, B ≤ g → g < T → o ≠ some g) : SS w1 B T v L := by
  obtain ⟨vs, h1, h2, h3, h4, h5⟩ := h
  exact ⟨vs, h1, own_kept hk h2 (fun g hg => ho g (h2.lt g hg).1 (h3 g hg)), h3, fun i l u hl hu => ⟨own_kept hk (h4 i l u hl hu).1 (fun g hg => ho g ((h4 i l u hl hu).1.lt g hg).1 ((h4 i l u hl hu).2.1 g hg)), (h4 i l u hl hu).2⟩, h5⟩
theorem ss_lt {w : World} {B T : Nat} {v : Value} {L : List (List Int)} (_ : SS w B T v L) (h : T ≤ w.heap.size) : T ≤ w.heap.size := h
/-- An elder row is none of them; nor is a younger one. -/
theorem ss_apart {w w1 : World} {b z n B T : Nat} {e : TypeId} {v x : Value} {xs : List Value} {L : List (List Int)} (hx : w.ownsRow b e z x n xs) (_ : SS w1 B T v L) (hb : w.heap.size ≤ B) : ∀ g, B ≤ g → g < T → x.ownBlock ≠ some g := fun g h1 _ h3 => by
  have := (hx.lt g h3).2
  omega
theorem ss_apart2 {w w1 : World} {b z n B T : Nat} {e : TypeId} {v x : Value} {xs : List Value} {L : List (List Int)} (_ : SS w B T v L) (hx : w1.ownsRow b e z x n xs) (hb : T ≤ b) : ∀ g, B ≤ g → g < T → x.ownBlock ≠ some g := fun g _ h2 h3 => by
  have := (hx.lt g h3).1
  omega
theorem ss_form {w : World} {B T : Nat} {v : Value} {L : List (List Int)} (h : SS w B T v L) : (v = .slice none 0 0 ∧ L.length = 0) ∨ ∃ g cap, v = .slice (some ⟨g, 0, none⟩) L.length cap ∧ g < w.heap.size := by
  obtain ⟨vs, h1, h2, -⟩ := h
  rcases own_forms h2 with h | ⟨g, cap, h3, _, h4⟩
  · exact .inl h
  · exact .inr ⟨g, cap, h3, h4⟩
theorem int_form {w : World} {B n : Nat} {u : Value} {xs : List Value} {e : TypeId} {z : Nat} (h : w.ownsRow B e z u n xs) : ∃ p c, u = .slice p n c := by
  rcases own_forms h with ⟨rfl, rfl⟩ | ⟨g, cap, rfl, _, _⟩
  · exact ⟨none, 0, rfl⟩
  · exact ⟨_, cap, rfl⟩
/-- One of the rows: its cell, its own cells. -/
theorem ss_row {w : World} {B T g cap : Nat} {n : Nat} {L : List (List Int)} (h : SS w B T (.slice (some ⟨g, 0, none⟩) n cap) L) {i : Nat} {l : List Int} (hl : L[i]? = some l) : ∃ p c, w.cell? ⟨g, i, none⟩ = some (.slice p l.length c) ∧ w.ownsRow B 3 1 (.slice p l.length c) l.length (ints l) := by
  obtain ⟨vs, h1, h2, h3, h4, h5⟩ := h
  have hi := (List.getElem?_eq_some_iff.1 hl).1
  have hu : vs[i]? = some (vs[i]'(by omega)) := List.getElem?_eq_getElem (by omega)
  generalize vs[i]'(by omega) = u at hu
  have ho := (h4 i l u hl hu).1
  obtain ⟨p, c, rfl⟩ := int_form ho
  refine ⟨p, c, ?_, ho⟩
  have e : n = L.length := by
    rcases own_forms h2 with ⟨h, _⟩ | ⟨g', cap', h, _, _⟩
    · cases h
    · cases h; rfl
  subst e
  rw [h2.cellAt i (by omega), hu]
/-- One row is written over. -/
theorem ss_set {w : World} {B T g cap n : Nat} {L : List (List Int)} (h : SS w B T (.slice (some ⟨g, 0, none⟩) n cap) L) {i : Nat} {l : List Int} (hl : L[i]? = some l) : ∃ p c, w.cell? ⟨g, i, none⟩ = some (.slice p l.length c) ∧ w.ownsRow B 3 1 (.slice p l.length c) l.length (ints l) ∧
    ∀ (w1 : World) (l' : List Int), l'.length = l.length → w1.ownsRow B 3 1 (.slice p l.length c) l.length (ints l') → Kept (Value.slice p l.length c).ownBlock w w1 → SS w1 B T (.slice (some ⟨g, 0, none⟩) n cap) (L.set i l') := by
  obtain ⟨vs, h1, h2, h3, h4, h5⟩ := h
  have hi := (List.getElem?_eq_some_iff.1 hl).1
  have hu : vs[i]? = some (vs[i]'(by omega)) := List.getElem?_eq_getElem (by omega)
  generalize vs[i]'(by omega) = u at hu
  obtain ⟨ho, ho2, ho3⟩ := h4 i l u hl hu
  obtain ⟨p, c, rfl⟩ := int_form ho
  have e : n = L.length := by
    rcases own_forms h2 with ⟨h, _⟩ | ⟨g', cap', h, _, _⟩
    · cases h
    · cases h; rfl
  subst e
  refine ⟨p, c, by rw [h2.cellAt i (by omega), hu], ho, ?_⟩
  intro w1 l' hl' ho' hk
  refine ⟨vs, by rw [List.length_set]; exact h1, ?_, h3, ?_, h5⟩
  · rw [List.length_set]
    exact own_kept hk h2 (fun b hb hx => ho3 b hx hb)
  · intro j m x hm hx
    rw [List.getElem?_set] at hm
    by_cases hij : i = j
    · subst hij
      rw [if_pos rfl, if_pos hi] at hm
      cases hm
      rw [hu] at hx
      cases hx
      exact ⟨by rw [hl']; exact ho', ho2, ho3⟩
    · rw [if_neg hij] at hm
      obtain ⟨a1, a2, a3⟩ := h4 j m x hm hx
      exact ⟨own_kept hk a1 (fun b hb hy => h5 i j _ _ hij hu hx b hy hb), a2, a3⟩
/-- One row more, in the row's own block or a new one. -/
theorem ss_snoc {w1 w4 : World} {B T b : Nat} {v v' u : Value} {L : List (List Int)} {l : List Int} {vs : List Value} (hv : vs.length = L.length) (h3 : ∀ g, v.ownBlock = some g → g < T)
    (h4 : ∀ (i : Nat) (l : List Int) (u : Value), L[i]? = some l → vs[i]? = some u → w1.ownsRow B 3 1 u l.length (ints l) ∧ (∀ g, u.ownBlock = some g → g < T) ∧ (∀ g, u.ownBlock = some g → v.ownBlock ≠ some g))
    (h5 : ∀ (i j : Nat) (u u' : Value), i ≠ j → vs[i]? = some u → vs[j]? = some u' → ∀ g, u.ownBlock = some g → u'.ownBlock ≠ some g)
    (hu : w1.ownsRow b 3 1 u l.length (ints l)) (hb : T ≤ b) (hBT : B ≤ b) (hT : T ≤ w1.heap.size)
    (hown : w4.ownsRow B 27 1 v' (L.length + 1) (vs ++ [u])) (hg : w1.grownBy w4 v.ownBlock) (hblk : v'.ownBlock = v.ownBlock ∨ v'.ownBlock = some w1.heap.size) :
    SS w4 B w4.heap.size v' (L ++ [l]) := by
  have hgs := hg.size
  have hvu : ∀ g, u.ownBlock = some g → v.ownBlock ≠ some g := fun g hg' hx => by
    have := (hu.lt g hg').1
    have := h3 g hx
    omega
  have stay : ∀ {x : Value} {n : Nat} {xs : List Value} {c : Nat}, w1.ownsRow c 3 1 x n xs → (∀ g, x.ownBlock = some g → v.ownBlock ≠ some g) → w4.ownsRow c 3 1 x n xs := fun {x n xs c} hx hne => by
    refine hx.kept hg ?_
    cases hxb : x.ownBlock with
    | none => exact .inl rfl
    | some g => exact .inr (fun e => hne g hxb e.symm)
  have hv'n : ∀ {x : Value} {n : Nat} {xs : List Value} {c : Nat}, w1.ownsRow c 3 1 x n xs → (∀ g, x.ownBlock = some g → v.ownBlock ≠ some g) → ∀ g, x.ownBlock = some g → v'.ownBlock ≠ some g := fun {x n xs c} hx hne g hg' hv' => by
    rcases hblk with h | h
    · exact hne g hg' (by rw [← h]; exact hv')
    · have := (hx.lt g hg').2
      rw [h] at hv'
      have := Option.some.inj hv'
      omega
  refine ⟨vs ++ [u], by simp [hv], by rw [List.length_append]; exact hown, fun g hg' => (hown.lt g hg').2, ?_, ?_⟩
  · intro i m x hm hx
    by_cases hi : i < L.length
    · rw [List.getElem?_append_left hi] at hm
      rw [List.getElem?_append_left (by omega)] at hx
      obtain ⟨a1, a2, a3⟩ := h4 i m x hm hx
      exact ⟨stay a1 a3, fun g hg' => by have := a2 g hg'; omega, hv'n a1 a3⟩
    · rw [List.getElem?_append_right (by omega)] at hm hx
      have hi0 : i - L.length = 0 := by
        have := (List.getElem?_eq_some_iff.1 hm).1
        simp at this
        omega
      rw [hi0] at hm
      rw [hv, hi0] at hx
      simp at hm hx
      subst hm
      subst hx
      exact ⟨own_mono (stay hu hvu) hBT, fun g hg' => by have := (hu.lt g hg').2; omega, hv'n hu hvu⟩
  · intro i j x y hij hx hy g hxg hyg
    have aux : ∀ (k : Nat) (z : Value), (vs ++ [u])[k]? = some z → (k < vs.length ∧ vs[k]? = some z) ∨ (k = vs.length ∧ z = u) := by
      intro k z hz
      by_cases hk : k < vs.length
      · rw [List.getElem?_append_left hk] at hz
        exact .inl ⟨hk, hz⟩
      · have hk2 := (List.getElem?_eq_some_iff.1 hz).1
        rw [List.length_append, List.length_singleton] at hk2
        have : k = vs.length := by omega
        subst this
        rw [List.getElem?_append_right (Nat.le_refl _), Nat.sub_self] at hz
        simp at hz
        exact .inr ⟨rfl, hz.symm⟩
    have old : ∀ (k : Nat) (z : Value), k < vs.length → vs[k]? = some z → ∀ g, z.ownBlock = some g → u.ownBlock ≠ some g := fun k z hk hz g hzg hug => by
      have hl : L[k]? = some (L[k]'(by omega)) := List.getElem?_eq_getElem (by omega)
      have := (h4 k _ z hl hz).2.1 g hzg
      have := (hu.lt g hug).1
      omega
    rcases aux i x hx with ⟨hi, hx'⟩ | ⟨hi, rfl⟩ <;> rcases aux j y hy with ⟨hj, hy'⟩ | ⟨hj, rfl⟩
    · exact h5 i j x y hij hx' hy' g hxg hyg
    · exact old i x hi hx' g hxg hyg
    · exact old j y hj hy' g hyg hxg
    · omega

/-- A row of integers is marked: every block but its own stays. -/
theorem markIntS_keptS (g cap n : Nat) (B : Nat) (L : List Int) (k0 : Int) (w : World) (hn : n ≤ 1000000000) (hk0 : 0 ≤ k0 ∧ k0 ≤ 1000000) (ha : w.ownsRow B 3 1 (.slice (some ⟨g, 0, none⟩) n cap) n (ints L)) : Calls Try.prog 19 #[.slice (some ⟨g, 0, none⟩) n cap, .int .i64 k0] w fun e w' => e = .returned (.int .i64 (k0 + (n : Int))) ∧ w'.ownsRow B 3 1 (.slice (some ⟨g, 0, none⟩) n cap) n (ints (upTo k0 n)) ∧ Kept (some g) w w' := by
  have hl := ha.1
  rw [ints_len, Nat.mul_one] at hl
  have HA := hide ha
  have hm : n ≤ 9223372036000000000 := by omega
  clear ha hn
  go_enter Try.func19, Try.ntmps19
  go_wp2
  go_loopw [1, 5] (fun x i wr => ∃ k : Nat, k ≤ n ∧ i = .int .i64 (k : Int) ∧ x = .int .i64 (k0 + (k : Int)) ∧ wr.ownsRow B 3 1 (.slice (some ⟨g, 0, none⟩) n cap) n (ints (markI k0 L k)) ∧ Kept (some g) w wr) (fun _ i _ => n - (intOf i).toNat)
  case atStart => exact ⟨0, Nat.zero_le _, rfl, by rw [show k0 + ((0 : Nat) : Int) = k0 from by omega], HA.out, Kept.refl _ _⟩
  case round =>
    obtain ⟨k, hk, rfl, rfl, hown, q⟩ := hrel
    clear HA
    by_cases hlt : k < n
    · have hj : k < (markI k0 L k).length := by unfold markI; rw [List.length_append, upTo_len, List.length_drop]; omega
      have hc := ints_cell hown k _ (List.getElem?_eq_getElem hj)
      generalize (markI k0 L k)[k]'hj = x at hc
      have hf := own_free hown k
      have HO := hide (show (wr.setCell ⟨g, k, none⟩ (.int .i64 (k0 + (k : Int)))).ownsRow B 3 1 (.slice (some ⟨g, 0, none⟩) n cap) n (ints (markI k0 L (k + 1))) from by
        have := own_put hown k (by omega) (.int .i64 (k0 + (k : Int)))
        rwa [ints_set, markI_set k0 L k (by omega)] at this)
      have q2 := q.set k (.int .i64 (k0 + (k : Int)))
      have hki : (k : Int) < (n : Int) := by omega
      have w1q : IntKind.i64.wrap (k0 + (k : Int) + 1) = k0 + ((k + 1 : Nat) : Int) := by
        rw [IntWalk.i64_in _ (by omega)]
        omega
      clear hj hown q
      go_wp2
      go_roundw
      case rel => exact ⟨k + 1, by omega, by go_num, rfl, HO.out, q2⟩
      case measure => simp [intOf] <;> omega
    · obtain rfl : k = n := by omega
      have HO := hide hown
      clear hown
      go_wp2
      go_returns
      refine ⟨rfl, ?_, q⟩
      have := HO.out
      subst hl
      rwa [markI_done k0 L] at this
theorem markIntS_kept (va : Value) (n : Nat) (B : Nat) (L : List Int) (k0 : Int) (w : World) (hn : n ≤ 1000000000) (hk0 : 0 ≤ k0 ∧ k0 ≤ 1000000) (ha : w.ownsRow B 3 1 va n (ints L)) : Calls Try.prog 19 #[va, .int .i64 k0] w fun e w' => e = .returned (.int .i64 (k0 + (n : Int))) ∧ w'.ownsRow B 3 1 va n (ints (upTo k0 n)) ∧ Kept va.ownBlock w w' := by
  rcases own_forms ha with ⟨rfl, rfl⟩ | ⟨g, cap, rfl, hB, _⟩
  · refine (markIntS_none k0 w).mono ?_
    rintro e w' ⟨rfl, rfl⟩
    exact ⟨by rw [show k0 + ((0 : Nat) : Int) = k0 from by omega], World.ownsRow_nil _ _ _ _, Kept.refl _ _⟩
  · exact markIntS_keptS g cap n B L k0 w hn hk0 ha
theorem eqIntSS_none (w : World) : Calls Try.prog 36 #[.slice none 0 0, .slice none 0 0] w fun e w' => e = .returned (.bool true) ∧ Below w.heap.size w w' := by
  go_enter Try.func36, Try.ntmps36
  go_wp2
  go_loop [5] (fun i => i = .int .i64 0) (fun _ => 0)
  case atStart => rfl
  case round =>
    subst hrel
    go_wp2
    go_returns
    exact ⟨rfl, Below.refl _ _⟩
theorem eqIntSS_noneL (g cap : Nat) (w : World) : Calls Try.prog 36 #[.slice none 0 0, .slice (some ⟨g, 0, none⟩) 0 cap] w fun e w' => e = .returned (.bool true) ∧ Below w.heap.size w w' := by
  go_enter Try.func36, Try.ntmps36
  go_wp2
  go_loop [5] (fun i => i = .int .i64 0) (fun _ => 0)
  case atStart => rfl
  case round =>
    subst hrel
    go_wp2
    go_returns
    exact ⟨rfl, Below.refl _ _⟩
theorem eqIntSS_noneR (g cap : Nat) (w : World) : Calls Try.prog 36 #[.slice (some ⟨g, 0, none⟩) 0 cap, .slice none 0 0] w fun e w' => e = .returned (.bool true) ∧ Below w.heap.size w w' := by
  go_enter Try.func36, Try.ntmps36
  go_wp2
  go_loop [5] (fun i => i = .int .i64 0) (fun _ => 0)
  case atStart => rfl
  case round =>
    subst hrel
    go_wp2
    go_returns
    exact ⟨rfl, Below.refl _ _⟩
set_option maxHeartbeats 1600000 in
theorem eqIntSS_some (g cap h c2 n : Nat) (B B2 T T2 : Nat) (L : List (List Int)) (w : World) (hN : n = L.length) (hn : n ≤ 100000) (hs : sumL L ≤ 100000) (ha : SS w B T (.slice (some ⟨g, 0, none⟩) n cap) L) (hb : SS w B2 T2 (.slice (some ⟨h, 0, none⟩) n c2) L) : Calls Try.prog 36 #[.slice (some ⟨g, 0, none⟩) n cap, .slice (some ⟨h, 0, none⟩) n c2] w fun e w' => e = .returned (.bool true) ∧ Below w.heap.size w w' := by
  have HN := hide hN
  have HS := hide hs
  have HA := hide ha
  have HB := hide hb
  clear ha hb hN hs
  go_enter Try.func36, Try.ntmps36
  go_wp2
  go_loopw [5] (fun i wr => ∃ k : Nat, k ≤ n ∧ i = .int .i64 (k : Int) ∧ SS wr B T (.slice (some ⟨g, 0, none⟩) n cap) L ∧ SS wr B2 T2 (.slice (some ⟨h, 0, none⟩) n c2) L ∧ Below w.heap.size w wr) (fun i _ => n - (intOf i).toNat)
  case atStart => exact ⟨0, Nat.zero_le _, rfl, HA.out, HB.out, Below.refl _ _⟩
  case round =>
    obtain ⟨k, hk, rfl, OA, OB, q⟩ := hrel
    clear HA HB
    by_cases hlt : k < n
    · have hx : L[k]? = some (L[k]'(by have := HN.out; omega)) := List.getElem?_eq_getElem (by have := HN.out; omega)
      generalize L[k]'(by have := HN.out; omega) = l at hx
      have hll : l.length ≤ 100000 := by
        have h1 := sumL_get L k l hx
        have h2 := sumL_take_le L (k + 1)
        have := HS.out
        omega
      obtain ⟨p, c, a0, oa⟩ := ss_row OA hx
      obtain ⟨p', c', b0, ob⟩ := ss_row OB hx
      have hki : (k : Int) < (n : Int) := by omega
      have HOA := hide OA
      have HOB := hide OB
      have HX := hide hx
      have HC := hide (fun (W : World) (e : W.heap = wr.heap) => eqIntS_any (.slice p l.length c) (.slice p' l.length c') l.length B B2 l W (by omega) (own_same oa e) (own_same ob e))
      clear hx OA OB oa ob
      go_upto_region 6 with (fail)
      go_region_held3 (fun w' => w'.cell? ⟨g, k, none⟩ = some (.slice p l.length c) ∧ w'.cell? ⟨h, k, none⟩ = some (.slice p' l.length c')) (first | (refine ⟨?_, ?_⟩ <;> with_reducible assumption) | (refine ⟨?_, ?_⟩ <;> assumption))
        (first
          | (go_at_call 18; (refine (HC.out wr.drew rfl).mono ?_); rintro e w2 ⟨rfl, hb2⟩; have q2 := below_to hb2 q q.size rfl rfl rfl rfl; have OA2 := hide (ss_to hb2 HOA.out rfl); have OB2 := hide (ss_to hb2 HOB.out rfl); have a1 := (hb2.cell (p := ⟨g, k, none⟩) (World.block_lt_of_cell? _ _ a0)).trans a0; have b1 := (hb2.cell (p := ⟨h, k, none⟩) (World.block_lt_of_cell? _ _ b0)).trans b0; clear hb2 a0 b0; have a0 := a1; have b0 := b1; clear a1 b1))
      go_wp2
      go_roundw
      case rel => exact ⟨k + 1, by omega, by go_num, OA2.out, OB2.out, q2⟩
      case measure => simp [intOf] <;> omega
    · obtain rfl : k = n := by omega
      clear OA OB
      go_wp2
      go_returns
      exact ⟨rfl, q⟩
theorem eqIntSS_any (va vb : Value) (B B2 : Nat) {T T2 : Nat} (L : List (List Int)) (w : World) (hn : L.length ≤ 100000 ∧ sumL L ≤ 100000) (ha : SS w B T va L) (hb : SS w B2 T2 vb L) : Calls Try.prog 36 #[va, vb] w fun e w' => e = .returned (.bool true) ∧ Below w.heap.size w w' := by
  rcases ss_form ha with ⟨rfl, h0⟩ | ⟨g, cap, rfl, _⟩
  · rcases ss_form hb with ⟨rfl, _⟩ | ⟨g, cap, rfl, _⟩
    · exact eqIntSS_none w
    · rw [h0]; exact eqIntSS_noneL g cap w
  · rcases ss_form hb with ⟨rfl, h0⟩ | ⟨g2, cap2, rfl, _⟩
    · rw [h0]; exact eqIntSS_noneR g cap w
    · exact eqIntSS_some g cap g2 cap2 L.length B B2 T T2 L w rfl hn.1 hn.2 ha hb
theorem markIntSS_none (k : Int) (w : World) : Calls Try.prog 37 #[.slice none 0 0, .int .i64 k] w fun e w' => e = .returned (.int .i64 k) ∧ w = w' := by
  go_enter Try.func37, Try.ntmps37
  go_wp2
  go_loop [1, 5] (fun x i => x = .int .i64 k ∧ i = .int .i64 0) (fun _ _ => 0)
  case atStart => exact ⟨rfl, rfl⟩
  case round =>
    obtain ⟨rfl, rfl⟩ := hrel
    go_wp2
    go_returns
    exact ⟨rfl, rfl⟩
theorem heldIntSS_none (k : Int) (w : World) : Calls Try.prog 38 #[.slice none 0 0, .int .i64 k] w fun e w' => e = .returned (.int .i64 k) ∧ w = w' := by
  go_enter Try.func38, Try.ntmps38
  go_wp2
  go_loop [1, 5] (fun x i => x = .int .i64 k ∧ i = .int .i64 0) (fun _ _ => 0)
  case atStart => exact ⟨rfl, rfl⟩
  case round =>
    obtain ⟨rfl, rfl⟩ := hrel
    go_wp2
    go_returns
    exact ⟨rfl, rfl⟩
set_option maxHeartbeats 1600000 in
theorem markIntSS_some (g cap n : Nat) (B T : Nat) (L : List (List Int)) (k0 : Int) (w : World) (hN : n = L.length) (hn : n ≤ 100000) (hs : sumL L ≤ 100000) (hk0 : 0 ≤ k0 ∧ k0 ≤ 100000) (ha : SS w B T (.slice (some ⟨g, 0, none⟩) n cap) L) : Calls Try.prog 37 #[.slice (some ⟨g, 0, none⟩) n cap, .int .i64 k0] w fun e w' => e = .returned (.int .i64 (k0 + (sumL L : Int))) ∧ SS w' B T (.slice (some ⟨g, 0, none⟩) n cap) (mkS k0 L) ∧ Below B w w' := by
  have HN := hide hN
  have HS := hide hs
  have HA := hide ha
  clear ha hN hs
  go_enter Try.func37, Try.ntmps37
  go_wp2
  go_loopw [1, 5] (fun x i wr => ∃ k : Nat, k ≤ n ∧ i = .int .i64 (k : Int) ∧ x = .int .i64 (k0 + (sumL (L.take k) : Int)) ∧ SS wr B T (.slice (some ⟨g, 0, none⟩) n cap) (mkS k0 (L.take k) ++ L.drop k) ∧ Below B w wr) (fun _ i _ => n - (intOf i).toNat)
  case atStart => exact ⟨0, Nat.zero_le _, rfl, by simp [sumL], HA.out, Below.refl _ _⟩
  case round =>
    obtain ⟨k, hk, rfl, rfl, OA, q⟩ := hrel
    clear HA
    by_cases hlt : k < n
    · have hx : L[k]? = some (L[k]'(by have := HN.out; omega)) := List.getElem?_eq_getElem (by have := HN.out; omega)
      generalize L[k]'(by have := HN.out; omega) = l at hx
      have h1 := sumL_get L k l hx
      have h2 := sumL_take_le L (k + 1)
      have h3 := HS.out
      have hmk : (mkS k0 (L.take k)).length = k := by rw [mkS_len, List.length_take]; have := HN.out; omega
      have hx2 : (mkS k0 (L.take k) ++ L.drop k)[k]? = some l := by
        rw [List.getElem?_append_right (by omega), hmk, Nat.sub_self, List.getElem?_drop]
        exact hx
      obtain ⟨p, c, a0, oa, P⟩ := ss_set OA hx2
      have HNX := hide (mkS_next k0 hx)
      obtain ⟨a, haa⟩ : ∃ a : Nat, a = sumL (L.take k) := ⟨_, rfl⟩
      rw [← haa] at h1 HNX ⊢
      have HP := hide P
      have HH1 := hide h1
      have HC := hide (fun (W : World) (e : W.heap = wr.heap) => markIntS_kept (.slice p l.length c) l.length B l (k0 + (a : Int)) W (by omega) (by omega) (own_same oa e))
      have hal : (a : Int) + (l.length : Int) ≤ 100000 := by omega
      have hki : (k : Int) < (n : Int) := by omega
      have HLT := hide (fun g' hg' => (oa.lt g' hg').1)
      clear hx hx2 OA oa P haa h1 h2 h3 hmk
      go_wp2_with fail
      refine (HC.out _ rfl).mono ?_
      rintro e w2 ⟨rfl, o2, k2⟩
      have O3 := hide (HP.out w2 (upTo (k0 + (a : Int)) l.length) (upTo_len _ _) o2 k2)
      rw [HNX.out] at O3
      have q2 := q.trans (k2.below (B := B) HLT.out)
      clear o2 k2 q a0
      go_wp2
      go_roundw
      case rel => exact ⟨k + 1, by omega, by go_num, by rw [HH1.out]; congr 1; omega, O3.out, q2⟩
      case measure => simp [intOf] <;> omega
    · obtain rfl : k = n := by omega
      have HO := hide OA
      have ht : L.take k = L := List.take_of_length_le (by have := HN.out; omega)
      have hd : L.drop k = [] := List.drop_of_length_le (by have := HN.out; omega)
      rw [ht, hd, List.append_nil] at HO
      rw [ht]
      clear OA ht hd
      go_wp2
      go_returns
      exact ⟨rfl, HO.out, q⟩
set_option maxHeartbeats 1600000 in
theorem heldIntSS_some (g cap n : Nat) (B T : Nat) (L : List (List Int)) (k0 : Int) (w : World) (hN : n = L.length) (hn : n ≤ 100000) (hs : sumL L ≤ 100000) (hk0 : 0 ≤ k0 ∧ k0 ≤ 100000) (ha : SS w B T (.slice (some ⟨g, 0, none⟩) n cap) (mkS k0 L)) : Calls Try.prog 38 #[.slice (some ⟨g, 0, none⟩) n cap, .int .i64 k0] w fun e w' => e = .returned (.int .i64 (k0 + (sumL L : Int))) ∧ w = w' := by
  have HN := hide hN
  have HS := hide hs
  have HA := hide ha
  clear ha hN hs
  go_enter Try.func38, Try.ntmps38
  go_wp2
  go_loop [1, 5] (fun x i => ∃ k : Nat, k ≤ n ∧ i = .int .i64 (k : Int) ∧ x = .int .i64 (k0 + (sumL (L.take k) : Int))) (fun _ i => n - (intOf i).toNat)
  case atStart => exact ⟨0, Nat.zero_le _, rfl, by simp [sumL]⟩
  case round =>
    obtain ⟨k, hk, rfl, rfl⟩ := hrel
    by_cases hlt : k < n
    · have hx : L[k]? = some (L[k]'(by have := HN.out; omega)) := List.getElem?_eq_getElem (by have := HN.out; omega)
      generalize L[k]'(by have := HN.out; omega) = l at hx
      have h1 := sumL_get L k l hx
      have h2 := sumL_take_le L (k + 1)
      have h3 := HS.out
      obtain ⟨p, c, a0, oa⟩ := ss_row HA.out (mkS_get k0 hx)
      rw [upTo_len] at a0 oa
      obtain ⟨a, haa⟩ : ∃ a : Nat, a = sumL (L.take k) := ⟨_, rfl⟩
      rw [← haa] at h1 oa ⊢
      have HH1 := hide h1
      have HC := hide (fun (W : World) (e : W.heap = w.heap) => heldIntS_any (.slice p l.length c) l.length B (k0 + (a : Int)) W (by omega) (by omega) (own_same oa e))
      have hal : (a : Int) + (l.length : Int) ≤ 100000 := by omega
      have hnn : ¬ (k0 + (a : Int) + (l.length : Int) < 0) := by omega
      have hki : (k : Int) < (n : Int) := by omega
      clear hx oa haa h1 h2 h3
      go_wp2_with fail
      refine (HC.out _ rfl).mono ?_
      rintro e w2 ⟨rfl, rfl⟩
      go_wp2
      go_round
      case rel => exact ⟨k + 1, by omega, by go_num, by rw [HH1.out]; congr 1; omega⟩
      case measure => simp [intOf] <;> omega
    · obtain rfl : k = n := by omega
      have ht : L.take k = L := List.take_of_length_le (by have := HN.out; omega)
      rw [ht]
      clear ht
      go_wp2
      go_returns
      exact ⟨rfl, rfl⟩
theorem markIntSS_any (va : Value) (B : Nat) {T : Nat} (L : List (List Int)) (k0 : Int) (w : World) (hn : L.length ≤ 100000 ∧ sumL L ≤ 100000) (hk0 : 0 ≤ k0 ∧ k0 ≤ 100000) (ha : SS w B T va L) : Calls Try.prog 37 #[va, .int .i64 k0] w fun e w' => e = .returned (.int .i64 (k0 + (sumL L : Int))) ∧ SS w' B T va (mkS k0 L) ∧ Below B w w' := by
  rcases ss_form ha with ⟨rfl, h0⟩ | ⟨g, cap, rfl, _⟩
  · obtain rfl := List.eq_nil_of_length_eq_zero h0
    refine (markIntSS_none k0 w).mono ?_
    rintro e w' ⟨rfl, rfl⟩
    exact ⟨by simp [sumL], ss_nil _ _ _, Below.refl _ _⟩
  · exact markIntSS_some g cap L.length B T L k0 w rfl hn.1 hn.2 hk0 ha
theorem heldIntSS_any (va : Value) {B T : Nat} (L : List (List Int)) (k0 : Int) (w : World) (hn : L.length ≤ 100000 ∧ sumL L ≤ 100000) (hk0 : 0 ≤ k0 ∧ k0 ≤ 100000) (ha : SS w B T va (mkS k0 L)) : Calls Try.prog 38 #[va, .int .i64 k0] w fun e w' => e = .returned (.int .i64 (k0 + (sumL L : Int))) ∧ w = w' := by
  rcases ss_form ha with ⟨rfl, h0⟩ | ⟨g, cap, rfl, _⟩
  · rw [mkS_len] at h0
    obtain rfl := List.eq_nil_of_length_eq_zero h0
    refine (heldIntSS_none k0 w).mono ?_
    rintro e w' ⟨rfl, rfl⟩
    exact ⟨by simp [sumL], rfl⟩
  · rw [mkS_len] at ha ⊢
    exact heldIntSS_some g cap L.length B T L k0 w rfl hn.1 hn.2 hk0 ha
end Go.Proofs.Ytkiocklkpnjejaa
