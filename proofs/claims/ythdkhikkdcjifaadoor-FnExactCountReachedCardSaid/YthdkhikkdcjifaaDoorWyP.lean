/- The search over states: what has been found, with all shortest words, in the order in which it was found. Plain mathematics. No Go in sight. -/
import Derived.Test.YthdkhikkdcjifaaDoorRollT
import Derived.Test.YthdkhikkdcjifaaDoorBndG
namespace Go.Proofs.YthdkhikkdcjifaaDoor
set_option maxRecDepth 100000
set_option linter.all false

/-- A state that has been found: the shortest words to it that have been found, the number of the state before on the first of them and its last direction. -/
structure Nd where
  s : St
  ws : List W4
  bf : Int
  dr : Int
def Nd.hd (q : Nd) : W4 := q.ws.headD []
def Nd.far (q : Nd) : Nat := q.hd.length
def rlS (s : St) (j : Fin 4) : St := rollT s (j.val : Int)
def extW (p : Nd) (j : Fin 4) : List W4 := p.ws.map (· ++ [j])
/-- The number of a state among those that have been found. -/
def findI : List Nd → St → Option Nat
  | [], _ => none
  | q :: L, t => if q.s = t then some 0 else (findI L t).map (· + 1)
theorem findI_none {t : St} : ∀ {L : List Nd}, findI L t = none → ∀ q ∈ L, q.s ≠ t
  | [], _, q, hq => by cases hq
  | x :: L, h, q, hq => by
    unfold findI at h
    by_cases hx : x.s = t
    · rw [if_pos hx] at h; cases h
    · rw [if_neg hx] at h
      rcases List.mem_cons.1 hq with rfl | hq
      · exact hx
      · exact findI_none (by simpa using h) q hq
theorem findI_some {t : St} : ∀ {L : List Nd} {i : Nat}, findI L t = some i → ∃ q, L[i]? = some q ∧ q.s = t
  | [], _, h => by cases h
  | x :: L, i, h => by
    unfold findI at h
    by_cases hx : x.s = t
    · rw [if_pos hx] at h
      cases h
      exact ⟨x, rfl, hx⟩
    · rw [if_neg hx] at h
      obtain ⟨k, hk, rfl⟩ := Option.map_eq_some_iff.1 h
      obtain ⟨q, h1, h2⟩ := findI_some hk
      exact ⟨q, by simpa using h1, h2⟩
theorem nodup_at {L : List Nd} (h : (L.map (·.s)).Nodup) {i k : Nat} {p q : Nd} (hi : L[i]? = some p) (hk : L[k]? = some q) (e : p.s = q.s) : i = k := by
  have h1 : (L.map (·.s))[i]? = some p.s := by simp [hi]
  have h2 : (L.map (·.s))[k]? = some p.s := by simp [hk, e]
  exact (List.getElem?_inj (List.getElem?_eq_some_iff.1 h1).1 h).1 (h1.trans h2.symm)
theorem findI_of {L : List Nd} (h : (L.map (·.s)).Nodup) {i : Nat} {q : Nd} (hi : L[i]? = some q) : findI L q.s = some i := by
  cases hf : findI L q.s with
  | none => exact absurd rfl (findI_none hf q (List.mem_of_getElem? hi))
  | some k =>
    obtain ⟨q', h1, h2⟩ := findI_some hf
    rw [nodup_at h h1 hi h2]

def stepW (fit : St → Bool) (k : Nat) (L : List Nd) (j : Fin 4) : List Nd :=
  match L[k]? with
  | none => L
  | some p =>
    if fit (rlS p.s j) = true then
      match findI L (rlS p.s j) with
      | none => L ++ [⟨rlS p.s j, extW p j, (k : Int), (j.val : Int)⟩]
      | some i => match L[i]? with
        | none => L
        | some q => if q.far = p.far + 1 then L.set i ⟨q.s, q.ws ++ extW p j, q.bf, q.dr⟩ else L
    else L
def stepsW (fit : St → Bool) (k : Nat) (L : List Nd) : Nat → List Nd
  | 0 => L
  | j + 1 => if h : j < 4 then stepW fit k (stepsW fit k L j) ⟨j, h⟩ else stepsW fit k L j
def startW (s : St) : List Nd := [⟨s, [[]], -1, 0⟩]
def runW (fit : St → Bool) (s : St) : Nat → List Nd
  | 0 => startW s
  | n + 1 => stepsW fit n (runW fit s n) 4
/-- All states that are found, in their order. -/
def wyL (fit : St → Bool) (s : St) : List Nd := runW fit s 1000

theorem stepW_off {fit : St → Bool} {k : Nat} {L : List Nd} {p : Nd} {j : Fin 4} (hp : L[k]? = some p) (h : fit (rlS p.s j) = false) : stepW fit k L j = L := by
  unfold stepW
  simp only [hp, h]
  simp
theorem stepW_new {fit : St → Bool} {k : Nat} {L : List Nd} {p : Nd} {j : Fin 4} (hp : L[k]? = some p) (h : fit (rlS p.s j) = true) (hf : findI L (rlS p.s j) = none) : stepW fit k L j = L ++ [⟨rlS p.s j, extW p j, (k : Int), (j.val : Int)⟩] := by
  unfold stepW
  simp only [hp, h, hf]
  simp
theorem stepW_add {fit : St → Bool} {k : Nat} {L : List Nd} {p q : Nd} {j : Fin 4} {i : Nat} (hp : L[k]? = some p) (h : fit (rlS p.s j) = true) (hf : findI L (rlS p.s j) = some i) (hq : L[i]? = some q) (hd : q.far = p.far + 1) : stepW fit k L j = L.set i ⟨q.s, q.ws ++ extW p j, q.bf, q.dr⟩ := by
  unfold stepW
  simp only [hp, h, hf, hq, hd]
  simp
theorem stepW_old {fit : St → Bool} {k : Nat} {L : List Nd} {p q : Nd} {j : Fin 4} {i : Nat} (hp : L[k]? = some p) (h : fit (rlS p.s j) = true) (hf : findI L (rlS p.s j) = some i) (hq : L[i]? = some q) (hd : q.far ≠ p.far + 1) : stepW fit k L j = L := by
  unfold stepW
  simp only [hp, h, hf, hq, hd]
  simp
theorem stepW_none {fit : St → Bool} {k : Nat} {L : List Nd} {j : Fin 4} (hp : L[k]? = none) : stepW fit k L j = L := by
  unfold stepW
  simp only [hp]
theorem stepW_cases {fit : St → Bool} {k : Nat} {L : List Nd} {p : Nd} {j : Fin 4} (hp : L[k]? = some p) (P : List Nd → Prop)
    (h1 : fit (rlS p.s j) = false → P L)
    (h2 : fit (rlS p.s j) = true → (∀ q ∈ L, q.s ≠ rlS p.s j) → P (L ++ [⟨rlS p.s j, extW p j, (k : Int), (j.val : Int)⟩]))
    (h3 : ∀ (i : Nat) (q : Nd), fit (rlS p.s j) = true → L[i]? = some q → q.s = rlS p.s j → q.far = p.far + 1 → P (L.set i ⟨q.s, q.ws ++ extW p j, q.bf, q.dr⟩))
    (h4 : ∀ (i : Nat) (q : Nd), fit (rlS p.s j) = true → L[i]? = some q → q.s = rlS p.s j → q.far ≠ p.far + 1 → P L) : P (stepW fit k L j) := by
  cases hf : fit (rlS p.s j)
  · rw [stepW_off hp hf]; exact h1 hf
  · cases hi : findI L (rlS p.s j) with
    | none => rw [stepW_new hp hf hi]; exact h2 hf (findI_none hi)
    | some i =>
      obtain ⟨q, hq, hs⟩ := findI_some hi
      by_cases hd : q.far = p.far + 1
      · rw [stepW_add hp hf hi hq hd]; exact h3 i q hf hq hs hd
      · rw [stepW_old hp hf hi hq hd]; exact h4 i q hf hq hs hd

/-! ### The order of words: short ones first -/
def cmpF : W4 → W4 → Int
  | a :: u, b :: v => if a = b then cmpF u v else (a.val : Int) - (b.val : Int)
  | [], _ => 0
  | _ :: _, [] => 0
def ltW (u v : W4) : Prop := u.length < v.length ∨ (u.length = v.length ∧ cmpF u v < 0)
theorem cmpF_self : ∀ u : W4, cmpF u u = 0
  | [] => rfl
  | a :: u => by unfold cmpF; rw [if_pos rfl, cmpF_self u]
theorem fin_sub {a b : Fin 4} (h : a ≠ b) : (a.val : Int) - (b.val : Int) ≠ 0 := by
  have : a.val ≠ b.val := fun e => h (Fin.ext e)
  omega
theorem cmpF_zero : ∀ {u v : W4}, u.length = v.length → cmpF u v = 0 → u = v
  | [], [], _, _ => rfl
  | [], _ :: _, h, _ => by simp at h
  | _ :: _, [], h, _ => by simp at h
  | a :: u, b :: v, h, hc => by
    unfold cmpF at hc
    by_cases e : a = b
    · rw [if_pos e] at hc
      rw [e, cmpF_zero (by simpa using h) hc]
    · rw [if_neg e] at hc
      exact absurd hc (fin_sub e)
theorem cmpF_snoc (a b : Fin 4) : ∀ (u v : W4), u.length = v.length → cmpF (u ++ [a]) (v ++ [b]) = if cmpF u v = 0 then (a.val : Int) - (b.val : Int) else cmpF u v
  | [], [], _ => by
    show (if a = b then cmpF [] [] else (a.val : Int) - (b.val : Int)) = _
    by_cases e : a = b
    · subst e; simp [cmpF]
    · simp [e, cmpF]
  | [], _ :: _, h => by simp at h
  | _ :: _, [], h => by simp at h
  | x :: u, y :: v, h => by
    have ih := cmpF_snoc a b u v (by simpa using h)
    show (if x = y then cmpF (u ++ [a]) (v ++ [b]) else (x.val : Int) - (y.val : Int)) = _
    by_cases e : x = y
    · rw [if_pos e, ih]
      show _ = if (if x = y then cmpF u v else _) = 0 then _ else (if x = y then cmpF u v else _)
      rw [if_pos e]
    · rw [if_neg e]
      show _ = if (if x = y then cmpF u v else (x.val : Int) - (y.val : Int)) = 0 then _ else (if x = y then cmpF u v else (x.val : Int) - (y.val : Int))
      rw [if_neg e, if_neg (fin_sub e)]
theorem ltW_snoc {u v : W4} (h : ltW u v) (a b : Fin 4) : ltW (u ++ [a]) (v ++ [b]) := by
  rcases h with h | ⟨h, hc⟩
  · exact .inl (by simp; exact h)
  · refine .inr ⟨by simp [h], ?_⟩
    rw [cmpF_snoc a b u v h, if_neg (by omega)]
    exact hc
theorem ltW_dir (u : W4) {a b : Fin 4} (h : a.val < b.val) : ltW (u ++ [a]) (u ++ [b]) := by
  refine .inr ⟨by simp, ?_⟩
  rw [cmpF_snoc a b u u rfl, cmpF_self, if_pos rfl]
  omega
theorem ltW_le {u v : W4} (h : ltW u v) : u.length ≤ v.length := by
  rcases h with h | ⟨h, _⟩ <;> omega

/-! ### Words of rolls on states -/
def esW (s : St) (u : W4) : St := u.foldl rlS s
def vsW (fit : St → Bool) : St → W4 → Bool
  | _, [] => true
  | s, j :: u => fit (rlS s j) && vsW fit (rlS s j) u
theorem esW_snoc (s : St) (u : W4) (j : Fin 4) : esW s (u ++ [j]) = rlS (esW s u) j := by unfold esW; rw [List.foldl_append]; rfl
theorem vsW_snoc (fit : St → Bool) (j : Fin 4) : ∀ (u : W4) (s : St), vsW fit s (u ++ [j]) = (vsW fit s u && fit (rlS (esW s u) j))
  | [], s => by simp [vsW, esW]
  | a :: u, s => by
    show (fit (rlS s a) && vsW fit (rlS s a) (u ++ [j])) = ((fit (rlS s a) && vsW fit (rlS s a) u) && _)
    rw [vsW_snoc fit j u, Bool.and_assoc]
    rfl

/-! ### What holds of the list behind k rounds and j directions of the next one -/
structure OkW (fit : St → Bool) (s0 : St) (k j : Nat) (L : List Nd) : Prop where
  head : L[0]? = some ⟨s0, [[]], -1, 0⟩
  nodup : (L.map (·.s)).Nodup
  fits : ∀ (i : Nat) (q : Nd), 0 < i → L[i]? = some q → fit q.s = true
  ne : ∀ q ∈ L, q.ws ≠ []
  word : ∀ q ∈ L, ∀ u ∈ q.ws, u.length = q.far ∧ vsW fit s0 u = true ∧ esW s0 u = q.s
  wnd : ∀ q ∈ L, q.ws.Nodup
  born : ∀ (i : Nat) (q : Nd), 0 < i → L[i]? = some q → ∀ u ∈ q.ws, ∃ (k' : Nat) (p : Nd) (v : W4) (j' : Fin 4), L[k']? = some p ∧ v ∈ p.ws ∧ u = v ++ [j'] ∧ (k' < k ∨ k' = k ∧ j'.val < j)
  par : ∀ (i : Nat) (q : Nd), 0 < i → L[i]? = some q → ∃ (k' : Nat) (p : Nd) (j' : Fin 4), q.bf = (k' : Int) ∧ q.dr = (j'.val : Int) ∧ k' < i ∧ L[k']? = some p ∧ q.hd = p.hd ++ [j'] ∧ (k' < k ∨ k' = k ∧ j'.val < j)
  ord : ∀ (i i' : Nat) (p q : Nd), i < i' → L[i]? = some p → L[i']? = some q → ltW p.hd q.hd
  shut : ∀ (i : Nat) (p : Nd) (j' : Fin 4), L[i]? = some p → (i < k ∨ i = k ∧ j'.val < j) → fit (rlS p.s j') = true → ∃ q ∈ L, q.s = rlS p.s j' ∧ q.far ≤ p.far + 1
theorem OkW.start (fit : St → Bool) (s0 : St) : OkW fit s0 0 0 (startW s0) := by
  have h1 : ∀ (i : Nat) (q : Nd), (startW s0)[i]? = some q → i = 0 ∧ q = ⟨s0, [[]], -1, 0⟩ := by
    intro i q h
    match i, h with
    | 0, h => exact ⟨rfl, (Option.some.inj h).symm⟩
  have h2 : ∀ q ∈ startW s0, q = ⟨s0, [[]], -1, 0⟩ := fun q hq => by simpa [startW] using hq
  refine ⟨rfl, by simp [startW], fun i q hi h => absurd (h1 i q h).1 (by omega), fun q hq => by rw [h2 q hq]; simp, ?_, fun q hq => by rw [h2 q hq]; simp, fun i q hi h => absurd (h1 i q h).1 (by omega), fun i q hi h => absurd (h1 i q h).1 (by omega), ?_, ?_⟩
  · intro q hq u hu
    rw [h2 q hq] at hu ⊢
    simp only [List.mem_singleton] at hu
    subst hu
    exact ⟨rfl, rfl, rfl⟩
  · intro i i' p q hlt hp hq
    have := (h1 i' q hq).1
    omega
  · intro i p j' _ h
    omega
theorem Nd.hd_mem {q : Nd} (h : q.ws ≠ []) : q.hd ∈ q.ws := by
  unfold Nd.hd
  cases hw : q.ws with
  | nil => exact absurd hw h
  | cons a l => simp
theorem mem_extW {p : Nd} {j : Fin 4} {u : W4} : u ∈ extW p j ↔ ∃ v ∈ p.ws, u = v ++ [j] := by
  unfold extW
  rw [List.mem_map]
  constructor
  · rintro ⟨v, hv, rfl⟩; exact ⟨v, hv, rfl⟩
  · rintro ⟨v, hv, rfl⟩; exact ⟨v, hv, rfl⟩
theorem extW_nodup {p : Nd} (h : p.ws.Nodup) (j : Fin 4) : (extW p j).Nodup := by
  unfold extW
  refine List.Pairwise.map _ (fun a b (hab : a ≠ b) e => hab ?_) h
  exact List.append_cancel_right e
theorem extW_hd {p : Nd} (h : p.ws ≠ []) (j : Fin 4) (t : St) (b d : Int) : (Nd.mk t (extW p j) b d).hd = p.hd ++ [j] := by
  unfold Nd.hd extW
  cases hw : p.ws with
  | nil => exact absurd hw h
  | cons a l => simp
end Go.Proofs.YthdkhikkdcjifaaDoor
