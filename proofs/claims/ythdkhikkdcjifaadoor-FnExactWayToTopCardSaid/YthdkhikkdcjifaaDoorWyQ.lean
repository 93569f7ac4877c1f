/- The search over states: what has been found, with all shortest words, in the order in which it was found. Plain mathematics. No Go in sight. The search over states, continued: each step keeps what holds; how many words there are. Plain mathematics. No Go in sight. -/
import Derived.Test.YthdkhikkdcjifaaDoorRollT
import Derived.Test.YthdkhikkdcjifaaDoorBndG
namespace Go.Proofs.YthdkhikkdcjifaaDoor
set_option maxRecDepth 100000
set_option linter.all false

/-- A state that has been found: the shortest words to it that have been found, the number of the state before on the first of them and its last direction. -/
structure Nd where
  s : St
  ws : List W4
  bf : Int
  dr : Int
def Nd.hd (q : Nd) : W4 := q.ws.headD []
def Nd.far (q : Nd) : Nat := q.hd.length
def rlS (s : St) (j : Fin 4) : St := rollT s (j.val : Int)
def extW (p : Nd) (j : Fin 4) : List W4 := p.ws.map (· ++ [j])
/-- The number of a state among those that have been found. -/
def findI : List Nd → St → Option Nat
  | [], _ => none
  | q :: L, t => if q.s = t then some 0 else (findI L t).map (· + 1)
theorem findI_none {t : St} : ∀ {L : List Nd}, findI L t = none → ∀ q ∈ L, q.s ≠ t
  | [], _, q, hq => by cases hq
  | x :: L, h, q, hq => by
    unfold findI at h
    by_cases hx : x.s = t
    · rw [if_pos hx] at h; cases h
    · rw [if_neg hx] at h
      rcases List.mem_cons.1 hq with rfl | hq
      · exact hx
      · exact findI_none (by simpa using h) q hq
theorem findI_some {t : St} : ∀ {L : List Nd} {i : Nat}, findI L t = some i → ∃ q, L[i]? = some q ∧ q.s = t
  | [], _, h => by cases h
  | x :: L, i, h => by
    unfold findI at h
    by_cases hx : x.s = t
    · rw [if_pos hx] at h
      cases h
      exact ⟨x, rfl, hx⟩
    · rw [if_neg hx] at h
      obtain ⟨k, hk, rfl⟩ := Option.map_eq_some_iff.1 h
      obtain ⟨q, h1, h2⟩ := findI_some hk
      exact ⟨q, by simpa using h1, h2⟩
theorem nodup_at {L : List Nd} (h : (L.map (·.s)).Nodup) {i k : Nat} {p q : Nd} (hi : L[i]? = some p) (hk : L[k]? = some q) (e : p.s = q.s) : i = k := by
  have h1 : (L.map (·.s))[i]? = some p.s := by simp [hi]
  have h2 : (L.map (·.s))[k]? = some p.s := by simp [hk, e]
  exact (List.getElem?_inj (List.getElem?_eq_some_iff.1 h1).1 h).1 (h1.trans h2.symm)
theorem findI_of {L : List Nd} (h : (L.map (·.s)).Nodup) {i : Nat} {q : Nd} (hi : L[i]? = some q) : findI L q.s = some i := by
  cases hf : findI L q.s with
  | none => exact absurd rfl (findI_none hf q (List.mem_of_getElem? hi))
  | some k =>
    obtain ⟨q', h1, h2⟩ := findI_some hf
    rw [nodup_at h h1 hi h2]

def stepW (fit : St → Bool) (k : Nat) (L : List Nd) (j : Fin 4) : List Nd :=
  match L[k]? with
  | none => L
  | some p =>
    if fit (rlS p.s j) = true then
      match findI L (rlS p.s j) with
      | none => L ++ [⟨rlS p.s j, extW p j, (k : Int), (j.val : Int)⟩]
      | some i => match L[i]? with
        | none => L
        | some q => if q.far = p.far + 1 then L.set i ⟨q.s, q.ws ++ extW p j, q.bf, q.dr⟩ else L
    else L
def stepsW (fit : St → Bool) (k : Nat) (L : List Nd) : Nat → List Nd
  | 0 => L
  | j + 1 => if h : j < 4 then stepW fit k (stepsW fit k L j) ⟨j, h⟩ else stepsW fit k L j
def startW (s : St) : List Nd := [⟨s, [[]], -1, 0⟩]
def runW (fit : St → Bool) (s : St) : Nat → List Nd
  | 0 => startW s
  | n + 1 => stepsW fit n (runW fit s n) 4
/-- All states that are found, in their order. -/
def wyL (fit : St → Bool) (s : St) : List Nd := runW fit s 1000

theorem stepW_off {fit : St → Bool} {k : Nat} {L : List Nd} {p : Nd} {j : Fin 4} (hp : L[k]? = some p) (h : fit (rlS p.s j) = false) : stepW fit k L j = L := by
  unfold stepW
  simp only [hp, h]
  simp
theorem stepW_new {fit : St → Bool} {k : Nat} {L : List Nd} {p : Nd} {j : Fin 4} (hp : L[k]? = some p) (h : fit (rlS p.s j) = true) (hf : findI L (rlS p.s j) = none) : stepW fit k L j = L ++ [⟨rlS p.s j, extW p j, (k : Int), (j.val : Int)⟩] := by
  unfold stepW
  simp only [hp, h, hf]
  simp
theorem stepW_add {fit : St → Bool} {k : Nat} {L : List Nd} {p q : Nd} {j : Fin 4} {i : Nat} (hp : L[k]? = some p) (h : fit (rlS p.s j) = true) (hf : findI L (rlS p.s j) = some i) (hq : L[i]? = some q) (hd : q.far = p.far + 1) : stepW fit k L j = L.set i ⟨q.s, q.ws ++ extW p j, q.bf, q.dr⟩ := by
  unfold stepW
  simp only [hp, h, hf, hq, hd]
  simp
theorem stepW_old {fit : St → Bool} {k : Nat} {L : List Nd} {p q : Nd} {j : Fin 4} {i : Nat} (hp : L[k]? = some p) (h : fit (rlS p.s j) = true) (hf : findI L (rlS p.s j) = some i) (hq : L[i]? = some q) (hd : q.far ≠ p.far + 1) : stepW fit k L j = L := by
  unfold stepW
  simp only [hp, h, hf, hq, hd]
  simp
theorem stepW_none {fit : St → Bool} {k : Nat} {L : List Nd} {j : Fin 4} (hp : L[k]? = none) : stepW fit k L j = L := by
  unfold stepW
  simp only [hp]
theorem stepW_cases {fit : St → Bool} {k : Nat} {L : List Nd} {p : Nd} {j : Fin 4} (hp : L[k]? = some p) (P : List Nd → Prop)
    (h1 : fit (rlS p.s j) = false → P L)
    (h2 : fit (rlS p.s j) = true → (∀ q ∈ L, q.s ≠ rlS p.s j) → P (L ++ [⟨rlS p.s j, extW p j, (k : Int), (j.val : Int)⟩]))
    (h3 : ∀ (i : Nat) (q : Nd), fit (rlS p.s j) = true → L[i]? = some q → q.s = rlS p.s j → q.far = p.far + 1 → P (L.set i ⟨q.s, q.ws ++ extW p j, q.bf, q.dr⟩))
    (h4 : ∀ (i : Nat) (q : Nd), fit (rlS p.s j) = true → L[i]? = some q → q.s = rlS p.s j → q.far ≠ p.far + 1 → P L) : P (stepW fit k L j) := by
  cases hf : fit (rlS p.s j)
  · rw [stepW_off hp hf]; exact h1 hf
  · cases hi : findI L (rlS p.s j) with
    | none => rw [stepW_new hp hf hi]; exact h2 hf (findI_none hi)
    | some i =>
      obtain ⟨q, hq, hs⟩ := findI_some hi
      by_cases hd : q.far = p.far + 1
      · rw [stepW_add hp hf hi hq hd]; exact h3 i q hf hq hs hd
      · rw [stepW_old hp hf hi hq hd]; exact h4 i q hf hq hs hd

/-! ### The order of words: short ones first -/
def cmpF : W4 → W4 → Int
  | a :: u, b :: v => if a = b then cmpF u v else (a.val : Int) - (b.val : Int)
  | [], _ => 0
  | _ :: _, [] => 0
def ltW (u v : W4) : Prop := u.length < v.length ∨ (u.length = v.length ∧ cmpF u v < 0)
theorem cmpF_self : ∀ u : W4, cmpF u u = 0
  | [] => rfl
  | a :: u => by unfold cmpF; rw [if_pos rfl, cmpF_self u]
theorem fin_sub {a b : Fin 4} (h : a ≠ b) : (a.val : Int) - (b.val : Int) ≠ 0 := by
  have : a.val ≠ b.val := fun e => h (Fin.ext e)
  omega
theorem cmpF_zero : ∀ {u v : W4}, u.length = v.length → cmpF u v = 0 → u = v
  | [], [], _, _ => rfl
  | [], _ :: _, h, _ => by simp at h
  | _ :: _, [], h, _ => by simp at h
  | a :: u, b :: v, h, hc => by
    unfold cmpF at hc
    by_cases e : a = b
    · rw [if_pos e] at hc
      rw [e, cmpF_zero (by simpa using h) hc]
    · rw [if_neg e] at hc
      exact absurd hc (fin_sub e)
theorem cmpF_snoc (a b : Fin 4) : ∀ (u v : W4), u.length = v.length → cmpF (u ++ [a]) (v ++ [b]) = if cmpF u v = 0 then (a.val : Int) - (b.val : Int) else cmpF u v
  | [], [], _ => by
    show (if a = b then cmpF [] [] else (a.val : Int) - (b.val : Int)) = _
    by_cases e : a = b
    · subst e; simp [cmpF]
    · simp [e, cmpF]
  | [], _ :: _, h => by simp at h
  | _ :: _, [], h => by simp at h
  | x :: u, y :: v, h => by
    have ih := cmpF_snoc a b u v (by simpa using h)
    show (if x = y then cmpF (u ++ [a]) (v ++ [b]) else (x.val : Int) - (y.val : Int)) = _
    by_cases e : x = y
    · rw [if_pos e, ih]
      show _ = if (if x = y then cmpF u v else _) = 0 then _ else (if x = y then cmpF u v else _)
      rw [if_pos e]
    · rw [if_neg e]
      show _ = if (if x = y then cmpF u v else (x.val : Int) - (y.val : Int)) = 0 then _ else (if x = y then cmpF u v else (x.val : Int) - (y.val : Int))
      rw [if_neg e, if_neg (fin_sub e)]
theorem ltW_snoc {u v : W4} (h : ltW u v) (a b : Fin 4) : ltW (u ++ [a]) (v ++ [b]) := by
  rcases h with h | ⟨h, hc⟩
  · exact .inl (by simp; exact h)
  · refine .inr ⟨by simp [h], ?_⟩
    rw [cmpF_snoc a b u v h, if_neg (by omega)]
    exact hc
theorem ltW_dir (u : W4) {a b : Fin 4} (h : a.val < b.val) : ltW (u ++ [a]) (u ++ [b]) := by
  refine .inr ⟨by simp, ?_⟩
  rw [cmpF_snoc a b u u rfl, cmpF_self, if_pos rfl]
  omega
theorem ltW_le {u v : W4} (h : ltW u v) : u.length ≤ v.length := by
  rcases h with h | ⟨h, _⟩ <;> omega

/-! ### Words of rolls on states -/
def esW (s : St) (u : W4) : St := u.foldl rlS s
def vsW (fit : St → Bool) : St → W4 → Bool
  | _, [] => true
  | s, j :: u => fit (rlS s j) && vsW fit (rlS s j) u
theorem esW_snoc (s : St) (u : W4) (j : Fin 4) : esW s (u ++ [j]) = rlS (esW s u) j := by unfold esW; rw [List.foldl_append]; rfl
theorem vsW_snoc (fit : St → Bool) (j : Fin 4) : ∀ (u : W4) (s : St), vsW fit s (u ++ [j]) = (vsW fit s u && fit (rlS (esW s u) j))
  | [], s => by simp [vsW, esW]
  | a :: u, s => by
    show (fit (rlS s a) && vsW fit (rlS s a) (u ++ [j])) = ((fit (rlS s a) && vsW fit (rlS s a) u) && _)
    rw [vsW_snoc fit j u, Bool.and_assoc]
    rfl

/-! ### What holds of the list behind k rounds and j directions of the next one -/
structure OkW (fit : St → Bool) (s0 : St) (k j : Nat) (L : List Nd) : Prop where
  head : L[0]? = some ⟨s0, [[]], -1, 0⟩
  nodup : (L.map (·.s)).Nodup
  fits : ∀ (i : Nat) (q : Nd), 0 < i → L[i]? = some q → fit q.s = true
  ne : ∀ q ∈ L, q.ws ≠ []
  word : ∀ q ∈ L, ∀ u ∈ q.ws, u.length = q.far ∧ vsW fit s0 u = true ∧ esW s0 u = q.s
  wnd : ∀ q ∈ L, q.ws.Nodup
  born : ∀ (i : Nat) (q : Nd), 0 < i → L[i]? = some q → ∀ u ∈ q.ws, ∃ (k' : Nat) (p : Nd) (v : W4) (j' : Fin 4), L[k']? = some p ∧ v ∈ p.ws ∧ u = v ++ [j'] ∧ (k' < k ∨ k' = k ∧ j'.val < j)
  par : ∀ (i : Nat) (q : Nd), 0 < i → L[i]? = some q → ∃ (k' : Nat) (p : Nd) (j' : Fin 4), q.bf = (k' : Int) ∧ q.dr = (j'.val : Int) ∧ k' < i ∧ L[k']? = some p ∧ q.hd = p.hd ++ [j'] ∧ (k' < k ∨ k' = k ∧ j'.val < j)
  ord : ∀ (i i' : Nat) (p q : Nd), i < i' → L[i]? = some p → L[i']? = some q → ltW p.hd q.hd
  shut : ∀ (i : Nat) (p : Nd) (j' : Fin 4), L[i]? = some p → (i < k ∨ i = k ∧ j'.val < j) → fit (rlS p.s j') = true → ∃ q ∈ L, q.s = rlS p.s j' ∧ q.far ≤ p.far + 1
theorem OkW.start (fit : St → Bool) (s0 : St) : OkW fit s0 0 0 (startW s0) := by
  have h1 : ∀ (i : Nat) (q : Nd), (startW s0)[i]? = some q → i = 0 ∧ q = ⟨s0, [[]], -1, 0⟩ := by
    intro i q h
    match i, h with
    | 0, h => exact ⟨rfl, (Option.some.inj h).symm⟩
  have h2 : ∀ q ∈ startW s0, q = ⟨s0, [[]], -1, 0⟩ := fun q hq => by simpa [startW] using hq
  refine ⟨rfl, by simp [startW], fun i q hi h => absurd (h1 i q h).1 (by omega), fun q hq => by rw [h2 q hq]; simp, ?_, fun q hq => by rw [h2 q hq]; simp, fun i q hi h => absurd (h1 i q h).1 (by omega), fun i q hi h => absurd (h1 i q h).1 (by omega), ?_, ?_⟩
  · intro q hq u hu
    rw [h2 q hq] at hu ⊢
    simp only [List.mem_singleton] at hu
    subst hu
    exact ⟨rfl, rfl, rfl⟩
  · intro i i' p q hlt hp hq
    have := (h1 i' q hq).1
    omega
  · intro i p j' _ h
    omega
theorem Nd.hd_mem {q : Nd} (h : q.ws ≠ []) : q.hd ∈ q.ws := by
  unfold Nd.hd
  cases hw : q.ws with
  | nil => exact absurd hw h
  | cons a l => simp
theorem mem_extW {p : Nd} {j : Fin 4} {u : W4} : u ∈ extW p j ↔ ∃ v ∈ p.ws, u = v ++ [j] := by
  unfold extW
  rw [List.mem_map]
  constructor
  · rintro ⟨v, hv, rfl⟩; exact ⟨v, hv, rfl⟩
  · rintro ⟨v, hv, rfl⟩; exact ⟨v, hv, rfl⟩
theorem extW_nodup {p : Nd} (h : p.ws.Nodup) (j : Fin 4) : (extW p j).Nodup := by
  unfold extW
  refine List.Pairwise.map _ (fun a b (hab : a ≠ b) e => hab ?_) h
  exact List.append_cancel_right e
theorem extW_hd {p : Nd} (h : p.ws ≠ []) (j : Fin 4) (t : St) (b d : Int) : (Nd.mk t (extW p j) b d).hd = p.hd ++ [j] := by
  unfold Nd.hd extW
  cases hw : p.ws with
  | nil => exact absurd hw h
  | cons a l => simp
end Go.Proofs.YthdkhikkdcjifaaDoor
namespace Go.Proofs.YthdkhikkdcjifaaDoor
set_option maxRecDepth 100000
set_option linter.all false

theorem get_snoc {α : Type} {L : List α} {x q : α} {i : Nat} (h : (L ++ [x])[i]? = some q) : L[i]? = some q ∨ (i = L.length ∧ q = x) := by
  rcases Nat.lt_or_ge i L.length with hl | hl
  · rw [List.getElem?_append_left hl] at h; exact .inl h
  · rw [List.getElem?_append_right hl] at h
    by_cases e : i - L.length = 0
    · rw [e] at h
      exact .inr ⟨by omega, (Option.some.inj h).symm⟩
    · rw [List.getElem?_eq_none (by simp; omega)] at h
      cases h
theorem get_left {α : Type} {L : List α} {x q : α} {i : Nat} (h : L[i]? = some q) : (L ++ [x])[i]? = some q := by
  rw [List.getElem?_append_left (List.getElem?_eq_some_iff.1 h).1]; exact h
section
variable {fit : St → Bool} {s0 : St} {k j : Nat} {L : List Nd} {p : Nd}
theorem OkW.same (h : OkW fit s0 k j L) (hp : L[k]? = some p) (hj : j < 4) (hs : fit (rlS p.s ⟨j, hj⟩) = true → ∃ q ∈ L, q.s = rlS p.s ⟨j, hj⟩ ∧ q.far ≤ p.far + 1) : OkW fit s0 k (j + 1) L := by
  refine ⟨h.head, h.nodup, h.fits, h.ne, h.word, h.wnd, ?_, ?_, h.ord, ?_⟩
  · intro i q hi hq u hu
    obtain ⟨k', p', v, j', h1, h2, h3, h4⟩ := h.born i q hi hq u hu
    exact ⟨k', p', v, j', h1, h2, h3, by omega⟩
  · intro i q hi hq
    obtain ⟨k', p', j', h1, h2, h3, h4, h5, h6⟩ := h.par i q hi hq
    exact ⟨k', p', j', h1, h2, h3, h4, h5, by omega⟩
  · intro i q j' hq ho hf
    by_cases e : i = k ∧ j'.val = j
    · obtain ⟨rfl, e2⟩ := e
      have : j' = ⟨j, hj⟩ := Fin.ext e2
      subst this
      rw [hp] at hq
      obtain rfl := Option.some.inj hq
      exact hs hf
    · exact h.shut i q j' hq (by omega) hf
theorem far_hd {q r : Nd} (h : q.hd = r.hd) : q.far = r.far := by unfold Nd.far; rw [h]
theorem OkW.zero_far (h : OkW fit s0 k j L) {q : Nd} (hq : L[0]? = some q) : q.far = 0 := by
  rw [h.head] at hq
  obtain rfl := Option.some.inj hq
  rfl
theorem OkW.new (h : OkW fit s0 k j L) (hp : L[k]? = some p) (hj : j < 4) (hf : fit (rlS p.s ⟨j, hj⟩) = true) (hn : ∀ q ∈ L, q.s ≠ rlS p.s ⟨j, hj⟩) : OkW fit s0 k (j + 1) (L ++ [⟨rlS p.s ⟨j, hj⟩, extW p ⟨j, hj⟩, (k : Int), (j : Int)⟩]) := by
  have hkl := (List.getElem?_eq_some_iff.1 hp).1
  have hpm := List.mem_of_getElem? hp
  have hhd := extW_hd (h.ne p hpm) ⟨j, hj⟩ (rlS p.s ⟨j, hj⟩) (k : Int) (j : Int)
  generalize hN : (Nd.mk (rlS p.s ⟨j, hj⟩) (extW p ⟨j, hj⟩) (k : Int) (j : Int)) = N at hhd ⊢
  have hNs : N.s = rlS p.s ⟨j, hj⟩ := by rw [← hN]
  have hNw : N.ws = extW p ⟨j, hj⟩ := by rw [← hN]
  have hNb : N.bf = (k : Int) := by rw [← hN]
  have hNd : N.dr = (j : Int) := by rw [← hN]
  clear hN
  refine ⟨get_left h.head, ?_, ?_, ?_, ?_, ?_, ?_, ?_, ?_, ?_⟩
  · rw [List.map_append]
    refine List.nodup_append.2 ⟨h.nodup, by simp, ?_⟩
    intro x hx y hy e
    obtain ⟨q, hq, rfl⟩ := List.mem_map.1 hx
    simp only [List.map_cons, List.map_nil, List.mem_singleton] at hy
    exact hn q hq (by rw [e, hy, hNs])
  · intro i q hi hq
    rcases get_snoc hq with hq | ⟨_, rfl⟩
    · exact h.fits i q hi hq
    · rw [hNs]; exact hf
  · intro q hq
    rcases List.mem_append.1 hq with hq | hq
    · exact h.ne q hq
    · simp only [List.mem_singleton] at hq
      rw [hq, hNw]
      unfold extW
      simpa using h.ne p hpm
  · intro q hq u hu
    rcases List.mem_append.1 hq with hq | hq
    · exact h.word q hq u hu
    · simp only [List.mem_singleton] at hq
      rw [hq, hNw] at hu
      obtain ⟨v, hv, rfl⟩ := mem_extW.1 hu
      obtain ⟨w1, w2, w3⟩ := h.word p hpm v hv
      refine ⟨?_, ?_, ?_⟩
      · rw [hq]
        unfold Nd.far at w1 ⊢
        rw [hhd]
        simp [w1]
      · rw [vsW_snoc, w2, w3, hf]; rfl
      · rw [esW_snoc, w3, hq, hNs]
  · intro q hq
    rcases List.mem_append.1 hq with hq | hq
    · exact h.wnd q hq
    · simp only [List.mem_singleton] at hq
      rw [hq, hNw]
      exact extW_nodup (h.wnd p hpm) _
  · intro i q hi hq u hu
    rcases get_snoc hq with hq | ⟨_, rfl⟩
    · obtain ⟨k', p', v, j', h1, h2, h3, h4⟩ := h.born i q hi hq u hu
      exact ⟨k', p', v, j', get_left h1, h2, h3, by omega⟩
    · rw [hNw] at hu
      obtain ⟨v, hv, rfl⟩ := mem_extW.1 hu
      exact ⟨k, p, v, ⟨j, hj⟩, get_left hp, hv, rfl, .inr ⟨rfl, by simp⟩⟩
  · intro i q hi hq
    rcases get_snoc hq with hq | ⟨rfl, rfl⟩
    · obtain ⟨k', p', j', h1, h2, h3, h4, h5, h6⟩ := h.par i q hi hq
      exact ⟨k', p', j', h1, h2, h3, get_left h4, h5, by omega⟩
    · exact ⟨k, p, ⟨j, hj⟩, hNb, hNd, hkl, get_left hp, hhd, .inr ⟨rfl, by simp⟩⟩
  · intro i i' a b hlt ha hb
    rcases get_snoc hb with hb' | ⟨rfl, rfl⟩
    · have hlb := (List.getElem?_eq_some_iff.1 hb').1
      rcases get_snoc ha with ha' | ⟨e, _⟩
      · exact h.ord i i' a b hlt ha' hb'
      · omega
    · have ha' : L[i]? = some a := by
        rcases get_snoc ha with ha | ⟨rfl, _⟩
        · exact ha
        · omega
      rw [hhd]
      by_cases hi : i = 0
      · subst hi
        have := h.zero_far ha'
        unfold Nd.far at this
        exact .inl (by rw [this]; simp)
      · obtain ⟨k', p', j', _, _, _, h4, h5, h6⟩ := h.par i a (by omega) ha'
        rw [h5]
        rcases h6 with h6 | ⟨rfl, h6⟩
        · exact ltW_snoc (h.ord k' k p' p h6 h4 hp) _ _
        · rw [hp] at h4
          obtain rfl := Option.some.inj h4
          exact ltW_dir _ h6
  · intro i q j' hq ho hf'
    rcases get_snoc hq with hq | ⟨rfl, _⟩
    · by_cases e : i = k ∧ j'.val = j
      · obtain ⟨rfl, e2⟩ := e
        have : j' = ⟨j, hj⟩ := Fin.ext e2
        subst this
        rw [hp] at hq
        obtain rfl := Option.some.inj hq
        exact ⟨N, by simp, hNs, by unfold Nd.far; rw [hhd]; simp⟩
      · obtain ⟨r, hr, hrs⟩ := h.shut i q j' hq (by omega) hf'
        exact ⟨r, List.mem_append_left _ hr, hrs⟩
    · omega
theorem OkW.add (h : OkW fit s0 k j L) (hp : L[k]? = some p) (hj : j < 4) (hf : fit (rlS p.s ⟨j, hj⟩) = true) {i0 : Nat} {q0 : Nd} (hq0 : L[i0]? = some q0) (hs : q0.s = rlS p.s ⟨j, hj⟩) (hd : q0.far = p.far + 1) : OkW fit s0 k (j + 1) (L.set i0 ⟨q0.s, q0.ws ++ extW p ⟨j, hj⟩, q0.bf, q0.dr⟩) := by
  have hl0 := (List.getElem?_eq_some_iff.1 hq0).1
  have hpm := List.mem_of_getElem? hp
  have hqm := List.mem_of_getElem? hq0
  have hi0 : 0 < i0 := by
    rcases Nat.eq_zero_or_pos i0 with e | e
    · subst e
      have := h.zero_far hq0
      omega
    · exact e
  have hQh : (Nd.mk q0.s (q0.ws ++ extW p ⟨j, hj⟩) q0.bf q0.dr).hd = q0.hd := by
    have := h.ne q0 hqm
    unfold Nd.hd
    cases hw : q0.ws with
    | nil => exact absurd hw this
    | cons a l => simp
  generalize hQ : (Nd.mk q0.s (q0.ws ++ extW p ⟨j, hj⟩) q0.bf q0.dr) = Q at hQh ⊢
  have hQs : Q.s = q0.s := by rw [← hQ]
  have hQw : Q.ws = q0.ws ++ extW p ⟨j, hj⟩ := by rw [← hQ]
  have hQb : Q.bf = q0.bf := by rw [← hQ]
  have hQd : Q.dr = q0.dr := by rw [← hQ]
  clear hQ
  have down : ∀ (i : Nat) (q : Nd), (L.set i0 Q)[i]? = some q → ∃ r, L[i]? = some r ∧ q.s = r.s ∧ q.hd = r.hd ∧ q.bf = r.bf ∧ q.dr = r.dr ∧ (q = r ∨ (i = i0 ∧ r = q0 ∧ q = Q)) := by
    intro i q hq
    by_cases e : i = i0
    · subst e
      rw [List.getElem?_set_self hl0] at hq
      obtain rfl := Option.some.inj hq
      exact ⟨q0, hq0, hQs, hQh, hQb, hQd, .inr ⟨rfl, rfl, rfl⟩⟩
    · rw [List.getElem?_set_ne (fun e' => e e'.symm)] at hq
      exact ⟨q, hq, rfl, rfl, rfl, rfl, .inl rfl⟩
  have up : ∀ (i : Nat) (r : Nd), L[i]? = some r → ∃ q, (L.set i0 Q)[i]? = some q ∧ q.s = r.s ∧ q.hd = r.hd ∧ (∀ v ∈ r.ws, v ∈ q.ws) := by
    intro i r hr
    by_cases e : i = i0
    · subst e
      rw [hq0] at hr
      obtain rfl := Option.some.inj hr
      exact ⟨Q, List.getElem?_set_self hl0, hQs, hQh, fun v hv => by rw [hQw]; exact List.mem_append_left _ hv⟩
    · exact ⟨r, by rw [List.getElem?_set_ne (fun e' => e e'.symm)]; exact hr, rfl, rfl, fun v hv => hv⟩
  have downm : ∀ q ∈ L.set i0 Q, q ∈ L ∨ q = Q := by
    intro q hq
    obtain ⟨i, hi⟩ := List.mem_iff_getElem?.1 hq
    obtain ⟨r, hr, _, _, _, _, e | ⟨_, _, e⟩⟩ := down i q hi
    · exact .inl (e ▸ List.mem_of_getElem? hr)
    · exact .inr e
  refine ⟨?_, ?_, ?_, ?_, ?_, ?_, ?_, ?_, ?_, ?_⟩
  · rw [List.getElem?_set_ne (by omega)]; exact h.head
  · rw [List.map_set, hQs]
    have : (L.map (·.s)).set i0 q0.s = L.map (·.s) := by
      apply List.ext_getElem?
      intro i
      by_cases e : i = i0
      · subst e
        rw [List.getElem?_set_self (by simpa using hl0)]
        simp [hq0]
      · rw [List.getElem?_set_ne (fun e' => e e'.symm)]
    rw [this]
    exact h.nodup
  · intro i q hi hq
    obtain ⟨r, hr, h1, _⟩ := down i q hq
    rw [h1]
    exact h.fits i r hi hr
  · intro q hq
    rcases downm q hq with hq | rfl
    · exact h.ne q hq
    · rw [hQw]
      have := h.ne q0 hqm
      simp [this]
  · intro q hq u hu
    rcases downm q hq with hq | rfl
    · exact h.word q hq u hu
    · rw [far_hd hQh, hQs]
      rw [hQw] at hu
      rcases List.mem_append.1 hu with hu | hu
      · exact h.word q0 hqm u hu
      · obtain ⟨v, hv, rfl⟩ := mem_extW.1 hu
        obtain ⟨w1, w2, w3⟩ := h.word p hpm v hv
        refine ⟨by rw [hd]; simp [w1], ?_, ?_⟩
        · rw [vsW_snoc, w2, w3, hf]; rfl
        · rw [esW_snoc, w3, hs]
  · intro q hq
    rcases downm q hq with hq | rfl
    · exact h.wnd q hq
    · rw [hQw]
      refine List.nodup_append.2 ⟨h.wnd q0 hqm, extW_nodup (h.wnd p hpm) _, ?_⟩
      intro x hx y hy e
      subst e
      obtain ⟨v, hv, rfl⟩ := mem_extW.1 hy
      obtain ⟨k', p', v', j', h1, h2, h3, h4⟩ := h.born i0 q0 hi0 hq0 _ hx
      obtain ⟨e1, e2⟩ := List.append_inj' h3 rfl
      subst e1
      have hjj : (⟨j, hj⟩ : Fin 4) = j' := by simpa using e2
      have w3 := (h.word p hpm v hv).2.2
      have w4 := (h.word p' (List.mem_of_getElem? h1) v h2).2.2
      have := nodup_at h.nodup hp h1 (w3.symm.trans w4)
      subst this
      have hv : j'.val = j := by rw [← hjj]
      omega
  · intro i q hi hq u hu
    obtain ⟨r, hr, _, _, _, _, e | ⟨e1, e2, e3⟩⟩ := down i q hq
    · rw [e] at hu
      obtain ⟨k', p', v, j', h1, h2, h3, h4⟩ := h.born i r hi hr u hu
      obtain ⟨p'', g1, _, _, g2⟩ := up k' p' h1
      exact ⟨k', p'', v, j', g1, g2 v h2, h3, by omega⟩
    · rw [e3, hQw] at hu
      rcases List.mem_append.1 hu with hu | hu
      · rw [e2] at hr
        obtain ⟨k', p', v, j', h1, h2, h3, h4⟩ := h.born i q0 hi hr u hu
        obtain ⟨p'', g1, _, _, g2⟩ := up k' p' h1
        exact ⟨k', p'', v, j', g1, g2 v h2, h3, by omega⟩
      · obtain ⟨v, hv, rfl⟩ := mem_extW.1 hu
        obtain ⟨p'', g1, _, _, g2⟩ := up k p hp
        exact ⟨k, p'', v, ⟨j, hj⟩, g1, g2 v hv, rfl, .inr ⟨rfl, by simp⟩⟩
  · intro i q hi hq
    obtain ⟨r, hr, _, e2, e3, e4, _⟩ := down i q hq
    obtain ⟨k', p', j', h1, h2, h3, h4, h5, h6⟩ := h.par i r hi hr
    obtain ⟨p'', g1, _, g3, _⟩ := up k' p' h4
    exact ⟨k', p'', j', by rw [e3, h1], by rw [e4, h2], h3, g1, by rw [e2, g3, h5], by omega⟩
  · intro i i' a b hlt ha hb
    obtain ⟨a', ha', _, e1, _⟩ := down i a ha
    obtain ⟨b', hb', _, e2, _⟩ := down i' b hb
    rw [e1, e2]
    exact h.ord i i' a' b' hlt ha' hb'
  · intro i q j' hq ho hf'
    obtain ⟨r, hr, e1, e9, _⟩ := down i q hq
    rw [e1] at hf' ⊢
    rw [far_hd e9]
    have : ∃ x ∈ L, x.s = rlS r.s j' ∧ x.far ≤ r.far + 1 := by
      by_cases e : i = k ∧ j'.val = j
      · obtain ⟨rfl, e2⟩ := e
        have : j' = ⟨j, hj⟩ := Fin.ext e2
        subst this
        rw [hp] at hr
        obtain rfl := Option.some.inj hr
        exact ⟨q0, hqm, hs, by omega⟩
      · exact h.shut i r j' hr (by omega) hf'
    obtain ⟨x, hx, hxs, hxf⟩ := this
    obtain ⟨m, hm⟩ := List.mem_iff_getElem?.1 hx
    obtain ⟨y, hy, ys, yh, _⟩ := up m x hm
    exact ⟨y, List.mem_of_getElem? hy, by rw [ys, hxs], by rw [far_hd yh]; exact hxf⟩
theorem OkW.far_le (h : OkW fit s0 k j L) {i i' : Nat} {p q : Nd} (hp : L[i]? = some p) (hq : L[i']? = some q) (hle : i ≤ i') : p.far ≤ q.far := by
  by_cases e : i = i'
  · subst e
    rw [hp] at hq
    obtain rfl := Option.some.inj hq
    exact Nat.le_refl _
  · exact ltW_le (h.ord i i' p q (by omega) hp hq)
/-- Nothing that has been found lies farther than one roll behind the state at work. -/
theorem OkW.near (h : OkW fit s0 k j L) (hp : L[k]? = some p) : ∀ q ∈ L, q.far ≤ p.far + 1 := by
  intro q hq
  obtain ⟨m, hm⟩ := List.mem_iff_getElem?.1 hq
  by_cases h0 : m = 0
  · subst h0
    have := h.zero_far hm
    omega
  · obtain ⟨k', a, j', g1, g2, g3, g4, g5, g6⟩ := h.par m q (by omega) hm
    have := h.far_le g4 hp (by omega)
    unfold Nd.far at this ⊢
    rw [g5]
    simp
    omega
/-- One direction more. -/
theorem OkW.step (h : OkW fit s0 k j L) (hp : L[k]? = some p) (hj : j < 4) : OkW fit s0 k (j + 1) (stepW fit k L ⟨j, hj⟩) ∧ (stepW fit k L ⟨j, hj⟩)[k]? = some p := by
  refine stepW_cases hp (fun M => OkW fit s0 k (j + 1) M ∧ M[k]? = some p) ?_ ?_ ?_ ?_
  · intro hf
    exact ⟨h.same hp hj (fun e => by rw [hf] at e; cases e), hp⟩
  · intro hf hn
    exact ⟨h.new hp hj hf hn, get_left hp⟩
  · intro i q hf hq hs hd
    refine ⟨h.add hp hj hf hq hs hd, ?_⟩
    rw [List.getElem?_set_ne ?_]
    · exact hp
    · intro e
      subst e
      rw [hp] at hq
      obtain rfl := Option.some.inj hq
      omega
  · intro i q hf hq hs _
    exact ⟨h.same hp hj (fun _ => ⟨q, List.mem_of_getElem? hq, hs, h.near hp q (List.mem_of_getElem? hq)⟩), hp⟩
theorem OkW.steps (h : OkW fit s0 k 0 L) (hp : L[k]? = some p) : ∀ j, j ≤ 4 → OkW fit s0 k j (stepsW fit k L j) ∧ (stepsW fit k L j)[k]? = some p
  | 0, _ => ⟨h, hp⟩
  | j + 1, hj => by
    obtain ⟨h1, h2⟩ := OkW.steps h hp j (by omega)
    unfold stepsW
    rw [dif_pos (show j < 4 by omega)]
    exact h1.step h2 (by omega)
theorem OkW.next (h : OkW fit s0 k 4 L) : OkW fit s0 (k + 1) 0 L := by
  refine ⟨h.head, h.nodup, h.fits, h.ne, h.word, h.wnd, ?_, ?_, h.ord, ?_⟩
  · intro i q hi hq u hu
    obtain ⟨k', p', v, j', h1, h2, h3, h4⟩ := h.born i q hi hq u hu
    exact ⟨k', p', v, j', h1, h2, h3, by omega⟩
  · intro i q hi hq
    obtain ⟨k', p', j', h1, h2, h3, h4, h5, h6⟩ := h.par i q hi hq
    exact ⟨k', p', j', h1, h2, h3, h4, h5, by omega⟩
  · intro i q j' hq ho hf
    exact h.shut i q j' hq (by have := j'.isLt; omega) hf
theorem OkW.past (h : OkW fit s0 k 0 L) (hk : L.length ≤ k) : OkW fit s0 (k + 1) 0 L := by
  refine ⟨h.head, h.nodup, h.fits, h.ne, h.word, h.wnd, ?_, ?_, h.ord, ?_⟩
  · intro i q hi hq u hu
    obtain ⟨k', p', v, j', h1, h2, h3, h4⟩ := h.born i q hi hq u hu
    exact ⟨k', p', v, j', h1, h2, h3, by omega⟩
  · intro i q hi hq
    obtain ⟨k', p', j', h1, h2, h3, h4, h5, h6⟩ := h.par i q hi hq
    exact ⟨k', p', j', h1, h2, h3, h4, h5, by omega⟩
  · intro i q j' hq ho hf
    have := (List.getElem?_eq_some_iff.1 hq).1
    exact h.shut i q j' hq (by omega) hf
end
theorem stepsW_none {fit : St → Bool} {k : Nat} {L : List Nd} (hp : L[k]? = none) : ∀ j, stepsW fit k L j = L
  | 0 => rfl
  | j + 1 => by
    unfold stepsW
    rw [stepsW_none hp j]
    split
    · exact stepW_none hp
    · rfl
theorem runW_ok (fit : St → Bool) (s0 : St) : ∀ n, OkW fit s0 n 0 (runW fit s0 n)
  | 0 => OkW.start fit s0
  | n + 1 => by
    have ih := runW_ok fit s0 n
    show OkW fit s0 (n + 1) 0 (stepsW fit n (runW fit s0 n) 4)
    cases hp : (runW fit s0 n)[n]? with
    | none => rw [stepsW_none hp]; exact ih.past (List.getElem?_eq_none_iff.1 hp)
    | some p => exact (ih.steps hp 4 (Nat.le_refl _)).1.next
theorem runW_stay {fit : St → Bool} {s0 : St} {n : Nat} (h : (runW fit s0 n).length ≤ n) : ∀ m, runW fit s0 (n + m) = runW fit s0 n
  | 0 => rfl
  | m + 1 => by
    show stepsW fit (n + m) (runW fit s0 (n + m)) 4 = _
    have ih := runW_stay h m
    rw [ih]
    exact stepsW_none (List.getElem?_eq_none (by omega)) 4
theorem wyL_at {fit : St → Bool} {s0 : St} {n : Nat} (h : (runW fit s0 n).length ≤ n) (hn : n ≤ 1000) : wyL fit s0 = runW fit s0 n := by
  obtain ⟨m, hm⟩ := Nat.exists_eq_add_of_le hn
  unfold wyL
  rw [hm]
  exact runW_stay h m

/-! ### The list grows: what has been found stays, with more words -/
def GrowW (L M : List Nd) : Prop := ∀ (i : Nat) (q : Nd), L[i]? = some q → ∃ (r : Nd) (e : List W4), M[i]? = some r ∧ r.s = q.s ∧ r.ws = q.ws ++ e
theorem GrowW.refl (L : List Nd) : GrowW L L := fun i q h => ⟨q, [], h, rfl, by simp⟩
theorem GrowW.trans {L M N : List Nd} (h1 : GrowW L M) (h2 : GrowW M N) : GrowW L N := fun i q h => by
  obtain ⟨r, e, a1, a2, a3⟩ := h1 i q h
  obtain ⟨t, f, b1, b2, b3⟩ := h2 i r a1
  exact ⟨t, e ++ f, b1, b2.trans a2, by rw [b3, a3, List.append_assoc]⟩
theorem GrowW.step (fit : St → Bool) (k : Nat) (L : List Nd) (j : Fin 4) : GrowW L (stepW fit k L j) := by
  cases hp : L[k]? with
  | none => rw [stepW_none hp]; exact GrowW.refl L
  | some p =>
    refine stepW_cases hp (fun M => GrowW L M) (fun _ => GrowW.refl L) ?_ ?_ (fun _ _ _ _ _ _ => GrowW.refl L)
    · intro _ _ i q h
      exact ⟨q, [], get_left h, rfl, by simp⟩
    · intro i0 q0 _ hq0 _ _ i q h
      by_cases e : i = i0
      · subst e
        rw [hq0] at h
        obtain rfl := Option.some.inj h
        exact ⟨_, extW p j, List.getElem?_set_self (List.getElem?_eq_some_iff.1 hq0).1, rfl, rfl⟩
      · exact ⟨q, [], by rw [List.getElem?_set_ne (fun e' => e e'.symm)]; exact h, rfl, by simp⟩
theorem GrowW.steps (fit : St → Bool) (k : Nat) (L : List Nd) (i : Nat) : ∀ j, GrowW (stepsW fit k L i) (stepsW fit k L (i + j))
  | 0 => GrowW.refl _
  | j + 1 => by
    refine (GrowW.steps fit k L i j).trans ?_
    show GrowW _ (stepsW fit k L (i + j + 1))
    generalize i + j = m
    rw [stepsW.eq_2]
    split
    · exact GrowW.step fit k _ _
    · exact GrowW.refl _
theorem GrowW.runs (fit : St → Bool) (s0 : St) (n : Nat) : ∀ m, GrowW (runW fit s0 n) (runW fit s0 (n + m))
  | 0 => GrowW.refl _
  | m + 1 => (GrowW.runs fit s0 n m).trans (by
    have := GrowW.steps fit (n + m) (runW fit s0 (n + m)) 0 4
    exact this)
theorem grow_all (fit : St → Bool) (s0 : St) {n j : Nat} (hn : n < 1000) (hj : j ≤ 4) : GrowW (stepsW fit n (runW fit s0 n) j) (wyL fit s0) := by
  have h1 : GrowW (stepsW fit n (runW fit s0 n) j) (runW fit s0 (n + 1)) := by
    have := GrowW.steps fit n (runW fit s0 n) j (4 - j)
    rw [show j + (4 - j) = 4 by omega] at this
    exact this
  refine h1.trans ?_
  have := GrowW.runs fit s0 (n + 1) (1000 - (n + 1))
  rw [show n + 1 + (1000 - (n + 1)) = 1000 by omega] at this
  exact this
theorem GrowW.counts {L M : List Nd} (h : GrowW L M) {B : Nat} (hB : ∀ q ∈ M, q.ws.length < B) : ∀ q ∈ L, q.ws.length < B := by
  intro q hq
  obtain ⟨i, hi⟩ := List.mem_iff_getElem?.1 hq
  obtain ⟨r, e, h1, _, h3⟩ := h i q hi
  have := hB r (List.mem_of_getElem? h1)
  rw [h3] at this
  simp at this
  omega

/-! ### How many states, how many words -/
theorem es_in {fit : St → Bool} {S : List St} (hS : ∀ s ∈ S, ∀ j, fit (rlS s j) = true → rlS s j ∈ S) : ∀ (u : W4) (s : St), s ∈ S → vsW fit s u = true → esW s u ∈ S
  | [], s, h, _ => h
  | j :: u, s, h, hv => by
    have h' : fit (rlS s j) = true ∧ vsW fit (rlS s j) u = true := by
      have : (fit (rlS s j) && vsW fit (rlS s j) u) = true := hv
      simpa using this
    exact es_in hS u (rlS s j) (hS s h j h'.1) h'.2
theorem OkW.inn {fit : St → Bool} {s0 : St} {k j : Nat} {L : List Nd} (h : OkW fit s0 k j L) {S : List St} (h0 : s0 ∈ S) (hS : ∀ s ∈ S, ∀ j, fit (rlS s j) = true → rlS s j ∈ S) : ∀ q ∈ L, q.s ∈ S := by
  intro q hq
  obtain ⟨_, w2, w3⟩ := h.word q hq _ (Nd.hd_mem (h.ne q hq))
  rw [← w3]
  exact es_in hS _ _ h0 w2
theorem OkW.len {fit : St → Bool} {s0 : St} {k j : Nat} {L : List Nd} (h : OkW fit s0 k j L) {S : List St} (h0 : s0 ∈ S) (hS : ∀ s ∈ S, ∀ j, fit (rlS s j) = true → rlS s j ∈ S) : L.length ≤ S.length := by
  have := nodup_le (L.map (·.s)) S h.nodup (fun x hx => by
    obtain ⟨q, hq, rfl⟩ := List.mem_map.1 hx
    exact h.inn h0 hS q hq)
  simpa using this
/-- All states over the cells of a rectangle, with the dice of one. -/
def boxS (W H : Nat) (d : D) : List St := (gridC W H).flatMap (fun c => (orbit d).map (fun e => ⟨c.1, c.2, e⟩))
theorem boxS_len (W H : Nat) (d : D) : (boxS W H d).length = W * H * 24 := by
  rw [← grid_len W H]
  unfold boxS
  generalize gridC W H = l
  induction l with
  | nil => rfl
  | cons c l ih =>
    rw [List.flatMap_cons, List.length_append, ih, List.length_map]
    have : (orbit d).length = 24 := by unfold orbit; rw [List.length_map]; rfl
    rw [this, List.length_cons]
    omega
theorem mem_boxS {W H : Nat} {d : D} {s : St} : s ∈ boxS W H d ↔ (s.x, s.y) ∈ gridC W H ∧ s.d ∈ orbit d := by
  unfold boxS
  rw [List.mem_flatMap]
  constructor
  · rintro ⟨c, hc, hs⟩
    obtain ⟨e, he, rfl⟩ := List.mem_map.1 hs
    exact ⟨hc, he⟩
  · rintro ⟨h1, h2⟩
    exact ⟨(s.x, s.y), h1, List.mem_map.2 ⟨s.d, h2, rfl⟩⟩
theorem rollK_orbit {d e : D} (h : e ∈ orbit d) (j : Fin 4) : rollK (j.val : Int) e ∈ orbit d := by
  have h1 := orbit_closed h (dirC j.val).toNat
  rw [rollC_K (by rw [dirC_ix j.val j.isLt]; omega), dirC_ix j.val j.isLt] at h1
  exact h1
theorem rlS_cell (s : St) (j : Fin 4) : ((rlS s j).x, (rlS s j).y) = mvC j (s.x, s.y) := by
  rcases four j with rfl | rfl | rfl | rfl <;> rfl
theorem rlS_die (s : St) (j : Fin 4) : (rlS s j).d = rlD j s.d := rfl
theorem esW_cell : ∀ (u : W4) (s : St), ((esW s u).x, (esW s u).y) = ecW (s.x, s.y) u ∧ (esW s u).d = edW s.d u
  | [], _ => ⟨rfl, rfl⟩
  | j :: u, s => by
    have := esW_cell u (rlS s j)
    rw [rlS_cell, rlS_die] at this
    exact this
section
variable {fit : St → Bool} {s0 : St} {fl : Cl → Bool}
theorem vsW_cell (hfl : ∀ s, fit s = fl (s.x, s.y)) : ∀ (u : W4) (s : St), vsW fit s u = vaW fl (s.x, s.y) u
  | [], _ => rfl
  | j :: u, s => by
    show (fit (rlS s j) && vsW fit (rlS s j) u) = (fl (mvC j (s.x, s.y)) && vaW fl (mvC j (s.x, s.y)) u)
    rw [vsW_cell hfl u, hfl, rlS_cell]
theorem box_shut {W H : Nat} {d : D} (hg : ∀ s, fit s = true → (s.x, s.y) ∈ gridC W H) : ∀ s ∈ boxS W H d, ∀ j, fit (rlS s j) = true → rlS s j ∈ boxS W H d := by
  intro s hs j hf
  exact mem_boxS.2 ⟨hg _ hf, rollK_orbit (mem_boxS.1 hs).2 j⟩
def ddC : List Cl → List Cl
  | [] => []
  | u :: l => if u ∈ ddC l then ddC l else u :: ddC l
theorem mem_ddC {x : Cl} : ∀ {l : List Cl}, x ∈ ddC l ↔ x ∈ l
  | [] => Iff.rfl
  | u :: l => by
    unfold ddC
    have ih := @mem_ddC x l
    split
    · rename_i hu
      constructor
      · intro hx; exact List.mem_cons_of_mem _ (ih.1 hx)
      · intro hx
        rcases List.mem_cons.1 hx with rfl | hx
        · exact hu
        · exact ih.2 hx
    · rw [List.mem_cons, List.mem_cons, ih]
theorem ddC_nodup : ∀ (l : List Cl), (ddC l).Nodup
  | [] => List.nodup_nil
  | u :: l => by
    unfold ddC
    split
    · exact ddC_nodup l
    · rename_i hu
      exact List.nodup_cons.2 ⟨hu, ddC_nodup l⟩
def farW (L : List Nd) (c : Cl) (d : D) : Option Nat := ((findI L ⟨c.1, c.2, d⟩).bind (fun i => L[i]?)).map (·.far)
theorem farW_of {k j : Nat} {L : List Nd} (h : OkW fit s0 k j L) {q : Nd} (hq : q ∈ L) : farW L (q.s.x, q.s.y) q.s.d = some q.far := by
  obtain ⟨i, hi⟩ := List.mem_iff_getElem?.1 hq
  have e : (⟨(q.s.x, q.s.y).1, (q.s.x, q.s.y).2, q.s.d⟩ : St) = q.s := rfl
  unfold farW
  rw [e, findI_of h.nodup hi]
  simp [hi]
theorem farW_some {L : List Nd} {c : Cl} {d : D} {n : Nat} (h : farW L c d = some n) : ∃ q ∈ L, q.s = ⟨c.1, c.2, d⟩ ∧ q.far = n := by
  unfold farW at h
  obtain ⟨q, hq, rfl⟩ := Option.map_eq_some_iff.1 h
  obtain ⟨i, hi, hq⟩ := Option.bind_eq_some_iff.1 hq
  obtain ⟨r, hr, hs⟩ := findI_some hi
  rw [hr] at hq
  obtain rfl := Option.some.inj hq
  exact ⟨r, List.mem_of_getElem? hr, hs, rfl⟩
/-- What holds behind the last round makes the words countable. -/
theorem OkW.geo {n : Nat} {L : List Nd} (h : OkW fit s0 n 0 L) (hn : L.length ≤ n) (hfl : ∀ s, fit s = fl (s.x, s.y)) (h0 : fit s0 = true) : Geo fl (ddC (L.map (fun q => (q.s.x, q.s.y)))) (farW L) (s0.x, s0.y) s0.d where
  nodup := ddC_nodup _
  zero := by
    have := farW_of h (List.mem_of_getElem? h.head)
    exact this
  home := by rw [← hfl]; exact h0
  cells := by
    intro c d m hm
    obtain ⟨q, hq, hs, _⟩ := farW_some hm
    refine mem_ddC.2 (List.mem_map.2 ⟨q, hq, ?_⟩)
    rw [hs]
  any := by
    intro c hc
    obtain ⟨q, hq, rfl⟩ := List.mem_map.1 (mem_ddC.1 hc)
    exact ⟨_, _, farW_of h hq⟩
  roll := by
    intro c d j m hm hf
    obtain ⟨q, hq, hs, rfl⟩ := farW_some hm
    obtain ⟨i, hi⟩ := List.mem_iff_getElem?.1 hq
    have hil := (List.getElem?_eq_some_iff.1 hi).1
    have hc : mvC j c = ((rlS q.s j).x, (rlS q.s j).y) := by rw [rlS_cell, hs]
    have hd : rlD j d = (rlS q.s j).d := by rw [rlS_die, hs]
    obtain ⟨r, hr, hrs, hrf⟩ := h.shut i q j hi (.inl (by omega)) (by rw [hfl, ← hc]; exact hf)
    refine ⟨r.far, ?_, hrf⟩
    rw [hc, hd, ← hrs]
    exact farW_of h hr
  word := by
    intro c d m hm
    obtain ⟨q, hq, hs, rfl⟩ := farW_some hm
    obtain ⟨w1, w2, w3⟩ := h.word q hq _ (Nd.hd_mem (h.ne q hq))
    obtain ⟨e1, e2⟩ := esW_cell q.hd s0
    rw [w3, hs] at e1 e2
    exact ⟨q.hd, w1, by rw [← vsW_cell hfl]; exact w2, e1.symm, e2.symm⟩
/-- The bound: an int counts all shortest words. -/
theorem wyL_count {W H : Nat} (hW : W ≤ 7) (hH : H ≤ 7) (hWH : W * H ≤ 36) (hfl : ∀ s, fit s = fl (s.x, s.y)) (h0 : fit s0 = true) (hg : ∀ s, fit s = true → 0 ≤ s.x ∧ s.x < W ∧ 0 ≤ s.y ∧ s.y < H) : ∀ q ∈ wyL fit s0, q.ws.length < 2 ^ 64 := by
  have hgr : ∀ s, fit s = true → (s.x, s.y) ∈ gridC W H := fun s hs => mem_grid (hg s hs)
  have hs0 : s0 ∈ boxS W H s0.d := mem_boxS.2 ⟨hgr s0 h0, orbit_self _⟩
  have hok := runW_ok fit s0 1000
  have hlen : (runW fit s0 1000).length ≤ 1000 := by
    have := hok.len hs0 (box_shut (d := s0.d) hgr)
    rw [boxS_len] at this
    have : W * H * 24 ≤ 36 * 24 := Nat.mul_le_mul_right _ hWH
    omega
  have hG := hok.geo hlen hfl h0
  intro q hq
  have hq' : q ∈ runW fit s0 1000 := hq
  refine hG.bound hW hH hWH ?_ (hok.wnd q hq') q.far (q.s.x, q.s.y) ?_ ?_
  · intro c hc
    obtain ⟨r, hr, rfl⟩ := List.mem_map.1 (mem_ddC.1 hc)
    have hf : fit r.s = true := by
      obtain ⟨i, hi⟩ := List.mem_iff_getElem?.1 hr
      by_cases e : i = 0
      · subst e
        rw [hok.head] at hi
        obtain rfl := Option.some.inj hi
        exact h0
      · exact hok.fits i r (by omega) hi
    exact hg _ hf
  · intro u hu
    obtain ⟨w1, w2, w3⟩ := hok.word q hq' u hu
    obtain ⟨e1, e2⟩ := esW_cell u s0
    rw [w3] at e1 e2
    refine ⟨⟨by rw [← vsW_cell hfl]; exact w2, ?_⟩, w1⟩
    rw [← e1, ← e2, w1]
    exact farW_of hok hq'
  · intro u hu
    obtain ⟨w1, w2, w3⟩ := hok.word q hq' u hu
    obtain ⟨e1, e2⟩ := esW_cell u s0
    rw [w3] at e1
    exact e1.symm
end
end Go.Proofs.YthdkhikkdcjifaaDoor
