/- Plain mathematics of chapter 1: dice as six numbers, rolls, turns, words. No Go in sight. Plain mathematics of chapter 1: dice under a renaming of their numbers; the search for all dice that rolls make. No Go in sight. -/

namespace Go.Proofs.YthdkhikkdcjifaaDoor
set_option maxRecDepth 100000
set_option linter.all false

/-- A die: six numbers. -/
structure D where
  t : Int
  n : Int
  e : Int
  s : Int
  w : Int
  b : Int

theorem D.ext' {d e : D} (h1 : d.t = e.t) (h2 : d.n = e.n) (h3 : d.e = e.e) (h4 : d.s = e.s) (h5 : d.w = e.w) (h6 : d.b = e.b) : d = e := by
  cases d; cases e; simp_all

instance : DecidableEq D := fun d e =>
  if h : d.t = e.t ∧ d.n = e.n ∧ d.e = e.e ∧ d.s = e.s ∧ d.w = e.w ∧ d.b = e.b then isTrue (D.ext' h.1 h.2.1 h.2.2.1 h.2.2.2.1 h.2.2.2.2.1 h.2.2.2.2.2)
  else isFalse (fun x => h (by subst x; simp))

def zeroD : D := ⟨0, 0, 0, 0, 0, 0⟩

/-- A good die. -/
def goodB (d : D) : Bool := decide (0 ≤ d.t ∧ d.t ≤ 9 ∧ 0 ≤ d.n ∧ d.n ≤ 9 ∧ 0 ≤ d.e ∧ d.e ≤ 9 ∧ 0 ≤ d.s ∧ d.s ≤ 9 ∧ 0 ≤ d.w ∧ d.w ≤ 9 ∧ 0 ≤ d.b ∧ d.b ≤ 9)

def rollN (d : D) : D := ⟨d.s, d.t, d.e, d.b, d.w, d.n⟩
def rollE (d : D) : D := ⟨d.w, d.n, d.t, d.s, d.b, d.e⟩
def rollS (d : D) : D := ⟨d.n, d.b, d.e, d.t, d.w, d.s⟩
def rollW (d : D) : D := ⟨d.e, d.n, d.b, d.s, d.t, d.w⟩

/-- The die rolled, by the byte of the direction (another byte: as it is). -/
def rollC (c : Int) (d : D) : D := if c = 110 then rollN d else if c = 101 then rollE d else if c = 115 then rollS d else if c = 119 then rollW d else d
/-- The die rolled, by the number of the direction (another number: as the last). -/
def rollK (k : Int) (d : D) : D := if k = 0 then rollN d else if k = 1 then rollE d else if k = 2 then rollS d else rollW d
/-- The number of a byte's direction, or -1. -/
def dirIx (c : Int) : Int := if c = 110 then 0 else if c = 101 then 1 else if c = 115 then 2 else if c = 119 then 3 else -1

def turnD (d : D) : D := ⟨d.t, d.w, d.n, d.e, d.s, d.b⟩
def mirrorD (d : D) : D := ⟨d.t, d.n, d.w, d.s, d.e, d.b⟩

theorem dirIx_lo (c : Int) : -1 ≤ dirIx c := by unfold dirIx; (repeat' split) <;> omega
theorem dirIx_hi (c : Int) : dirIx c ≤ 3 := by unfold dirIx; (repeat' split) <;> omega
theorem rollC_K {c : Int} (h : 0 ≤ dirIx c) (d : D) : rollC c d = rollK (dirIx c) d := by
  unfold dirIx at h
  unfold rollC rollK dirIx
  by_cases h1 : c = 110
  · simp [h1]
  · by_cases h2 : c = 101
    · simp [h2]
    · by_cases h3 : c = 115
      · simp [h3]
      · by_cases h4 : c = 119
        · simp [h4]
        · simp [h1, h2, h3, h4] at h

/-- A word: at most sixty directions. -/
def isWord (l : List UInt8) : Bool := decide (l.length ≤ 60) && l.all (fun c => decide (0 ≤ dirIx c.toNat))

def runC (d : D) (l : List UInt8) : D := l.foldl (fun d c => rollC c.toNat d) d
def runK (d : D) (l : List UInt8) : D := l.foldl (fun d c => rollK (dirIx c.toNat) d) d

theorem runC_K {l : List UInt8} (h : isWord l = true) (d : D) : runC d l = runK d l := by
  have h' : ∀ c ∈ l, 0 ≤ dirIx c.toNat := by
    intro c hc
    simp only [isWord, Bool.and_eq_true, List.all_eq_true, decide_eq_true_eq] at h
    exact h.2 c hc
  clear h
  unfold runC runK
  induction l generalizing d with
  | nil => rfl
  | cons a l ih =>
    simp only [List.foldl_cons]
    rw [rollC_K (h' a (by simp)), ih _ (fun c hc => h' c (by simp [hc]))]

end Go.Proofs.YthdkhikkdcjifaaDoor
namespace Go.Proofs.YthdkhikkdcjifaaDoor
set_option maxRecDepth 100000
set_option linter.all false

/-! ### Numbers renamed -/
def mapD (f : Int → Int) (d : D) : D := ⟨f d.t, f d.n, f d.e, f d.s, f d.w, f d.b⟩
theorem rollC_map (f : Int → Int) (c : Int) (d : D) : rollC c (mapD f d) = mapD f (rollC c d) := by
  unfold rollC
  repeat' split
  all_goals rfl
theorem runC_map (f : Int → Int) (l : List UInt8) (d : D) : runC (mapD f d) l = mapD f (runC d l) := by
  unfold runC
  induction l generalizing d with
  | nil => rfl
  | cons a l ih =>
    simp only [List.foldl_cons]
    rw [rollC_map, ih]
theorem mapD_inj {f : Int → Int} (hf : ∀ x y, f x = f y → x = y) {d e : D} (h : mapD f d = mapD f e) : d = e := by
  simp only [mapD, D.mk.injEq] at h
  exact D.ext' (hf _ _ h.1) (hf _ _ h.2.1) (hf _ _ h.2.2.1) (hf _ _ h.2.2.2.1) (hf _ _ h.2.2.2.2.1) (hf _ _ h.2.2.2.2.2)

def unitD : D := ⟨0, 1, 2, 3, 4, 5⟩
def markD : D := ⟨1, 2, 3, 4, 5, 6⟩
def up (x : Int) : Int := x + 1
theorem up_inj : ∀ x y, up x = up y → x = y := by unfold up; intro x y h; omega
theorem mark_unit : markD = mapD up unitD := rfl
theorem runC_mark (l : List UInt8) : runC markD l = mapD up (runC unitD l) := by rw [mark_unit, runC_map]
theorem same_marks (v w : List UInt8) : decide (runC markD v = runC markD w) = decide (runC unitD v = runC unitD w) := by
  rw [runC_mark, runC_mark]
  by_cases h : runC unitD v = runC unitD w
  · rw [h]
    simp
  · rw [decide_eq_false h, decide_eq_false (fun e => h (mapD_inj up_inj e))]

/-! ### The twenty-four ways to lie: permutations of the places -/
/-- The number at a place. -/
def D.at (d : D) (i : Int) : Int := if i = 0 then d.t else if i = 1 then d.n else if i = 2 then d.e else if i = 3 then d.s else if i = 4 then d.w else d.b
/-- d's numbers at the places that p tells. -/
def pick (d p : D) : D := mapD d.at p
theorem pick_unit (d : D) : pick d unitD = d := rfl
/-- All places of the twenty-four ways. -/
def ways : List D :=
  [⟨0, 1, 2, 3, 4, 5⟩, ⟨3, 0, 2, 5, 4, 1⟩, ⟨4, 1, 0, 3, 5, 2⟩, ⟨1, 5, 2, 0, 4, 3⟩, ⟨2, 1, 5, 3, 0, 4⟩, ⟨5, 3, 2, 1, 4, 0⟩, ⟨4, 0, 3, 5, 1, 2⟩, ⟨2, 0, 1, 5, 3, 4⟩, ⟨3, 4, 0, 2, 5, 1⟩, ⟨5, 1, 4, 3, 2, 0⟩, ⟨1, 2, 0, 4, 5, 3⟩, ⟨4, 5, 1, 0, 3, 2⟩, ⟨2, 5, 3, 0, 1, 4⟩, ⟨3, 2, 5, 4, 0, 1⟩, ⟨1, 4, 5, 2, 0, 3⟩, ⟨4, 3, 5, 1, 0, 2⟩, ⟨2, 3, 0, 1, 5, 4⟩, ⟨5, 4, 3, 2, 1, 0⟩, ⟨1, 0, 4, 5, 2, 3⟩, ⟨0, 2, 3, 4, 1, 5⟩, ⟨5, 2, 1, 4, 3, 0⟩, ⟨0, 4, 1, 2, 3, 5⟩, ⟨3, 5, 4, 0, 2, 1⟩, ⟨0, 3, 4, 1, 2, 5⟩]

theorem ways_closed : ∀ p ∈ ways, ∀ c ∈ [(110 : Int), 101, 115, 119], rollC c p ∈ ways := by decide +kernel
theorem ways_closed' {p : D} (hp : p ∈ ways) (c : Int) : rollC c p ∈ ways := by
  by_cases h1 : c = 110
  · exact ways_closed p hp c (by simp [h1])
  · by_cases h2 : c = 101
    · exact ways_closed p hp c (by simp [h2])
    · by_cases h3 : c = 115
      · exact ways_closed p hp c (by simp [h3])
      · by_cases h4 : c = 119
        · exact ways_closed p hp c (by simp [h4])
        · unfold rollC
          simp only [if_neg h1, if_neg h2, if_neg h3, if_neg h4]
          exact hp
/-- All dice of a die. -/
def orbit (d : D) : List D := ways.map (pick d)
theorem orbit_self (d : D) : d ∈ orbit d := List.mem_map.2 ⟨unitD, by decide, rfl⟩
theorem orbit_closed {d x : D} (h : x ∈ orbit d) (c : Int) : rollC c x ∈ orbit d := by
  obtain ⟨p, hp, rfl⟩ := List.mem_map.1 h
  exact List.mem_map.2 ⟨rollC c p, ways_closed' hp c, (rollC_map _ _ _).symm⟩
theorem orbit_good {d x : D} (hd : goodB d = true) (h : x ∈ orbit d) : goodB x = true := by
  obtain ⟨p, _, rfl⟩ := List.mem_map.1 h
  have hat : ∀ i, 0 ≤ d.at i ∧ d.at i ≤ 9 := by
    intro i
    simp only [goodB, decide_eq_true_eq] at hd
    unfold D.at
    (repeat' split) <;> omega
  have h0 := hat p.t
  have h1 := hat p.n
  have h2 := hat p.e
  have h3 := hat p.s
  have h4 := hat p.w
  have h5 := hat p.b
  exact decide_eq_true ⟨h0.1, h0.2, h1.1, h1.2, h2.1, h2.2, h3.1, h3.2, h4.1, h4.2, h5.1, h5.2⟩

/-- A list without repeats whose elements are among those of another one is no longer. -/
theorem nodup_le {α : Type} [DecidableEq α] : ∀ (l m : List α), l.Nodup → (∀ x ∈ l, x ∈ m) → l.length ≤ m.length
  | [], _, _, _ => by simp
  | a :: l, m, hn, hs => by
    obtain ⟨h1, h2⟩ := List.nodup_cons.1 hn
    have ha := hs a (by simp)
    have := nodup_le l (m.erase a) h2 (fun x hx => (List.mem_erase_of_ne (fun e : x = a => h1 (by rw [← e]; exact hx))).2 (hs x (by simp [hx])))
    rw [List.length_erase_of_mem ha] at this
    have hp : 0 < m.length := List.length_pos_of_mem ha
    simp only [List.length_cons]
    omega

/-! ### The search -/
abbrev Found := List (D × List UInt8)
def fourDirs : List UInt8 := [110, 101, 115, 119]
def known (L : Found) (x : D) : Bool := L.any (fun p => decide (p.1 = x))
/-- One roll of the die p in a direction: laid behind the list unless it is there. -/
def stepF (p : D × List UInt8) (L : Found) (c : UInt8) : Found := if known L (rollC c.toNat p.1) = true then L else L ++ [(rollC c.toNat p.1, p.2 ++ [c])]
def stepN (p : D × List UInt8) (i : Nat) (L : Found) : Found := (fourDirs.take i).foldl (stepF p) L
theorem stepN_zero (p : D × List UInt8) (L : Found) : stepN p 0 L = L := rfl
theorem stepN_succ (p : D × List UInt8) (i : Nat) (hi : i < 4) (L : Found) : stepN p (i + 1) L = stepF p (stepN p i L) (fourDirs[i]'hi) := by
  unfold stepN
  rw [List.take_succ_eq_append_getElem hi, List.foldl_append]
  rfl
def go : Nat → Nat → Found → Found
  | 0, _, L => L
  | f + 1, n, L => if h : n < L.length then go f (n + 1) (stepN (L[n]'h) 4 L) else L
/-- All dice that rolls make of d, each with its first shortest word, in the order of the search. -/
def bfs (d : D) : Found := go 25 0 [(d, [])]

structure Good (d : D) (L : Found) : Prop where
  orb : ∀ p ∈ L, p.1 ∈ orbit d
  nodup : (L.map (·.1)).Nodup
  short : ∀ p ∈ L, p.2.length ≤ L.length
theorem Good.le {d : D} {L : Found} (h : Good d L) : L.length ≤ 24 := by
  have := nodup_le (L.map (·.1)) (orbit d) h.nodup (fun x hx => by
    obtain ⟨p, hp, rfl⟩ := List.mem_map.1 hx
    exact h.orb p hp)
  simpa [orbit, ways] using this
theorem Good.start (d : D) : Good d [(d, [])] := ⟨fun p hp => by
  obtain rfl := List.mem_singleton.1 hp
  exact orbit_self d, by simp, by simp⟩
theorem Good.none (d : D) : Good d [] := ⟨by simp, by simp, by simp⟩
theorem known_iff {L : Found} {x : D} : known L x = true ↔ x ∈ L.map (·.1) := by
  simp only [known, List.any_eq_true, decide_eq_true_eq, List.mem_map]
theorem Good.step {d : D} {L : Found} (h : Good d L) {p : D × List UInt8} (hp : p.1 ∈ orbit d) (hl : p.2.length ≤ L.length) (c : UInt8) : Good d (stepF p L c) := by
  unfold stepF
  split
  · exact h
  · rename_i hk
    have hk' : rollC c.toNat p.1 ∉ L.map (·.1) := fun e => hk (known_iff.2 e)
    refine ⟨?_, ?_, ?_⟩
    · intro q hq
      rcases List.mem_append.1 hq with hq | hq
      · exact h.orb q hq
      · obtain rfl := List.mem_singleton.1 hq
        exact orbit_closed hp _
    · rw [List.map_append, List.nodup_append]
      refine ⟨h.nodup, by simp, ?_⟩
      intro a ha b hb
      simp at hb
      subst hb
      exact fun e => hk' (e ▸ ha)
    · intro q hq
      rw [List.length_append]
      rcases List.mem_append.1 hq with hq | hq
      · have := h.short q hq
        simp only [List.length_singleton]
        omega
      · obtain rfl := List.mem_singleton.1 hq
        simp only [List.length_append, List.length_singleton]
        omega
theorem stepF_len (p : D × List UInt8) (L : Found) (c : UInt8) : L.length ≤ (stepF p L c).length := by
  unfold stepF
  split <;> simp
theorem stepF_pre (p : D × List UInt8) (L : Found) (c : UInt8) : ∃ M, stepF p L c = L ++ M := by
  unfold stepF
  split
  · exact ⟨[], by simp⟩
  · exact ⟨_, rfl⟩
theorem foldl_pre (p : D × List UInt8) : ∀ (cs : List UInt8) (L : Found), ∃ M, cs.foldl (stepF p) L = L ++ M
  | [], L => ⟨[], by simp⟩
  | c :: cs, L => by
    obtain ⟨M, hM⟩ := stepF_pre p L c
    obtain ⟨N, hN⟩ := foldl_pre p cs (stepF p L c)
    exact ⟨M ++ N, by rw [List.foldl_cons, hN, hM, List.append_assoc]⟩
theorem foldl_good {d : D} {p : D × List UInt8} (hp : p.1 ∈ orbit d) : ∀ (cs : List UInt8) (L : Found), Good d L → p.2.length ≤ L.length → Good d (cs.foldl (stepF p) L)
  | [], _, h, _ => h
  | c :: cs, L, h, hl => foldl_good hp cs _ (h.step hp hl c) (Nat.le_trans hl (stepF_len p L c))
theorem stepN_good {d : D} {L : Found} (h : Good d L) {p : D × List UInt8} (hp : p ∈ L) (i : Nat) : Good d (stepN p i L) := foldl_good (h.orb p hp) _ _ h (h.short p hp)
theorem stepN_pre (p : D × List UInt8) (i : Nat) (L : Found) : ∃ M, stepN p i L = L ++ M := foldl_pre p _ L
theorem stepN_mem {p q : D × List UInt8} {i : Nat} {L : Found} (h : q ∈ L) : q ∈ stepN p i L := by
  obtain ⟨M, hM⟩ := stepN_pre p i L
  rw [hM]
  exact List.mem_append_left _ h
theorem stepN_len (p : D × List UInt8) (i : Nat) (L : Found) : L.length ≤ (stepN p i L).length := by
  obtain ⟨M, hM⟩ := stepN_pre p i L
  rw [hM]
  simp
theorem go_done {f n : Nat} {L : Found} (h : ¬ n < L.length) : go f n L = L := by
  cases f
  · rfl
  · simp [go, h]
theorem go_next {f n : Nat} {L : Found} (h : n < L.length) : go (f + 1) n L = go f (n + 1) (stepN (L[n]'h) 4 L) := by simp [go, h]
theorem go_good {d : D} : ∀ (f n : Nat) (L : Found), Good d L → Good d (go f n L)
  | 0, _, _, h => h
  | f + 1, n, L, h => by
    unfold go
    split
    · rename_i hn
      exact go_good f (n + 1) _ (stepN_good h (List.getElem_mem hn) 4)
    · exact h
theorem bfs_good (d : D) : Good d (bfs d) := go_good 25 0 _ (Good.start d)

end Go.Proofs.YthdkhikkdcjifaaDoor
