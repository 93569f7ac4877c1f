/- Plain mathematics of chapter 1: dice as six numbers, rolls, turns, words. No Go in sight. -/
namespace Go.Proofs.Ytbfclnigjijkbaa
set_option maxRecDepth 100000
set_option linter.all false

/-- A die: six numbers. -/
structure D where
  t : Int
  n : Int
  e : Int
  s : Int
  w : Int
  b : Int

theorem D.ext' {d e : D} (h1 : d.t = e.t) (h2 : d.n = e.n) (h3 : d.e = e.e) (h4 : d.s = e.s) (h5 : d.w = e.w) (h6 : d.b = e.b) : d = e := by
  cases d; cases e; simp_all

instance : DecidableEq D := fun d e =>
  if h : d.t = e.t ∧ d.n = e.n ∧ d.e = e.e ∧ d.s = e.s ∧ d.w = e.w ∧ d.b = e.b then isTrue (D.ext' h.1 h.2.1 h.2.2.1 h.2.2.2.1 h.2.2.2.2.1 h.2.2.2.2.2)
  else isFalse (fun x => h (by subst x; simp))

def zeroD : D := ⟨0, 0, 0, 0, 0, 0⟩

/-- A good die. -/
def goodB (d : D) : Bool := decide (0 ≤ d.t ∧ d.t ≤ 9 ∧ 0 ≤ d.n ∧ d.n ≤ 9 ∧ 0 ≤ d.e ∧ d.e ≤ 9 ∧ 0 ≤ d.s ∧ d.s ≤ 9 ∧ 0 ≤ d.w ∧ d.w ≤ 9 ∧ 0 ≤ d.b ∧ d.b ≤ 9)

def rollN (d : D) : D := ⟨d.s, d.t, d.e, d.b, d.w, d.n⟩
def rollE (d : D) : D := ⟨d.w, d.n, d.t, d.s, d.b, d.e⟩
def rollS (d : D) : D := ⟨d.n, d.b, d.e, d.t, d.w, d.s⟩
def rollW (d : D) : D := ⟨d.e, d.n, d.b, d.s, d.t, d.w⟩

/-- The die rolled, by the byte of the direction (another byte: as it is). -/
def rollC (c : Int) (d : D) : D := if c = 110 then rollN d else if c = 101 then rollE d else if c = 115 then rollS d else if c = 119 then rollW d else d
/-- The die rolled, by the number of the direction (another number: as the last). -/
def rollK (k : Int) (d : D) : D := if k = 0 then rollN d else if k = 1 then rollE d else if k = 2 then rollS d else rollW d
/-- The number of a byte's direction, or -1. -/
def dirIx (c : Int) : Int := if c = 110 then 0 else if c = 101 then 1 else if c = 115 then 2 else if c = 119 then 3 else -1

def turnD (d : D) : D := ⟨d.t, d.w, d.n, d.e, d.s, d.b⟩
def mirrorD (d : D) : D := ⟨d.t, d.n, d.w, d.s, d.e, d.b⟩

theorem dirIx_lo (c : Int) : -1 ≤ dirIx c := by unfold dirIx; (repeat' split) <;> omega
theorem dirIx_hi (c : Int) : dirIx c ≤ 3 := by unfold dirIx; (repeat' split) <;> omega
theorem rollC_K {c : Int} (h : 0 ≤ dirIx c) (d : D) : rollC c d = rollK (dirIx c) d := by
  unfold dirIx at h
  unfold rollC rollK dirIx
  by_cases h1 : c = 110
  · simp [h1]
  · by_cases h2 : c = 101
    · simp [h2]
    · by_cases h3 : c = 115
      · simp [h3]
      · by_cases h4 : c = 119
        · simp [h4]
        · simp [h1, h2, h3, h4] at h

/-- A word: at most sixty directions. -/
def isWord (l : List UInt8) : Bool := decide (l.length ≤ 60) && l.all (fun c => decide (0 ≤ dirIx c.toNat))

def runC (d : D) (l : List UInt8) : D := l.foldl (fun d c => rollC c.toNat d) d
def runK (d : D) (l : List UInt8) : D := l.foldl (fun d c => rollK (dirIx c.toNat) d) d

theorem runC_K {l : List UInt8} (h : isWord l = true) (d : D) : runC d l = runK d l := by
  have h' : ∀ c ∈ l, 0 ≤ dirIx c.toNat := by
    intro c hc
    simp only [isWord, Bool.and_eq_true, List.all_eq_true, decide_eq_true_eq] at h
    exact h.2 c hc
  clear h
  unfold runC runK
  induction l generalizing d with
  | nil => rfl
  | cons a l ih =>
    simp only [List.foldl_cons]
    rw [rollC_K (h' a (by simp)), ih _ (fun c hc => h' c (by simp [hc]))]

end Go.Proofs.Ytbfclnigjijkbaa
