/- Sorted dice: diLess, and rows of dice. -/
import Derived.Test.YthdkhikkdcjifaaDoorGood
import Derived.Test.YthdkhikkdcjifaaDoorFirst
import Derived.Deep.RegionHeld3
import Derived.Laws.OwnMore
namespace Go.Proofs.YthdkhikkdcjifaaDoor
set_option maxRecDepth 100000
set_option linter.all false
open Go.RowKit

def lessL : List Int → List Int → Bool
  | x :: xs, y :: ys => if x = y then lessL xs ys else decide (x < y)
  | _, _ => false
/-- Does a die come before another one? -/
def lessD (d e : D) : Bool := lessL [d.t, d.n, d.e, d.s, d.w, d.b] [e.t, e.n, e.e, e.s, e.w, e.b]
def atW (d : D) : Nat → Int
  | 0 => d.t
  | 1 => d.n
  | 2 => d.e
  | 3 => d.s
  | 4 => d.w
  | _ => d.b
theorem less_at (d e : D) (k : Nat) (hk : k ≤ 5) (h : ∀ j, j < k → atW d j = atW e j) (hne : ¬ atW d k = atW e k) : lessD d e = decide (atW d k < atW e k) := by
  unfold lessD
  rcases (by omega : k = 0 ∨ k = 1 ∨ k = 2 ∨ k = 3 ∨ k = 4 ∨ k = 5) with rfl | rfl | rfl | rfl | rfl | rfl
  · simp only [atW] at hne ⊢
    simp [lessL, hne]
  · have h0 := h 0 (by omega)
    simp only [atW] at hne h0 ⊢
    simp [lessL, hne, h0]
  · have h0 := h 0 (by omega)
    have h1 := h 1 (by omega)
    simp only [atW] at hne h0 h1 ⊢
    simp [lessL, hne, h0, h1]
  · have h0 := h 0 (by omega)
    have h1 := h 1 (by omega)
    have h2 := h 2 (by omega)
    simp only [atW] at hne h0 h1 h2 ⊢
    simp [lessL, hne, h0, h1, h2]
  · have h0 := h 0 (by omega)
    have h1 := h 1 (by omega)
    have h2 := h 2 (by omega)
    have h3 := h 3 (by omega)
    simp only [atW] at hne h0 h1 h2 h3 ⊢
    simp [lessL, hne, h0, h1, h2, h3]
  · have h0 := h 0 (by omega)
    have h1 := h 1 (by omega)
    have h2 := h 2 (by omega)
    have h3 := h 3 (by omega)
    have h4 := h 4 (by omega)
    simp only [atW] at hne h0 h1 h2 h3 h4 ⊢
    simp [lessL, hne, h0, h1, h2, h3, h4]
theorem less_eq (d e : D) (h : ∀ j, j < 6 → atW d j = atW e j) : lessD d e = false := by
  have h0 := h 0 (by omega)
  have h1 := h 1 (by omega)
  have h2 := h 2 (by omega)
  have h3 := h 3 (by omega)
  have h4 := h 4 (by omega)
  have h5 := h 5 (by omega)
  simp only [atW] at h0 h1 h2 h3 h4 h5
  simp [lessD, lessL, h0, h1, h2, h3, h4, h5]
theorem cells_atW {w : World} {b : Nat} {d : D} {ty : TypeId} (h : IsD w b d ty) (k : Nat) (hk : k ≤ 5) : w.cell? ⟨b, k, none⟩ = some (.int .i64 (atW d k)) := by
  obtain ⟨-, ⟨c0, c1, c2, c3, c4, c5⟩, -⟩ := h.all
  match k, hk with
  | 0, _ => exact c0
  | 1, _ => exact c1
  | 2, _ => exact c2
  | 3, _ => exact c3
  | 4, _ => exact c4
  | 5, _ => exact c5
theorem diFacesB (d : D) (w : World) : Calls Tryd.prog 97 #[D.v d] w fun e w' => ∃ b, e = .returned (.slice (some ⟨b, 0, none⟩) 6 6) ∧ IsD w' b d 3 ∧ Below w.heap.size w w' := by
  refine (diFaces_any d w).mono ?_
  rintro e w' ⟨rfl, rfl⟩
  refine ⟨w.heap.size + 1, rfl, ?_, by go_grown⟩
  have := IsD.new (w := w.alloc (.cells #[.int .i64 d.t, .int .i64 d.n, .int .i64 d.e, .int .i64 d.s, .int .i64 d.w, .int .i64 d.b] 28)) (d := d) (ty := 3)
  simpa using this

set_option maxHeartbeats 1600000 in
theorem diLess_any (d e : D) (w : World) : Calls Tryd.prog 85 #[D.v d, D.v e] w fun x w' => x = .returned (.bool (lessD d e)) ∧ Below w.heap.size w w' := by
  have I0 := (IsD.new (w := w) (d := d) (ty := 28)).alloc (.cells #[.int .i64 e.t, .int .i64 e.n, .int .i64 e.e, .int .i64 e.s, .int .i64 e.w, .int .i64 e.b] 28)
  have J0 := IsD.new2 (w := w) (o := (.cells #[.int .i64 d.t, .int .i64 d.n, .int .i64 d.e, .int .i64 d.s, .int .i64 d.w, .int .i64 d.b] 28)) (d := e) (ty := 28)
  have q0 : Below w.heap.size w ((w.alloc (.cells #[.int .i64 d.t, .int .i64 d.n, .int .i64 d.e, .int .i64 d.s, .int .i64 d.w, .int .i64 d.b] 28)).alloc (.cells #[.int .i64 e.t, .int .i64 e.n, .int .i64 e.e, .int .i64 e.s, .int .i64 e.w, .int .i64 e.b] 28)) := by go_grown
  go_enter Tryd.func85, Tryd.ntmps85
  go_wp2_with fail
  generalize (w.alloc (.cells #[.int .i64 d.t, .int .i64 d.n, .int .i64 d.e, .int .i64 d.s, .int .i64 d.w, .int .i64 d.b] 28)).alloc (.cells #[.int .i64 e.t, .int .i64 e.n, .int .i64 e.e, .int .i64 e.s, .int .i64 e.w, .int .i64 e.b] 28) = w0 at I0 J0 q0 ⊢
  obtain ⟨li, ⟨a0, a1, a2, a3, a4, a5⟩, -⟩ := I0.all
  obtain ⟨lj, ⟨b0, b1, b2, b3, b4, b5⟩, -⟩ := J0.all
  go_region_held3 (fun w' => w'.cell? ⟨w.heap.size, 0, none⟩ = some (.int .i64 d.t) ∧ w'.cell? ⟨w.heap.size, 1, none⟩ = some (.int .i64 d.n) ∧ w'.cell? ⟨w.heap.size, 2, none⟩ = some (.int .i64 d.e) ∧ w'.cell? ⟨w.heap.size, 3, none⟩ = some (.int .i64 d.s) ∧ w'.cell? ⟨w.heap.size, 4, none⟩ = some (.int .i64 d.w) ∧ w'.cell? ⟨w.heap.size, 5, none⟩ = some (.int .i64 d.b) ∧ w'.cell? ⟨w.heap.size + 1, 0, none⟩ = some (.int .i64 e.t) ∧ w'.cell? ⟨w.heap.size + 1, 1, none⟩ = some (.int .i64 e.n) ∧ w'.cell? ⟨w.heap.size + 1, 2, none⟩ = some (.int .i64 e.e) ∧ w'.cell? ⟨w.heap.size + 1, 3, none⟩ = some (.int .i64 e.s) ∧ w'.cell? ⟨w.heap.size + 1, 4, none⟩ = some (.int .i64 e.w) ∧ w'.cell? ⟨w.heap.size + 1, 5, none⟩ = some (.int .i64 e.b)) (first | (refine ⟨?_, ?_, ?_, ?_, ?_, ?_, ?_, ?_, ?_, ?_, ?_, ?_⟩ <;> with_reducible assumption) | (refine ⟨?_, ?_, ?_, ?_, ?_, ?_, ?_, ?_, ?_, ?_, ?_, ?_⟩ <;> assumption))
    (first
      | (go_at_call 97; (with_reducible refine (diFacesB d _).mono ?_); rintro x w1 ⟨p1, rfl, F1, hb1⟩; have I1 := isD_to hb1 I0 rfl; have J1 := isD_to hb1 J0 rfl; have q1 := below_to hb1 q0 q0.size rfl rfl rfl rfl; clear hb1 a0 a1 a2 a3 a4 a5 b0 b1 b2 b3 b4 b5; obtain ⟨li1, ⟨a0, a1, a2, a3, a4, a5⟩, -⟩ := I1.all; obtain ⟨lj1, ⟨b0, b1, b2, b3, b4, b5⟩, -⟩ := J1.all)
      | (go_at_call 97; (with_reducible refine (diFacesB e _).mono ?_); rintro x w2 ⟨p2, rfl, F2, hb2⟩; have G2 := isD_to hb2 F1 rfl; have q2 := below_to hb2 q1 q1.size rfl rfl rfl rfl; have I2 := isD_to hb2 I1 rfl; have J2 := isD_to hb2 J1 rfl; clear hb2 a0 a1 a2 a3 a4 a5 b0 b1 b2 b3 b4 b5; obtain ⟨li2, ⟨a0, a1, a2, a3, a4, a5⟩, -⟩ := I2.all; obtain ⟨lj2, ⟨b0, b1, b2, b3, b4, b5⟩, -⟩ := J2.all))
  have HG := hide G2
  have HF := hide F2
  have HQ := hide q2
  clear F1 F2 G2 I0 I1 I2 J0 J1 J2 q0 q1 q2 a0 a1 a2 a3 a4 a5 b0 b1 b2 b3 b4 b5 li lj li1 lj1 li2 lj2
  go_wp2
  go_loopw [14, 7] (fun i _ wr => ∃ k : Nat, k ≤ 6 ∧ i = .int .i64 (k : Int) ∧ (∀ j, j < k → atW d j = atW e j) ∧ IsD wr p1 d 3 ∧ IsD wr p2 e 3 ∧ Below w.heap.size w wr) (fun i _ _ => 6 - (intOf i).toNat)
  case atStart => exact ⟨0, by omega, rfl, fun j hj => absurd hj (by omega), HG.out, HF.out, HQ.out⟩
  case round =>
    obtain ⟨k, hk, rfl, hall, G, F, q⟩ := hrel
    clear HG HF HQ
    have HALL := hide hall
    have HGG := hide G
    have HFF := hide F
    clear hall
    by_cases hlt : k < 6
    · have c0 := cells_atW G k (by omega)
      have c1 := cells_atW F k (by omega)
      have hk6 : (k : Int) < 6 := by omega
      clear G F
      by_cases he : atW d k = atW e k
      · have HN := hide (show ∀ j, j < k + 1 → atW d j = atW e j from fun j hj => by
          rcases Nat.lt_or_ge j k with h | h
          · exact HALL.out j h
          · obtain rfl : j = k := by omega
            exact he)
        rw [he] at c0
        generalize atW e k = x at c0 c1
        have e1 : (x != x) = false := by simp
        clear he
        go_upto_region 5 with (fail)
        go_region_held3 (fun w' => w'.cell? ⟨p1, k, none⟩ = some (.int .i64 x) ∧ w'.cell? ⟨p2, k, none⟩ = some (.int .i64 x)) (first | (refine ⟨?_, ?_⟩ <;> with_reducible assumption) | (refine ⟨?_, ?_⟩ <;> assumption)) (fail)
        go_wp2
        go_roundw
        case rel => exact ⟨k + 1, by omega, by go_num, HN.out, HGG.out, HFF.out, q.drew⟩
        case measure => simp [intOf] <;> omega
      · have HL := hide (less_at d e k (by omega) HALL.out he)
        generalize atW d k = x at c0 HL he
        generalize atW e k = y at c1 HL he
        have e1 : (x != y) = true := by simpa using he
        clear he
        go_upto_region 5 with (fail)
        go_region_held3 (fun w' => w'.cell? ⟨p1, k, none⟩ = some (.int .i64 x) ∧ w'.cell? ⟨p2, k, none⟩ = some (.int .i64 y)) (first | (refine ⟨?_, ?_⟩ <;> with_reducible assumption) | (refine ⟨?_, ?_⟩ <;> assumption)) (fail)
        go_upto_region 6 with (fail)
        go_region_held3 (fun w' => w'.cell? ⟨p1, k, none⟩ = some (.int .i64 x) ∧ w'.cell? ⟨p2, k, none⟩ = some (.int .i64 y)) (first | (refine ⟨?_, ?_⟩ <;> with_reducible assumption) | (refine ⟨?_, ?_⟩ <;> assumption)) (fail)
        go_wp2
        go_returns
        exact ⟨by rw [HL.out]; rfl, q.drew.drew⟩
    · obtain rfl : k = 6 := by omega
      have HL := hide (less_eq d e HALL.out)
      go_wp2
      go_returns
      exact ⟨by rw [HL.out]; rfl, q⟩

/-- How many of the first dice come before one; a die put behind them. -/
def lead (x : D) : List D → Nat
  | [] => 0
  | y :: ys => if lessD y x = true then lead x ys + 1 else 0
theorem lead_at (x : D) : ∀ (O : List D) (k : Nat), k ≤ O.length → (∀ j y, j < k → O[j]? = some y → lessD y x = true) → (∀ y, O[k]? = some y → lessD y x = false) → lead x O = k
  | [], k, hk, _, _ => by
    have : k = 0 := by simpa using hk
    subst this
    rfl
  | y :: ys, 0, _, _, h2 => by
    have h := h2 y rfl
    unfold lead
    rw [if_neg (by rw [h]; decide)]
  | y :: ys, k + 1, hk, h1, h2 => by
    unfold lead
    rw [if_pos (h1 0 y (by omega) rfl), lead_at x ys k (by simpa using hk) (fun j z hj hz => h1 (j + 1) z (by omega) hz) (fun z hz => h2 z hz)]
def insD (O : List D) (x : D) : List D := O.take (lead x O) ++ [x] ++ O.drop (lead x O)
theorem insD_len (O : List D) (x : D) : (insD O x).length = O.length + 1 := by
  simp [insD]
  omega
/-- The first m dice, sorted. -/
def insM (L : List D) (m : Nat) : List D := (L.take m).foldl insD []
theorem insM_zero (L : List D) : insM L 0 = [] := rfl
theorem insM_succ (L : List D) (m : Nat) (x : D) (h : L[m]? = some x) : insM L (m + 1) = insD (insM L m) x := by
  unfold insM
  rw [List.take_add_one, h, List.foldl_append]
  rfl
theorem insM_len (L : List D) : ∀ m, m ≤ L.length → (insM L m).length = m
  | 0, _ => rfl
  | m + 1, h => by
    rw [insM_succ L m (L[m]'(by omega)) (List.getElem?_eq_getElem (by omega)), insD_len, insM_len L m (by omega)]
def cellsW (O : List D) : List Value := O.flatMap dcells
theorem cellsW_len (O : List D) : (cellsW O).length = O.length * 6 := by
  induction O with
  | nil => rfl
  | cons a O ih =>
    simp only [cellsW, List.flatMap_cons, List.length_append] at ih ⊢
    rw [ih]
    simp [dcells]
    omega
theorem cellsW_append (O P : List D) : cellsW (O ++ P) = cellsW O ++ cellsW P := by simp [cellsW]
theorem cellsW_one (x : D) : cellsW [x] = dcells x := by simp [cellsW]
theorem cellsW_get : ∀ (O : List D) (n : Nat) (p : D), O[n]? = some p → ∀ j, j < 6 → (cellsW O)[n * 6 + j]? = (dcells p)[j]?
  | [], _, _, h, _, _ => by simp at h
  | a :: W, 0, p, h, j, hj => by
    simp at h
    subst h
    simp only [cellsW, List.flatMap_cons]
    rw [List.getElem?_append_left (by simp [dcells]; omega)]
    simp
  | a :: W, n + 1, p, h, j, hj => by
    have ih := cellsW_get W n p (by simpa using h) j hj
    simp only [cellsW, List.flatMap_cons] at ih ⊢
    rw [List.getElem?_append_right (by simp [dcells]; omega), ← ih]
    congr 1
    simp [dcells]
    omega
theorem row6_at {w : World} {b B n cap : Nat} {O : List D} {u : D} (j : Nat) (h : w.ownsRow b 28 6 (.slice (some ⟨B, 0, none⟩) n cap) n (cellsW O)) (hj : j < n) (hu : O[j]? = some u) :
    w.cell? ⟨B, j * 6, none⟩ = some (.int .i64 u.t) ∧ w.cell? ⟨B, j * 6 + 1, none⟩ = some (.int .i64 u.n) ∧ w.cell? ⟨B, j * 6 + 2, none⟩ = some (.int .i64 u.e) ∧ w.cell? ⟨B, j * 6 + 3, none⟩ = some (.int .i64 u.s) ∧ w.cell? ⟨B, j * 6 + 4, none⟩ = some (.int .i64 u.w) ∧ w.cell? ⟨B, j * 6 + 5, none⟩ = some (.int .i64 u.b) := by
  have hh : ∀ i x, i < 6 → (dcells u)[i]? = some x → w.cell? ⟨B, j * 6 + i, none⟩ = some x := fun i x hi hx => (h.cellAt (j * 6 + i) (by omega)).trans ((cellsW_get O j u hu i hi).trans hx)
  exact ⟨hh 0 _ (by omega) rfl, hh 1 _ (by omega) rfl, hh 2 _ (by omega) rfl, hh 3 _ (by omega) rfl, hh 4 _ (by omega) rfl, hh 5 _ (by omega) rfl⟩
end Go.Proofs.YthdkhikkdcjifaaDoor
