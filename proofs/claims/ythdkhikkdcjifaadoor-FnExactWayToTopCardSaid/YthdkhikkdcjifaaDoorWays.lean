/- Ways of states: the plain model, and rows of states in memory. -/
import Derived.Test.YthdkhikkdcjifaaDoorWalksU
namespace Go.Proofs.YthdkhikkdcjifaaDoor
set_option maxRecDepth 100000
set_option linter.all false
open Go.RowKit

def stepT (s : St) (c : UInt8) : St := rollT s (dirIx c.toNat)
/-- The state behind the first k rolls of a word, floor or not. -/
def atT (s : St) (L : List UInt8) (k : Nat) : St := (L.take k).foldl stepT s
theorem atT_succ (s : St) (L : List UInt8) (k : Nat) (c : UInt8) (h : L[k]? = some c) : atT s L (k + 1) = rollT (atT s L k) (dirIx c.toNat) := by
  unfold atT
  rw [List.take_add_one, h, List.foldl_append]
  rfl
/-- How many rolls of a word can be made. -/
def stopT (l : List UInt8) : St → List UInt8 → Nat
  | _, [] => 0
  | s, c :: cs => if canT l s (dirIx c.toNat) = true then stopT l (stepT s c) cs + 1 else 0
theorem stop_at (l : List UInt8) : ∀ (L : List UInt8) (s : St) (k : Nat), k ≤ L.length → (∀ j c, j < k → L[j]? = some c → canT l (atT s L j) (dirIx c.toNat) = true) → (∀ c, L[k]? = some c → canT l (atT s L k) (dirIx c.toNat) = false) → stopT l s L = k
  | [], s, k, hk, _, _ => by
    have : k = 0 := by simpa using hk
    subst this
    rfl
  | c :: cs, s, 0, _, _, h2 => by
    have h := h2 c rfl
    have e : canT l s (dirIx c.toNat) = false := h
    unfold stopT
    rw [if_neg (by rw [e]; decide)]
  | c :: cs, s, k + 1, hk, h1, h2 => by
    have e : canT l s (dirIx c.toNat) = true := h1 0 c (by omega) rfl
    unfold stopT
    rw [if_pos e, stop_at l cs (stepT s c) k (by simpa using hk) (fun j d hj hd => h1 (j + 1) d (by omega) hd) (fun d hd => h2 d hd)]
/-- The states before and behind each of the first k rolls. -/
def waysT (s : St) (L : List UInt8) (k : Nat) : List St := (List.range (k + 1)).map (atT s L)
theorem waysT_zero (s : St) (L : List UInt8) : waysT s L 0 = [s] := rfl
theorem waysT_succ (s : St) (L : List UInt8) (k : Nat) : waysT s L (k + 1) = waysT s L k ++ [atT s L (k + 1)] := by
  unfold waysT
  rw [List.range_succ, List.map_append]
  rfl
theorem waysT_len (s : St) (L : List UInt8) (k : Nat) : (waysT s L k).length = k + 1 := by simp [waysT]
theorem waysT_get (s : St) (L : List UInt8) (k j : Nat) (h : j ≤ k) : (waysT s L k)[j]? = some (atT s L j) := by
  unfold waysT
  rw [List.getElem?_map, List.getElem?_range (by omega)]
  rfl
def scells (s : St) : List Value := [.int .i64 s.x, .int .i64 s.y, .int .i64 s.d.t, .int .i64 s.d.n, .int .i64 s.d.e, .int .i64 s.d.s, .int .i64 s.d.w, .int .i64 s.d.b]
def cellsS (W : List St) : List Value := W.flatMap scells
theorem cellsS_len (W : List St) : (cellsS W).length = W.length * 8 := by
  induction W with
  | nil => rfl
  | cons a W ih =>
    simp only [cellsS, List.flatMap_cons, List.length_append] at ih ⊢
    rw [ih]
    simp [scells]
    omega
theorem cellsS_snoc (W : List St) (s : St) : cellsS (W ++ [s]) = cellsS W ++ scells s := by simp [cellsS]
theorem scells_one (x : St) : ∀ u ∈ scells x, u.oneCell' = true := by
  intro u hu
  simp only [scells, List.mem_cons, List.not_mem_nil, or_false] at hu
  rcases hu with rfl | rfl | rfl | rfl | rfl | rfl | rfl | rfl <;> rfl
theorem scells_cell {w : World} {b : Nat} {x : St} {ty : TypeId} (h : IsS w b x ty) : ∀ (j : Nat) (u : Value), (scells x)[j]? = some u → w.cell? ((⟨b, 0, none⟩ : Addr).add j) = some u := by
  intro j u hu
  obtain ⟨-, ⟨c0, c1, c2, c3, c4, c5, c6, c7⟩, -⟩ := h.all
  match j, hu with
  | 0, hu => simp [scells] at hu; subst hu; simpa [Addr.add] using c0
  | 1, hu => simp [scells] at hu; subst hu; simpa [Addr.add] using c1
  | 2, hu => simp [scells] at hu; subst hu; simpa [Addr.add] using c2
  | 3, hu => simp [scells] at hu; subst hu; simpa [Addr.add] using c3
  | 4, hu => simp [scells] at hu; subst hu; simpa [Addr.add] using c4
  | 5, hu => simp [scells] at hu; subst hu; simpa [Addr.add] using c5
  | 6, hu => simp [scells] at hu; subst hu; simpa [Addr.add] using c6
  | 7, hu => simp [scells] at hu; subst hu; simpa [Addr.add] using c7
  | j + 8, hu => simp [scells] at hu
theorem cellsS_get : ∀ (W : List St) (n : Nat) (p : St), W[n]? = some p → ∀ j, j < 8 → (cellsS W)[n * 8 + j]? = (scells p)[j]?
  | [], _, _, h, _, _ => by simp at h
  | a :: W, 0, p, h, j, hj => by
    simp at h
    subst h
    simp only [cellsS, List.flatMap_cons]
    rw [List.getElem?_append_left (by simp [scells]; omega)]
    simp
  | a :: W, n + 1, p, h, j, hj => by
    have ih := cellsS_get W n p (by simpa using h) j hj
    simp only [cellsS, List.flatMap_cons] at ih ⊢
    rw [List.getElem?_append_right (by simp [scells]; omega), ← ih]
    congr 1
    simp [scells]
    omega
theorem info_state : (Tryd.prog.info? 30).map (fun i => (i.zero, i.size, i.bytes)) = some (some (.agg #[.int .i64 0, .int .i64 0, .int .i64 0, .int .i64 0, .int .i64 0, .int .i64 0, .int .i64 0, .int .i64 0]), 8, 64) := by kernel_rfl
/-- Floor lies near. -/
theorem floor_near {l : List UInt8} (h : isBd l = true) {x y : Int} (h2 : floorL l x y = true) : (-100000 ≤ x ∧ x ≤ 100000) ∧ (-100000 ≤ y ∧ y ≤ 100000) := by
  unfold floorL at h2
  cases hi : inL l x y
  · rw [cellI_out h hi] at h2
    exact absurd h2 (by simp)
  · obtain ⟨_, a, _, b, _⟩ := bd_facts h
    unfold inL at hi
    simp only [Bool.and_eq_true, decide_eq_true_eq] at hi
    omega
theorem can_floor {l : List UInt8} {s : St} {k : Int} (h : canT l s k = true) : floorL l (rollT s k).x (rollT s k).y = true := h
/-- What boRoll hands back: the state rolled, or the zero state. -/
def rolT (l : List UInt8) (s : St) (k : Int) : St := if canT l s k = true then rollT s k else ⟨0, 0, ⟨0, 0, 0, 0, 0, 0⟩⟩
theorem boRoll_any (l : List UInt8) (W H n : Nat) (hg : GridOk l W H n) (g cap : Nat) (s : St) (k : Int) (w : World) (hA : BytesAt w g (splitP l).flatten) (hx : -100000 ≤ s.x ∧ s.x ≤ 100000) (hy : -100000 ≤ s.y ∧ s.y ≤ 100000) :
    Calls Tryd.prog 72 #[gridV W H n g cap, St.v s, .int .i64 k] w fun e w' => e = .returned (.tuple #[St.v (rolT l s k), .bool (canT l s k)]) ∧ Below w.heap.size w w' := by
  cases h : canT l s k
  · unfold rolT
    rw [h, if_neg (by decide)]
    exact boRoll_no l W H n hg g cap s k w hA hx hy h
  · unfold rolT
    rw [h, if_pos rfl]
    exact boRoll_yes l W H n hg g cap s k w hA hx hy h
end Go.Proofs.YthdkhikkdcjifaaDoor
