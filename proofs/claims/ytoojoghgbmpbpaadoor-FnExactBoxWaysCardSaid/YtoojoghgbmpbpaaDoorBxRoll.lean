/- The contract of spec.bxRoll; ways of boxes: the plain model, and rows of boxes in memory. -/
import Derived.Test.YtoojoghgbmpbpaaDoorBxTip
import Derived.Test.YtoojoghgbmpbpaaDoorBxAsk
namespace Go.Proofs.YtoojoghgbmpbpaaDoor
set_option maxRecDepth 100000
set_option linter.all false
open Go.RowKit

/-- What bxRoll hands back: the box rolled, or the zero box. -/
def rolX (l : List UInt8) (b : Bx) (k : Int) : Bx := if goodX (splitP l) (tipX b k) = true then tipX b k else zeroX
set_option maxHeartbeats 1600000 in
theorem bxRoll_any (l : List UInt8) (W H n : Nat) (hg : GndOk l W H n) (g cap : Nat) (b : Bx) (k : Int) (w : World) (hA : BytesAt w g (splitP l).flatten) (hb : nearB b) (hk : 0 ≤ k ∧ k ≤ 3) :
    Calls Tryd.prog 41 #[gridV W H n g cap, Bx.v b, .int .i64 k] w fun e w' => e = .returned (.tuple #[Bx.v (rolX l b k), .bool (goodX (splitP l) (tipX b k))]) ∧ Below w.heap.size w w' := by
  have HG := hide hg
  have HN := hide hb
  have HR := hide (show rolX l b k = if goodX (splitP l) (tipX b k) = true then tipX b k else zeroX from rfl)
  have HK := hide (fun wx => bxTip_any b k hb hk wx)
  have G0 : IsG (((w.alloc (.cells #[.int .i64 (W : Int), .int .i64 (H : Int), .slice (some ⟨g, 0, none⟩) n cap] 44)).alloc (.cells #[.int .i64 b.x, .int .i64 b.y, .int .i64 b.p] 27)).alloc (.cells #[.int .i64 0, .int .i64 0, .int .i64 0] 27)) w.heap.size (W : Int) (H : Int) (.slice (some ⟨g, 0, none⟩) n cap) := (IsG.new.alloc _).alloc _
  have R0 : IsX (((w.alloc (.cells #[.int .i64 (W : Int), .int .i64 (H : Int), .slice (some ⟨g, 0, none⟩) n cap] 44)).alloc (.cells #[.int .i64 b.x, .int .i64 b.y, .int .i64 b.p] 27)).alloc (.cells #[.int .i64 0, .int .i64 0, .int .i64 0] 27)) (w.heap.size + 2) ⟨0, 0, 0⟩ 27 := by
    have := IsX.new (w := (w.alloc (.cells #[.int .i64 (W : Int), .int .i64 (H : Int), .slice (some ⟨g, 0, none⟩) n cap] 44)).alloc (.cells #[.int .i64 b.x, .int .i64 b.y, .int .i64 b.p] 27)) (q := ⟨0, 0, 0⟩) (ty := 27)
    simpa using this
  have q0 : Below w.heap.size w (((w.alloc (.cells #[.int .i64 (W : Int), .int .i64 (H : Int), .slice (some ⟨g, 0, none⟩) n cap] 44)).alloc (.cells #[.int .i64 b.x, .int .i64 b.y, .int .i64 b.p] 27)).alloc (.cells #[.int .i64 0, .int .i64 0, .int .i64 0] 27)) := by go_grown
  have A0 := bytesAt_to q0 hA rfl
  generalize tipX b k = t at HR HK ⊢
  cases hgx : goodX (splitP l) t
  · have HGX := hide hgx
    have HZ := hide (show rolX l b k = zeroX from by rw [HR.out, hgx]; rfl)
    rw [HZ.out]
    clear hgx hg hb hA
    go_enter Tryd.func41, Tryd.ntmps41
    go_wp2_with fail
    generalize ((w.alloc (.cells #[.int .i64 (W : Int), .int .i64 (H : Int), .slice (some ⟨g, 0, none⟩) n cap] 44)).alloc (.cells #[.int .i64 b.x, .int .i64 b.y, .int .i64 b.p] 27)).alloc (.cells #[.int .i64 0, .int .i64 0, .int .i64 0] 27) = W0 at G0 R0 q0 A0 ⊢
    refine (HK.out _).mono ?_
    rintro e w1 ⟨rfl, hb1⟩
    have G1 := (isG_to hb1 G0 rfl).alloc (.cells #[.int .i64 t.x, .int .i64 t.y, .int .i64 t.p] 27)
    have R1 := (isX_to hb1 R0 rfl).alloc (.cells #[.int .i64 t.x, .int .i64 t.y, .int .i64 t.p] 27)
    have A1 := hide (show BytesAt (w1.alloc (.cells #[.int .i64 t.x, .int .i64 t.y, .int .i64 t.p] 27)) g (splitP l).flatten from bytesAt_to ((Below.refl _ _).alloc (Nat.le_refl _) _) (bytesAt_to hb1 A0 rfl) rfl)
    have q1 := below_to hb1 q0 q0.size rfl rfl rfl rfl
    have q2 := q1.alloc q1.size (.cells #[.int .i64 t.x, .int .i64 t.y, .int .i64 t.p] 27)
    obtain ⟨l1, ⟨c0, c1, c2⟩, -⟩ := (isG_to hb1 G0 rfl).all
    clear hb1 G0 R0 q0 A0 q1
    go_wp2_with fail
    clear c0 c1 c2 l1
    refine (bxGood_any l W H n HG.out g cap t _ A1.out).mono ?_
    rintro e w3 ⟨rfl, hb3⟩
    rw [HGX.out]
    have R3 := isX_to hb3 R1 rfl
    have q3 := below_to hb3 q2 q2.size rfl rfl rfl rfl
    obtain ⟨l3, ⟨r0, r1, r2⟩, k0, k1, k2⟩ := R3.all
    clear hb3 R1 q2 A1 G1
    go_wp2
    refine bodyPost_ret (ret_box2 Tryd.results41 rfl rfl (R3.set3 ⟨0, 0, 0⟩)) rfl ⟨rfl, ?_⟩
    exact below_setX q3 (by omega) ⟨0, 0, 0⟩
  · have HGX := hide hgx
    have HZ := hide (show rolX l b k = t from by rw [HR.out, hgx]; rfl)
    rw [HZ.out]
    clear hgx hg hb hA
    go_enter Tryd.func41, Tryd.ntmps41
    go_wp2_with fail
    generalize ((w.alloc (.cells #[.int .i64 (W : Int), .int .i64 (H : Int), .slice (some ⟨g, 0, none⟩) n cap] 44)).alloc (.cells #[.int .i64 b.x, .int .i64 b.y, .int .i64 b.p] 27)).alloc (.cells #[.int .i64 0, .int .i64 0, .int .i64 0] 27) = W0 at G0 R0 q0 A0 ⊢
    refine (HK.out _).mono ?_
    rintro e w1 ⟨rfl, hb1⟩
    have G1 := (isG_to hb1 G0 rfl).alloc (.cells #[.int .i64 t.x, .int .i64 t.y, .int .i64 t.p] 27)
    have R1 := (isX_to hb1 R0 rfl).alloc (.cells #[.int .i64 t.x, .int .i64 t.y, .int .i64 t.p] 27)
    have T1 : IsX (w1.alloc (.cells #[.int .i64 t.x, .int .i64 t.y, .int .i64 t.p] 27)) w1.heap.size t 27 := IsX.new
    have A1 := hide (show BytesAt (w1.alloc (.cells #[.int .i64 t.x, .int .i64 t.y, .int .i64 t.p] 27)) g (splitP l).flatten from bytesAt_to ((Below.refl _ _).alloc (Nat.le_refl _) _) (bytesAt_to hb1 A0 rfl) rfl)
    have q1 := below_to hb1 q0 q0.size rfl rfl rfl rfl
    have q2 := q1.alloc q1.size (.cells #[.int .i64 t.x, .int .i64 t.y, .int .i64 t.p] 27)
    obtain ⟨l1, ⟨c0, c1, c2⟩, -⟩ := (isG_to hb1 G0 rfl).all
    clear hb1 G0 R0 q0 A0 q1
    go_wp2_with fail
    clear c0 c1 c2 l1
    refine (bxGood_any l W H n HG.out g cap t _ A1.out).mono ?_
    rintro e w3 ⟨rfl, hb3⟩
    rw [HGX.out]
    have R3 := isX_to hb3 R1 rfl
    have T3 := isX_to hb3 T1 rfl
    have q3 := below_to hb3 q2 q2.size rfl rfl rfl rfl
    obtain ⟨l3, ⟨r0, r1, r2⟩, k0, k1, k2⟩ := R3.all
    obtain ⟨l4, ⟨t0, t1, t2⟩, -⟩ := T3.all
    clear hb3 R1 q2 A1 G1 T1
    go_wp2
    refine bodyPost_ret (ret_box2 Tryd.results41 rfl rfl (R3.set3 t)) rfl ⟨rfl, ?_⟩
    exact below_setX q3 (by omega) t

/-! ### Ways -/
def stepX (b : Bx) (c : UInt8) : Bx := tipX b (dirIx c.toNat)
/-- The box behind the first k rolls of a word, ground or not. -/
def atX (b : Bx) (L : List UInt8) (k : Nat) : Bx := (L.take k).foldl stepX b
theorem atX_zero (b : Bx) (L : List UInt8) : atX b L 0 = b := rfl
theorem atX_succ (b : Bx) (L : List UInt8) (k : Nat) (c : UInt8) (h : L[k]? = some c) : atX b L (k + 1) = tipX (atX b L k) (dirIx c.toNat) := by
  unfold atX
  rw [List.take_add_one, h, List.foldl_append]
  rfl
/-- Can all rolls of a word be made? -/
def goesX (l : List UInt8) (b : Bx) (L : List UInt8) : Bool := (List.range L.length).all (fun k => goodX (splitP l) (atX b L (k + 1)))
theorem goesX_no {l : List UInt8} {b : Bx} {L : List UInt8} {k : Nat} (hk : k < L.length) (h : goodX (splitP l) (atX b L (k + 1)) = false) : goesX l b L = false := by
  unfold goesX
  rw [List.all_eq_false]
  exact ⟨k, List.mem_range.2 hk, by rw [h]; simp⟩
theorem goesX_yes {l : List UInt8} {b : Bx} {L : List UInt8} (h : ∀ k, k < L.length → goodX (splitP l) (atX b L (k + 1)) = true) : goesX l b L = true := by
  unfold goesX
  rw [List.all_eq_true]
  exact fun k hk => h k (List.mem_range.1 hk)
/-- The boxes before and behind each of the first k rolls. -/
def waysX (b : Bx) (L : List UInt8) (k : Nat) : List Bx := (List.range (k + 1)).map (atX b L)
theorem waysX_zero (b : Bx) (L : List UInt8) : waysX b L 0 = [b] := rfl
theorem waysX_succ (b : Bx) (L : List UInt8) (k : Nat) : waysX b L (k + 1) = waysX b L k ++ [atX b L (k + 1)] := by
  unfold waysX
  rw [List.range_succ, List.map_append]
  rfl
theorem waysX_len (b : Bx) (L : List UInt8) (k : Nat) : (waysX b L k).length = k + 1 := by simp [waysX]
theorem waysX_get (b : Bx) (L : List UInt8) (k j : Nat) (h : j ≤ k) : (waysX b L k)[j]? = some (atX b L j) := by
  unfold waysX
  rw [List.getElem?_map, List.getElem?_range (by omega)]
  rfl
def cellsX (W : List Bx) : List Value := W.flatMap bxC
theorem cellsX_len (W : List Bx) : (cellsX W).length = W.length * 3 := by
  induction W with
  | nil => rfl
  | cons a W ih =>
    simp only [cellsX, List.flatMap_cons, List.length_append] at ih ⊢
    rw [ih]
    simp [bxC]
    omega
theorem cellsX_snoc (W : List Bx) (b : Bx) : cellsX (W ++ [b]) = cellsX W ++ bxC b := by simp [cellsX]
theorem bxC_one (b : Bx) : ∀ u ∈ bxC b, u.oneCell' = true := by
  intro u hu
  simp only [bxC, List.mem_cons, List.not_mem_nil, or_false] at hu
  rcases hu with rfl | rfl | rfl <;> rfl
theorem bxC_cell {w : World} {b : Nat} {x : Bx} {ty : TypeId} (h : IsX w b x ty) : ∀ (j : Nat) (u : Value), (bxC x)[j]? = some u → w.cell? ((⟨b, 0, none⟩ : Addr).add j) = some u := by
  intro j u hu
  obtain ⟨-, ⟨c0, c1, c2⟩, -⟩ := h.all
  match j, hu with
  | 0, hu => simp [bxC] at hu; subst hu; simpa [Addr.add] using c0
  | 1, hu => simp [bxC] at hu; subst hu; simpa [Addr.add] using c1
  | 2, hu => simp [bxC] at hu; subst hu; simpa [Addr.add] using c2
  | j + 3, hu => simp [bxC] at hu
theorem cellsX_get : ∀ (W : List Bx) (n : Nat) (p : Bx), W[n]? = some p → ∀ j, j < 3 → (cellsX W)[n * 3 + j]? = (bxC p)[j]?
  | [], _, _, h, _, _ => by simp at h
  | a :: W, 0, p, h, j, hj => by
    simp at h
    subst h
    simp only [cellsX, List.flatMap_cons]
    rw [List.getElem?_append_left (by simp [bxC]; omega)]
    simp
  | a :: W, n + 1, p, h, j, hj => by
    have ih := cellsX_get W n p (by simpa using h) j hj
    simp only [cellsX, List.flatMap_cons] at ih ⊢
    rw [List.getElem?_append_right (by simp [bxC]; omega), ← ih]
    congr 1
    simp [bxC]
    omega
theorem info_box : (Tryd.prog.info? 27).map (fun i => (i.zero, i.size, i.bytes)) = some (some (.agg #[.int .i64 0, .int .i64 0, .int .i64 0]), 3, 24) := by kernel_rfl
theorem rowX_cells {w : World} {B g k n cap : Nat} {W : List Bx} {u : Bx} (h : w.ownsRow B 27 3 (.slice (some ⟨g, 0, none⟩) n cap) n (cellsX W)) (hu : W[k]? = some u) :
    w.cell? ⟨g, k * 3, none⟩ = some (.int .i64 u.x) ∧ w.cell? ⟨g, k * 3 + 1, none⟩ = some (.int .i64 u.y) ∧ w.cell? ⟨g, k * 3 + 2, none⟩ = some (.int .i64 u.p) := by
  have hl := h.1
  rw [cellsX_len] at hl
  have hk : k < W.length := (List.getElem?_eq_some_iff.1 hu).1
  have hh : ∀ j x, j < 3 → (bxC u)[j]? = some x → w.cell? ⟨g, k * 3 + j, none⟩ = some x := fun j x hj hx => (h.cellAt (k * 3 + j) (by omega)).trans ((cellsX_get W k u hu j hj).trans hx)
  exact ⟨hh 0 _ (by omega) rfl, hh 1 _ (by omega) rfl, hh 2 _ (by omega) rfl⟩
theorem own_litX (w : World) (b : Bx) (B : Nat) (hB : B ≤ w.heap.size) : (w.alloc (.cells #[.int .i64 b.x, .int .i64 b.y, .int .i64 b.p] 27)).ownsRow B 27 3 (.slice (some ⟨w.heap.size, 0, none⟩) 1 1) 1 (cellsX [b]) := by
  have := World.ownsRow_lit (base := B) (e := 27) (size := 3) w #[.int .i64 b.x, .int .i64 b.y, .int .i64 b.p] 1 hB (by decide) rfl
  simpa [cellsX, bxC] using this
end Go.Proofs.YtoojoghgbmpbpaaDoor
