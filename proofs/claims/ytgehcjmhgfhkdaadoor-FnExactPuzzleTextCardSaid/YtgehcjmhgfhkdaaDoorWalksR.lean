/- The walk of the law of DieText. -/
import Derived.Test.YtgehcjmhgfhkdaaDoorGood
import Derived.Test.YtgehcjmhgfhkdaaDoorFaces
import Derived.Test.YtgehcjmhgfhkdaaDoorWords
import Derived.Test.YtgehcjmhgfhkdaaDoorState
import Derived.Laws.IdiomStrings
namespace Go.Proofs.YtgehcjmhgfhkdaaDoor
set_option maxRecDepth 100000
set_option linter.all false
open Go.RowKit

/-- A digit's byte. -/
def dgD (x : Int) : UInt8 := UInt8.ofNat (48 + x.toNat)
theorem dgD_nat {x : Int} (h0 : 0 ≤ x) (h9 : x ≤ 9) : ((dgD x).toNat : Int) = 48 + x := by
  unfold dgD
  rw [UInt8.toNat_ofNat']
  omega
/-- A die's text. -/
def dText (d : D) : List UInt8 := [dgD d.t, dgD d.n, dgD d.e, dgD d.s, dgD d.w, dgD d.b]

set_option maxHeartbeats 400000 in
theorem l1Num_small (x : Int) (h0 : 0 ≤ x) (h9 : x ≤ 9) (w : World) : Calls Tryd.prog 70 #[.int .i64 x] w fun e w' => e = .returned (.string ⟨#[dgD x]⟩) ∧ w.alloc (.cells #[.int .u8 (48 + x)] 5) = w' := by
  have hcv : (convert 75 9 (.slice (some ⟨w.heap.size, 0, none⟩) 1 1)).run Tryd.prog (w.alloc (.cells #[.int .u8 (48 + x)] 5)) = .ok (.string ⟨#[dgD x]⟩) (w.alloc (.cells #[.int .u8 (48 + x)] 5)) := by
    refine run_convert_bytes_back _ _ _ 5 _ 1 [dgD x] Tryd.underlying75 Tryd.underlying5 Tryd.underlying9 (fun j hj => ?_)
    have : j = 0 := by simp at hj; exact hj
    subst this
    rw [show ((⟨w.heap.size, 0, none⟩ : Addr).add 0) = ⟨w.heap.size, 0, none⟩ from rfl, World.cell?_alloc_mark]
    simp [dgD_nat h0 h9]
  have hlt : x < 10 := by omega
  go_enter Tryd.func70, Tryd.ntmps70
  go_wp2
  go_returns
  exact ⟨rfl, rfl⟩

theorem good_bounds {d : D} (h : goodB d = true) : (0 ≤ d.t ∧ d.t ≤ 9) ∧ (0 ≤ d.n ∧ d.n ≤ 9) ∧ (0 ≤ d.e ∧ d.e ≤ 9) ∧ (0 ≤ d.s ∧ d.s ≤ 9) ∧ (0 ≤ d.w ∧ d.w ≤ 9) ∧ (0 ≤ d.b ∧ d.b ≤ 9) := by
  unfold goodB at h
  have := of_decide_eq_true h
  omega

set_option maxHeartbeats 2000000 in
theorem diText_any (d : D) (w : World) (h : goodB d = true) : Calls Tryd.prog 41 #[D.v d] w fun e w' => e = .returned (.string ⟨(dText d).toArray⟩) ∧ Below w.heap.size w w' := by
  obtain ⟨⟨t0, t1⟩, ⟨n0, n1⟩, ⟨e0, e1⟩, ⟨s0, s1⟩, ⟨w0, w1⟩, b0, b1⟩ := good_bounds h
  clear h
  go_enter Tryd.func41, Tryd.ntmps41
  go_wp2_with (first | (go_at_call 69; refine (diFaces_any _ _).mono ?_; rintro e w' ⟨rfl, rfl⟩) | (go_at_call 70; refine (l1Num_small _ (by omega) (by omega) _).mono ?_; rintro e w' ⟨rfl, rfl⟩))
  refine wp_loop_rounds 7 ?_
  repeat any_goals (rw [rounds_succ]; go_wp2_with (go_at_call 70; refine (l1Num_small _ (by omega) (by omega) _).mono ?_; rintro e w' ⟨rfl, rfl⟩))
  go_returns
  exact ⟨by rfl, by go_grown⟩

/-- Block b of w is an array of six bytes. -/
def IsU (w : World) (b : Nat) (d : D) (ty : TypeId) : Prop := w.heap[b]? = some (.cells #[.int .u8 d.t, .int .u8 d.n, .int .u8 d.e, .int .u8 d.s, .int .u8 d.w, .int .u8 d.b] ty (0, 0))
theorem IsU.lt {w : World} {b : Nat} {d : D} {ty : TypeId} (h : IsU w b d ty) : b < w.heap.size := by
  rcases Nat.lt_or_ge b w.heap.size with h' | h'
  · exact h'
  · simp [IsU, Array.getElem?_eq_none h'] at h
theorem isU_to {w w0 w1 : World} {b : Nat} {d : D} {ty : TypeId} (hb : Below w0.heap.size w0 w1) (h : IsU w b d ty) (e : w0.heap = w.heap) : IsU w1 b d ty := by
  have hl := h.lt
  have := hb.block b (by rw [e]; exact hl)
  unfold IsU at h ⊢
  rw [this, e]
  exact h
theorem IsU.new {w : World} {d : D} {ty : TypeId} : IsU (w.alloc (.cells #[.int .u8 d.t, .int .u8 d.n, .int .u8 d.e, .int .u8 d.s, .int .u8 d.w, .int .u8 d.b] ty)) w.heap.size d ty := by
  show (w.heap.push _)[w.heap.size]? = _
  simp
theorem IsU.all {w : World} {b : Nat} {d : D} {ty : TypeId} (h : IsU w b d ty) : b < w.heap.size ∧
    (w.cell? ⟨b, 0, none⟩ = some (.int .u8 d.t) ∧ w.cell? ⟨b, 1, none⟩ = some (.int .u8 d.n) ∧ w.cell? ⟨b, 2, none⟩ = some (.int .u8 d.e) ∧ w.cell? ⟨b, 3, none⟩ = some (.int .u8 d.s) ∧ w.cell? ⟨b, 4, none⟩ = some (.int .u8 d.w) ∧ w.cell? ⟨b, 5, none⟩ = some (.int .u8 d.b)) ∧
    w.frozen? ⟨b, 0, none⟩ = false ∧ w.frozen? ⟨b, 1, none⟩ = false ∧ w.frozen? ⟨b, 2, none⟩ = false ∧ w.frozen? ⟨b, 3, none⟩ = false ∧ w.frozen? ⟨b, 4, none⟩ = false ∧ w.frozen? ⟨b, 5, none⟩ = false := by
  refine ⟨h.lt, ?_⟩
  unfold IsU at h
  simp [World.cell?, World.frozen?, h]
theorem IsU.set6 {w : World} {b : Nat} {d : D} {ty : TypeId} (h : IsU w b d ty) (e : D) : IsU ((((((w.setCell ⟨b, 0, none⟩ (.int .u8 e.t)).setCell ⟨b, 1, none⟩ (.int .u8 e.n)).setCell ⟨b, 2, none⟩ (.int .u8 e.e)).setCell ⟨b, 3, none⟩ (.int .u8 e.s)).setCell ⟨b, 4, none⟩ (.int .u8 e.w)).setCell ⟨b, 5, none⟩ (.int .u8 e.b)) b e ty := by
  have h1 := cells_set h 0 (by simp) (.int .u8 e.t)
  have h2 := cells_set h1 1 (by simp) (.int .u8 e.n)
  have h3 := cells_set h2 2 (by simp) (.int .u8 e.e)
  have h4 := cells_set h3 3 (by simp) (.int .u8 e.s)
  have h5 := cells_set h4 4 (by simp) (.int .u8 e.w)
  have h6 := cells_set h5 5 (by simp) (.int .u8 e.b)
  simpa [IsU] using h6
/-- The text of six bytes. -/
theorem text_of {w : World} {b : Nat} {d : D} {ty : TypeId} (h : IsU w b ⟨48 + d.t, 48 + d.n, 48 + d.e, 48 + d.s, 48 + d.w, 48 + d.b⟩ ty) (hd : goodB d = true) :
    (convert 75 9 (.slice (some ⟨b, 0, none⟩) 6 6)).run Tryd.prog w = .ok (.string ⟨(dText d).toArray⟩) w := by
  obtain ⟨⟨t0, t1⟩, ⟨n0, n1⟩, ⟨e0, e1⟩, ⟨s0, s1⟩, ⟨w0, w1⟩, b0, b1⟩ := good_bounds hd
  obtain ⟨_, ⟨c0, c1, c2, c3, c4, c5⟩, _⟩ := h.all
  refine run_convert_bytes_back w _ _ 5 ⟨b, 0, none⟩ 6 (dText d) Tryd.underlying75 Tryd.underlying5 Tryd.underlying9 (fun j hj => ?_)
  have hj6 : j < 6 := hj
  have hadd : (⟨b, 0, none⟩ : Addr).add j = ⟨b, j, none⟩ := by unfold Addr.add; split <;> simp_all
  rw [hadd]
  match j, hj6 with
  | 0, _ => rw [c0]; simp [dText, dgD_nat t0 t1]
  | 1, _ => rw [c1]; simp [dText, dgD_nat n0 n1]
  | 2, _ => rw [c2]; simp [dText, dgD_nat e0 e1]
  | 3, _ => rw [c3]; simp [dText, dgD_nat s0 s1]
  | 4, _ => rw [c4]; simp [dText, dgD_nat w0 w1]
  | 5, _ => rw [c5]; simp [dText, dgD_nat b0 b1]

set_option maxHeartbeats 2000000 in
theorem implDieText_any (d : D) (w : World) : Calls Tryd.prog 43 #[D.v d] w fun e w' => e = .returned (.tuple #[.string (if goodB d = true then ⟨(dText d).toArray⟩ else ⟨#[]⟩), .bool (goodB d)]) ∧ Below w.heap.size w w' := by
  cases h : goodB d
  · have H := hide h
    clear h
    go_enter Tryd.func43, Tryd.ntmps43
    go_wp2_with fail
    refine (isDie_any d _).mono ?_
    rintro e w1 ⟨rfl, hb1⟩
    rw [H.out]
    have q1 : Below w.heap.size w w1 := below_after (by go_grown) hb1 (by simp)
    clear hb1
    go_wp2
    go_returns
    exact ⟨rfl, q1⟩
  · have H := hide h
    obtain ⟨⟨t0, t1⟩, ⟨n0, n1⟩, ⟨e0, e1⟩, ⟨s0, s1⟩, ⟨w0, w1⟩, b0, b1⟩ := good_bounds h
    have D0 := hide (dgD_nat t0 t1)
    have D1 := hide (dgD_nat n0 n1)
    have D2 := hide (dgD_nat e0 e1)
    have D3 := hide (dgD_nat s0 s1)
    have D4 := hide (dgD_nat w0 w1)
    have D5 := hide (dgD_nat b0 b1)
    clear h
    rw [if_pos rfl]
    have i0 : ∀ w : World, (Instr.index 107 (D.v d) (.int .i64 0)).run Tryd.prog w = .ok (.int .i64 d.t) w := fun _ => by kernel_rfl
    have i1 : ∀ w : World, (Instr.index 107 (D.v d) (.int .i64 1)).run Tryd.prog w = .ok (.int .i64 d.n) w := fun _ => by kernel_rfl
    have i2 : ∀ w : World, (Instr.index 107 (D.v d) (.int .i64 2)).run Tryd.prog w = .ok (.int .i64 d.e) w := fun _ => by kernel_rfl
    have i3 : ∀ w : World, (Instr.index 107 (D.v d) (.int .i64 3)).run Tryd.prog w = .ok (.int .i64 d.s) w := fun _ => by kernel_rfl
    have i4 : ∀ w : World, (Instr.index 107 (D.v d) (.int .i64 4)).run Tryd.prog w = .ok (.int .i64 d.w) w := fun _ => by kernel_rfl
    have i5 : ∀ w : World, (Instr.index 107 (D.v d) (.int .i64 5)).run Tryd.prog w = .ok (.int .i64 d.b) w := fun _ => by kernel_rfl
    go_enter Tryd.func43, Tryd.ntmps43
    go_wp2_with fail
    refine (isDie_any d _).mono ?_
    rintro e w2 ⟨rfl, hb1⟩
    rw [H.out]
    have g1 := isD_to hb1 (IsD.new (w := w) (d := d)) rfl
    have q1 : Below w.heap.size w w2 := below_after (by go_grown) hb1 (by simp)
    clear hb1
    obtain ⟨l1, ⟨c0, c1, c2, c3, c4, c5⟩, -⟩ := g1.all
    go_wp2_with fail
    clear c0 c1 c2 c3 c4 c5 l1
    refine (facesOf_any d _).mono ?_
    rintro e w3 ⟨rfl, hb3⟩
    have U3 := isU_to hb3 (IsU.new (w := w2) (d := ⟨0, 0, 0, 0, 0, 0⟩) (ty := 106)) rfl
    have q3 : Below w.heap.size w w3 := below_to hb3 (q1.alloc q1.size (.cells #[.int .u8 0, .int .u8 0, .int .u8 0, .int .u8 0, .int .u8 0, .int .u8 0] 106)) (by have := q1.size; simp; omega) rfl rfl rfl rfl
    have hz := q1.size
    generalize w2.heap.size = B at U3 hz ⊢
    have HC := text_of (d := d) (U3.set6 ⟨48 + d.t, 48 + d.n, 48 + d.e, 48 + d.s, 48 + d.w, 48 + d.b⟩) H.out
    obtain ⟨l3, ⟨c0, c1, c2, c3, c4, c5⟩, f0, f1, f2, f3, f4, f5⟩ := U3.all
    clear hb3 q1 g1 U3
    generalize hx : (⟨(dText d).toArray⟩ : ByteArray) = x at HC
    have HX := hide hx
    clear hx
    go_wp2
    go_rounds 7
    go_returns
    exact ⟨by rw [HX.out]; rfl, q3 |>.setCell hz _ |>.setCell hz _ |>.setCell hz _ |>.setCell hz _ |>.setCell hz _ |>.setCell hz _⟩

end Go.Proofs.YtgehcjmhgfhkdaaDoor
