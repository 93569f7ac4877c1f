/- The walk of the law of DieText. -/
import Derived.Test.YtjikpkembcnfnaaGood
import Derived.Test.YtjikpkembcnfnaaFaces
import Derived.Test.YtjikpkembcnfnaaWords
import Derived.Test.YtjikpkembcnfnaaState
import Derived.Laws.IdiomStrings
namespace Go.Proofs.Ytjikpkembcnfnaa
set_option maxRecDepth 100000
set_option linter.all false
open Go.RowKit

/-- A digit's byte. -/
def dgD (x : Int) : UInt8 := UInt8.ofNat (48 + x.toNat)
theorem dgD_nat {x : Int} (h0 : 0 ≤ x) (h9 : x ≤ 9) : ((dgD x).toNat : Int) = 48 + x := by
  unfold dgD
  rw [UInt8.toNat_ofNat']
  omega
/-- A die's text. -/
def dText (d : D) : List UInt8 := [dgD d.t, dgD d.n, dgD d.e, dgD d.s, dgD d.w, dgD d.b]

theorem good_bounds {d : D} (h : goodB d = true) : (0 ≤ d.t ∧ d.t ≤ 9) ∧ (0 ≤ d.n ∧ d.n ≤ 9) ∧ (0 ≤ d.e ∧ d.e ≤ 9) ∧ (0 ≤ d.s ∧ d.s ≤ 9) ∧ (0 ≤ d.w ∧ d.w ≤ 9) ∧ (0 ≤ d.b ∧ d.b ≤ 9) := by
  unfold goodB at h
  have := of_decide_eq_true h
  omega

/-- Block b of w is an array of six bytes. -/
def IsU (w : World) (b : Nat) (d : D) (ty : TypeId) : Prop := w.heap[b]? = some (.cells #[.int .u8 d.t, .int .u8 d.n, .int .u8 d.e, .int .u8 d.s, .int .u8 d.w, .int .u8 d.b] ty (0, 0))
theorem IsU.lt {w : World} {b : Nat} {d : D} {ty : TypeId} (h : IsU w b d ty) : b < w.heap.size := by
  rcases Nat.lt_or_ge b w.heap.size with h' | h'
  · exact h'
  · simp [IsU, Array.getElem?_eq_none h'] at h
theorem isU_to {w w0 w1 : World} {b : Nat} {d : D} {ty : TypeId} (hb : Below w0.heap.size w0 w1) (h : IsU w b d ty) (e : w0.heap = w.heap) : IsU w1 b d ty := by
  have hl := h.lt
  have := hb.block b (by rw [e]; exact hl)
  unfold IsU at h ⊢
  rw [this, e]
  exact h
theorem IsU.new {w : World} {d : D} {ty : TypeId} : IsU (w.alloc (.cells #[.int .u8 d.t, .int .u8 d.n, .int .u8 d.e, .int .u8 d.s, .int .u8 d.w, .int .u8 d.b] ty)) w.heap.size d ty := by
  show (w.heap.push _)[w.heap.size]? = _
  simp
theorem IsU.all {w : World} {b : Nat} {d : D} {ty : TypeId} (h : IsU w b d ty) : b < w.heap.size ∧
    (w.cell? ⟨b, 0, none⟩ = some (.int .u8 d.t) ∧ w.cell? ⟨b, 1, none⟩ = some (.int .u8 d.n) ∧ w.cell? ⟨b, 2, none⟩ = some (.int .u8 d.e) ∧ w.cell? ⟨b, 3, none⟩ = some (.int .u8 d.s) ∧ w.cell? ⟨b, 4, none⟩ = some (.int .u8 d.w) ∧ w.cell? ⟨b, 5, none⟩ = some (.int .u8 d.b)) ∧
    w.frozen? ⟨b, 0, none⟩ = false ∧ w.frozen? ⟨b, 1, none⟩ = false ∧ w.frozen? ⟨b, 2, none⟩ = false ∧ w.frozen? ⟨b, 3, none⟩ = false ∧ w.frozen? ⟨b, 4, none⟩ = false ∧ w.frozen? ⟨b, 5, none⟩ = false := by
  refine ⟨h.lt, ?_⟩
  unfold IsU at h
  simp [World.cell?, World.frozen?, h]
theorem IsU.set6 {w : World} {b : Nat} {d : D} {ty : TypeId} (h : IsU w b d ty) (e : D) : IsU ((((((w.setCell ⟨b, 0, none⟩ (.int .u8 e.t)).setCell ⟨b, 1, none⟩ (.int .u8 e.n)).setCell ⟨b, 2, none⟩ (.int .u8 e.e)).setCell ⟨b, 3, none⟩ (.int .u8 e.s)).setCell ⟨b, 4, none⟩ (.int .u8 e.w)).setCell ⟨b, 5, none⟩ (.int .u8 e.b)) b e ty := by
  have h1 := cells_set h 0 (by simp) (.int .u8 e.t)
  have h2 := cells_set h1 1 (by simp) (.int .u8 e.n)
  have h3 := cells_set h2 2 (by simp) (.int .u8 e.e)
  have h4 := cells_set h3 3 (by simp) (.int .u8 e.s)
  have h5 := cells_set h4 4 (by simp) (.int .u8 e.w)
  have h6 := cells_set h5 5 (by simp) (.int .u8 e.b)
  simpa [IsU] using h6
end Go.Proofs.Ytjikpkembcnfnaa
