/- A grid's variable of the model of sixes; steps of its reader. -/
import Derived.Test.YtbfclnigjijkbaaOwnK
import Derived.Test.YtbfclnigjijkbaaNetM
import Derived.Test.YtbfclnigjijkbaaNetA
import Derived.Test.YtbfclnigjijkbaaWords
import Derived.Deep.RegionLaw
import Derived.Deep.DrawnRows
import Derived.OwnWalk
import Derived.Laws.IdiomStrings
namespace Go.Proofs.Ytbfclnigjijkbaa
set_option maxRecDepth 100000
set_option linter.all false
open Go.RowKit

/-- Block b is a grid's variable. -/
def IsGN (w : World) (b : Nat) (x y : Int) (v : Value) : Prop := w.heap[b]? = some (.cells #[.int .i64 x, .int .i64 y, v] 37 (0, 0))
theorem IsGN.lt {w : World} {b : Nat} {x y : Int} {v : Value} (h : IsGN w b x y v) : b < w.heap.size := by
  rcases Nat.lt_or_ge b w.heap.size with h' | h'
  · exact h'
  · simp [IsGN, Array.getElem?_eq_none h'] at h
theorem isGN_to {w w0 w1 : World} {b : Nat} {x y : Int} {v : Value} (hb : Below w0.heap.size w0 w1) (h : IsGN w b x y v) (e : w0.heap = w.heap) : IsGN w1 b x y v := by
  have hl := h.lt
  have := hb.block b (by rw [e]; exact hl)
  unfold IsGN at h ⊢
  rw [this, e]
  exact h
theorem IsGN.all {w : World} {b : Nat} {x y : Int} {v : Value} (h : IsGN w b x y v) : b < w.heap.size ∧ (w.cell? ⟨b, 0, none⟩ = some (.int .i64 x) ∧ w.cell? ⟨b, 1, none⟩ = some (.int .i64 y) ∧ w.cell? ⟨b, 2, none⟩ = some v) ∧
    w.frozen? ⟨b, 0, none⟩ = false ∧ w.frozen? ⟨b, 1, none⟩ = false ∧ w.frozen? ⟨b, 2, none⟩ = false := by
  refine ⟨h.lt, ?_⟩
  unfold IsGN at h
  simp [World.cell?, World.frozen?, h]
theorem IsGN.new {w : World} {x y : Int} {v : Value} : IsGN (w.alloc (.cells #[.int .i64 x, .int .i64 y, v] 37)) w.heap.size x y v := by
  show (w.heap.push _)[w.heap.size]? = _
  simp
theorem IsGN.alloc {w : World} {b : Nat} {x y : Int} {v : Value} (h : IsGN w b x y v) (o : Obj) : IsGN (w.alloc o) b x y v := (Below.heap_alloc w o b h.lt).trans h
theorem IsGN.other {w : World} {b : Nat} {x y : Int} {v : Value} (h : IsGN w b x y v) {p : Addr} (hp : b ≠ p.block) (u : Value) : IsGN (w.setCell p u) b x y v := (Below.heap_setCell w p u b hp).trans h
theorem IsGN.kept {w w1 : World} {b : Nat} {x y : Int} {v : Value} {row : Option Nat} (h : IsGN w b x y v) (hg : w.grownBy w1 row) (hne : some b ≠ row) : IsGN w1 b x y v := (hg.block b h.lt hne).trans h
theorem IsGN.set0 {w : World} {b : Nat} {x y : Int} {v : Value} (h : IsGN w b x y v) (u : Int) : IsGN (w.setCell ⟨b, 0, none⟩ (.int .i64 u)) b u y v := by
  have := cells_set h 0 (by simp) (.int .i64 u); simpa [IsGN] using this
theorem IsGN.set1 {w : World} {b : Nat} {x y : Int} {v : Value} (h : IsGN w b x y v) (u : Int) : IsGN (w.setCell ⟨b, 1, none⟩ (.int .i64 u)) b x u v := by
  have := cells_set h 1 (by simp) (.int .i64 u); simpa [IsGN] using this
theorem IsGN.set2 {w : World} {b : Nat} {x y : Int} {v : Value} (h : IsGN w b x y v) (u : Value) : IsGN (w.setCell ⟨b, 2, none⟩ u) b x y u := by
  have := cells_set h 2 (by simp) u; simpa [IsGN] using this
theorem IsGN.set3 {w : World} {b : Nat} {x y : Int} {v : Value} (h : IsGN w b x y v) (x' y' : Int) (v' : Value) : IsGN (((w.setCell ⟨b, 0, none⟩ (.int .i64 x')).setCell ⟨b, 1, none⟩ (.int .i64 y')).setCell ⟨b, 2, none⟩ v') b x' y' v' := ((h.set0 x').set1 y').set2 v'
theorem IsGN.load {w : World} {b : Nat} {x y : Int} {v : Value} (h : IsGN w b x y v) : (loadVar 37 ⟨b, 0, none⟩).run Try.prog w = .ok (.agg #[.int .i64 x, .int .i64 y, v]) w := by
  obtain ⟨_, ⟨c0, c1, c2⟩, _⟩ := h.all
  simp [go_sem, c0, c1, c2]
theorem ret_gridN {fn : Func} {p u : Tmp} {tmps : Array Value} {w : World} {b : Nat} {x y : Int} {v : Value} {ok : Bool} (h : fn.results = #[.cell p 37, .tmp u]) (hp : tmps.getD p undef = .pointer (some ⟨b, 0, none⟩)) (hu : tmps.getD u undef = .bool ok) (hd : IsGN w b x y v) :
    (results fn tmps).run Try.prog w = .ok (.tuple #[.agg #[.int .i64 x, .int .i64 y, v], .bool ok]) w := by
  rw [results_cell_tmp h, hp, hu]
  show ((loadVar 37 ⟨b, 0, none⟩).run Try.prog w).andThen _ = _
  rw [hd.load]
  rfl
theorem info_byteN : (Try.prog.info? 5).map (fun i => (i.zero, i.size, i.bytes)) = some (some (.int .u8 0), 1, 1) := by kernel_rfl

theorem below_set3N {B : Nat} {a w : World} {b : Nat} (h : Below B a w) (hb : B ≤ b) (u0 u1 u2 : Value) : Below B a (((w.setCell ⟨b, 0, none⟩ u0).setCell ⟨b, 1, none⟩ u1).setCell ⟨b, 2, none⟩ u2) := h |>.setCell hb _ |>.setCell hb _ |>.setCell hb _

/-- The text with its end's mark. -/
def markLN (s : ByteArray) : List UInt8 := s.data.toList ++ [47]
theorem markLN_len (s : ByteArray) : (markLN s).length = s.size + 1 := by simp [markLN]
theorem markLN_in (s : ByteArray) (k : Nat) (h : k < s.size) : (markLN s)[k]? = some s[k] := by
  unfold markLN
  rw [List.getElem?_append_left (by simpa using h)]
  simp [ByteArray.getElem_eq_getElem_data, h]
theorem markLN_end (s : ByteArray) : (markLN s)[s.size]? = some 47 := by
  unfold markLN
  rw [List.getElem?_append_right (by simp)]
  simp

theorem step_badN {m : MachN} (h : (0 < m.h ∧ m.x ≠ m.w) ∨ m.x = 0) : m.step 47 = none := by
  unfold MachN.step; rw [if_pos rfl, if_pos h]
theorem step_endN {m : MachN} (h : ¬ ((0 < m.h ∧ m.x ≠ m.w) ∨ m.x = 0)) : m.step 47 = some ⟨m.x, m.h + 1, 0, m.cells⟩ := by
  unfold MachN.step; rw [if_pos rfl, if_neg h]
theorem step_signN {m : MachN} {c : UInt8} (h : ¬ (c.toNat : Int) = 47) (ho : okN c = true) : m.step c = some ⟨m.w, m.h, m.x + 1, m.cells ++ [c]⟩ := by
  unfold MachN.step; rw [if_neg (fun e => h (by rw [e]; rfl)), if_pos ho]
theorem step_oddN {m : MachN} {c : UInt8} (h : ¬ (c.toNat : Int) = 47) (ho : okN c = false) : m.step c = none := by
  unfold MachN.step; rw [if_neg (fun e => h (by rw [e]; rfl)), if_neg (by rw [ho]; simp)]
end Go.Proofs.Ytbfclnigjijkbaa
