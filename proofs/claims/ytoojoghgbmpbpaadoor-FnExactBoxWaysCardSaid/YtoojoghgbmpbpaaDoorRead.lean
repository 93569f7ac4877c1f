/- The contract of the model's reading of boards. Condition: at most 1048576 bytes. -/
import Derived.Test.YtoojoghgbmpbpaaDoorOwnK
import Derived.Test.YtoojoghgbmpbpaaDoorRowsOf
import Derived.Test.YtoojoghgbmpbpaaDoorWords
import Derived.Deep.RegionLaw
import Derived.Deep.DrawnRows
import Derived.OwnWalk
import Derived.Laws.IdiomStrings
namespace Go.Proofs.YtoojoghgbmpbpaaDoor
set_option maxRecDepth 100000
set_option linter.all false
open Go.RowKit
attribute [local go_sem ↓] Go.wp_at_zero Go.wp_at_succ

/-- Block b is a grid's variable. -/
def IsG (w : World) (b : Nat) (x y : Int) (v : Value) : Prop := w.heap[b]? = some (.cells #[.int .i64 x, .int .i64 y, v] 44 (0, 0))
theorem IsG.lt {w : World} {b : Nat} {x y : Int} {v : Value} (h : IsG w b x y v) : b < w.heap.size := by
  rcases Nat.lt_or_ge b w.heap.size with h' | h'
  · exact h'
  · simp [IsG, Array.getElem?_eq_none h'] at h
theorem isG_to {w w0 w1 : World} {b : Nat} {x y : Int} {v : Value} (hb : Below w0.heap.size w0 w1) (h : IsG w b x y v) (e : w0.heap = w.heap) : IsG w1 b x y v := by
  have hl := h.lt
  have := hb.block b (by rw [e]; exact hl)
  unfold IsG at h ⊢
  rw [this, e]
  exact h
theorem IsG.all {w : World} {b : Nat} {x y : Int} {v : Value} (h : IsG w b x y v) : b < w.heap.size ∧ (w.cell? ⟨b, 0, none⟩ = some (.int .i64 x) ∧ w.cell? ⟨b, 1, none⟩ = some (.int .i64 y) ∧ w.cell? ⟨b, 2, none⟩ = some v) ∧
    w.frozen? ⟨b, 0, none⟩ = false ∧ w.frozen? ⟨b, 1, none⟩ = false ∧ w.frozen? ⟨b, 2, none⟩ = false := by
  refine ⟨h.lt, ?_⟩
  unfold IsG at h
  simp [World.cell?, World.frozen?, h]
theorem IsG.new {w : World} {x y : Int} {v : Value} : IsG (w.alloc (.cells #[.int .i64 x, .int .i64 y, v] 44)) w.heap.size x y v := by
  show (w.heap.push _)[w.heap.size]? = _
  simp
theorem IsG.alloc {w : World} {b : Nat} {x y : Int} {v : Value} (h : IsG w b x y v) (o : Obj) : IsG (w.alloc o) b x y v := (Below.heap_alloc w o b h.lt).trans h
theorem IsG.other {w : World} {b : Nat} {x y : Int} {v : Value} (h : IsG w b x y v) {p : Addr} (hp : b ≠ p.block) (u : Value) : IsG (w.setCell p u) b x y v := (Below.heap_setCell w p u b hp).trans h
theorem IsG.kept {w w1 : World} {b : Nat} {x y : Int} {v : Value} {row : Option Nat} (h : IsG w b x y v) (hg : w.grownBy w1 row) (hne : some b ≠ row) : IsG w1 b x y v := (hg.block b h.lt hne).trans h
theorem IsG.set0 {w : World} {b : Nat} {x y : Int} {v : Value} (h : IsG w b x y v) (u : Int) : IsG (w.setCell ⟨b, 0, none⟩ (.int .i64 u)) b u y v := by
  have := cells_set h 0 (by simp) (.int .i64 u); simpa [IsG] using this
theorem IsG.set1 {w : World} {b : Nat} {x y : Int} {v : Value} (h : IsG w b x y v) (u : Int) : IsG (w.setCell ⟨b, 1, none⟩ (.int .i64 u)) b x u v := by
  have := cells_set h 1 (by simp) (.int .i64 u); simpa [IsG] using this
theorem IsG.set2 {w : World} {b : Nat} {x y : Int} {v : Value} (h : IsG w b x y v) (u : Value) : IsG (w.setCell ⟨b, 2, none⟩ u) b x y u := by
  have := cells_set h 2 (by simp) u; simpa [IsG] using this
theorem IsG.set3 {w : World} {b : Nat} {x y : Int} {v : Value} (h : IsG w b x y v) (x' y' : Int) (v' : Value) : IsG (((w.setCell ⟨b, 0, none⟩ (.int .i64 x')).setCell ⟨b, 1, none⟩ (.int .i64 y')).setCell ⟨b, 2, none⟩ v') b x' y' v' := ((h.set0 x').set1 y').set2 v'
theorem IsG.load {w : World} {b : Nat} {x y : Int} {v : Value} (h : IsG w b x y v) : (loadVar 44 ⟨b, 0, none⟩).run Tryd.prog w = .ok (.agg #[.int .i64 x, .int .i64 y, v]) w := by
  obtain ⟨_, ⟨c0, c1, c2⟩, _⟩ := h.all
  simp [go_sem, c0, c1, c2]
theorem ret_grid2 {fn : Func} {p u : Tmp} {tmps : Array Value} {w : World} {b : Nat} {x y : Int} {v : Value} {ok : Bool} (h : fn.results = #[.cell p 44, .tmp u]) (hp : tmps.getD p undef = .pointer (some ⟨b, 0, none⟩)) (hu : tmps.getD u undef = .bool ok) (hd : IsG w b x y v) :
    (results fn tmps).run Tryd.prog w = .ok (.tuple #[.agg #[.int .i64 x, .int .i64 y, v], .bool ok]) w := by
  rw [results_cell_tmp h, hp, hu]
  show ((loadVar 44 ⟨b, 0, none⟩).run Tryd.prog w).andThen _ = _
  rw [hd.load]
  rfl
theorem info_byte : (Tryd.prog.info? 5).map (fun i => (i.zero, i.size, i.bytes)) = some (some (.int .u8 0), 1, 1) := by kernel_rfl

/-- What boRead hands back. -/
def ReadPost (s : ByteArray) (w : World) (e : Ending) (w' : World) : Prop :=
  (isBd s.data.toList = true ∧ ∃ v, e = .returned (.tuple #[.agg #[.int .i64 (width s.data.toList : Int), .int .i64 ((splitP s.data.toList).length : Int), v], .bool true]) ∧ w'.ownsRow w.heap.size 5 1 v (splitP s.data.toList).flatten.length (bytesV (splitP s.data.toList).flatten) ∧ Below w.heap.size w w') ∨
  (isBd s.data.toList = false ∧ e = .returned (.tuple #[.agg #[.int .i64 0, .int .i64 0, .slice none 0 0], .bool false]) ∧ Below w.heap.size w w')

/-- What holds at each head of the loop. -/
def ReadI (w wr : World) (m : Mach) (v : Value) : Prop :=
  IsG wr w.heap.size 0 0 (.slice none 0 0) ∧ IsG wr (w.heap.size + 1) m.w m.h v ∧ wr.ownsRow (w.heap.size + 2) 5 1 v m.cells.length (bytesV m.cells) ∧ Below w.heap.size w wr
theorem below_set3 {B : Nat} {a w : World} {b : Nat} (h : Below B a w) (hb : B ≤ b) (u0 u1 u2 : Value) : Below B a (((w.setCell ⟨b, 0, none⟩ u0).setCell ⟨b, 1, none⟩ u1).setCell ⟨b, 2, none⟩ u2) := h |>.setCell hb _ |>.setCell hb _ |>.setCell hb _

theorem readPost_no {s : ByteArray} {w w' : World} {e : Ending} (h : isBd s.data.toList = false) (he : e = .returned (.tuple #[.agg #[.int .i64 0, .int .i64 0, .slice none 0 0], .bool false])) (hb : Below w.heap.size w w') : ReadPost s w e w' := .inr ⟨h, he, hb⟩

/-- The text with its end's mark. -/
def markL (s : ByteArray) : List UInt8 := s.data.toList ++ [47]
theorem markL_len (s : ByteArray) : (markL s).length = s.size + 1 := by simp [markL]
theorem markL_in (s : ByteArray) (k : Nat) (h : k < s.size) : (markL s)[k]? = some s[k] := by
  unfold markL
  rw [List.getElem?_append_left (by simpa using h)]
  simp [ByteArray.getElem_eq_getElem_data, h]
theorem markL_end (s : ByteArray) : (markL s)[s.size]? = some 47 := by
  unfold markL
  rw [List.getElem?_append_right (by simp)]
  simp

theorem step_bad {m : Mach} (h : (0 < m.h ∧ m.x ≠ m.w) ∨ m.x = 0) : m.step 47 = none := by
  unfold Mach.step; rw [if_pos rfl, if_pos h]
theorem step_end {m : Mach} (h : ¬ ((0 < m.h ∧ m.x ≠ m.w) ∨ m.x = 0)) : m.step 47 = some ⟨m.x, m.h + 1, 0, m.cells⟩ := by
  unfold Mach.step; rw [if_pos rfl, if_neg h]
theorem step_sign {m : Mach} {c : UInt8} (h : ¬ (c.toNat : Int) = 47) (ho : okC c = true) : m.step c = some ⟨m.w, m.h, m.x + 1, m.cells ++ [c]⟩ := by
  unfold Mach.step; rw [if_neg (fun e => h (by rw [e]; rfl)), if_pos ho]
theorem step_odd {m : Mach} {c : UInt8} (h : ¬ (c.toNat : Int) = 47) (ho : okC c = false) : m.step c = none := by
  unfold Mach.step; rw [if_neg (fun e => h (by rw [e]; rfl)), if_neg (by rw [ho]; simp)]
theorem read_end {s : ByteArray} {m : Mach} (h : mach0.run (markL s) = some m) : 1 ≤ m.w ∧ 0 < m.cells.length ∧ m.w = width s.data.toList ∧ m.h = (splitP s.data.toList).length ∧ m.cells = (splitP s.data.toList).flatten := by
  unfold markL at h
  rw [read_rows] at h
  split at h
  · rename_i hc
    have hm : m = ⟨width s.data.toList, (splitP s.data.toList).length, 0, (splitP s.data.toList).flatten⟩ := (Option.some.inj h).symm
    subst hm
    refine ⟨hc.1, ?_, rfl, rfl, rfl⟩
    show 0 < (splitP s.data.toList).flatten.length
    rw [flat_len _ _ hc.2]
    have h1 : 0 < (splitP s.data.toList).length := List.length_pos_iff.2 (splitP_ne _)
    exact Nat.mul_pos hc.1 h1
  · cases h

end Go.Proofs.YtoojoghgbmpbpaaDoor
