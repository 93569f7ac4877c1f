/- The contracts of the program's reading of boards: rows, cells. Condition: at most 1048576 bytes; the library's variable MaxLen holds an integer. -/
import Derived.Test.YtnncehifmaaeiaaDoorBuf
import Derived.Test.YtnncehifmaaeiaaDoorBase
import Derived.Test.YtnncehifmaaeiaaDoorState
import Derived.Test.YtnncehifmaaeiaaDoorBoard
import Derived.Test.YtnncehifmaaeiaaDoorShelf
import Derived.Test.YtnncehifmaaeiaaDoorWord
import Derived.Test.YtnncehifmaaeiaaDoorGnd
import Derived.StillTailTactics
import Derived.Deep.QuietTactic
import Derived.BigQuiet
namespace Go.Proofs.YtnncehifmaaeiaaDoor
set_option maxRecDepth 100000
set_option linter.all false
open Go.RowKit

/-- The library's variable internal/bytealg.MaxLen holds an integer. -/
def Glob (w : World) : Prop := ∃ m : Int, w.cell? ⟨0, 0, none⟩ = some (.int .i64 m)
theorem Glob.lt {w : World} (h : Glob w) : 0 < w.heap.size := by
  obtain ⟨m, hm⟩ := h
  exact World.block_lt_of_cell? w _ hm
theorem glob_to {w w0 w1 : World} (hb : Below w0.heap.size w0 w1) (h : Glob w) (e : w0.heap = w.heap) : Glob w1 := by
  have hl := h.lt
  obtain ⟨m, hm⟩ := h
  refine ⟨m, ?_⟩
  have h1 := hb.cell (p := ⟨0, 0, none⟩) (by rw [e]; exact hl)
  rw [h1]
  have h2 : w0.heap[(⟨0, 0, none⟩ : Addr).block]? = w.heap[(⟨0, 0, none⟩ : Addr).block]? := by rw [e]
  rw [World.cell?_of_block h2]
  exact hm

/-- The rows of a text, as the library cuts them. -/
def rowsB (s : ByteArray) : List ByteArray := Lib.splitB ⟨#[47]⟩ 0 (Lib.countB s ⟨#[47]⟩) s
theorem rowsB_len (s : ByteArray) : (rowsB s).length = Lib.countB s ⟨#[47]⟩ + 1 := Lib.splitB_all ⟨#[47]⟩ (by decide) 0 _ s rfl
theorem rowsB_data (s : ByteArray) : (rowsB s).map (·.data.toList) = splitP s.data.toList := by
  unfold rowsB
  rw [Lib.splitB_data]
  exact splitK_P _ _ (Nat.le_refl _)
/-- Block g holds the rows. -/
def RowsAt (w : World) (g : Nat) (rs : List ByteArray) : Prop := w.heap[g]? = some (.cells (rs.map Value.string).toArray 9 (0, 0))
theorem RowsAt.lt {w : World} {g : Nat} {rs : List ByteArray} (h : RowsAt w g rs) : g < w.heap.size := by
  rcases Nat.lt_or_ge g w.heap.size with h' | h'
  · exact h'
  · simp [RowsAt, Array.getElem?_eq_none h'] at h
theorem rowsAt_to {w w0 w1 : World} {g : Nat} {rs : List ByteArray} (hb : Below w0.heap.size w0 w1) (h : RowsAt w g rs) (e : w0.heap = w.heap) : RowsAt w1 g rs := by
  have hl := h.lt
  have := hb.block g (by rw [e]; exact hl)
  unfold RowsAt at h ⊢
  rw [this, e]
  exact h
theorem RowsAt.cell {w : World} {g : Nat} {rs : List ByteArray} (h : RowsAt w g rs) {k : Nat} {r : ByteArray} (hr : rs[k]? = some r) : w.cell? ⟨g, k, none⟩ = some (.string r) := by
  unfold RowsAt at h
  simp [World.cell?, h, hr]
theorem split_any (s : ByteArray) (w : World) (hs : s.size ≤ 1048576) (hg : Glob w) :
    Calls Tryd.prog 58 #[.string s, .string ⟨#[47]⟩] w fun e w' => e = .returned (.slice (some ⟨w.heap.size, 0, none⟩) (rowsB s).length (rowsB s).length) ∧ RowsAt w' w.heap.size (rowsB s) ∧ Below w.heap.size w w' := by
  obtain ⟨m, hm⟩ := hg
  refine (Tryd.strings_Split s ⟨#[47]⟩ m w (by omega) hm (by decide)).mono fun e w' ⟨h1, h2⟩ => ?_
  subst h2
  rw [rowsB_len]
  refine ⟨h1, ?_, (Below.refl _ _).alloc (Nat.le_refl _) _⟩
  show (w.heap.push _)[w.heap.size]? = _
  simp [rowsB]

/-! ### The rows of a text with some signs -/
/-- What the program's reading says of a cut text, ahead of its rows. -/
def limB (rs : List ByteArray) : Bool := decide (1 ≤ (rs.headD ByteArray.empty).size ∧ (rs.headD ByteArray.empty).size ≤ 7 ∧ rs.length ≤ 7 ∧ (rs.headD ByteArray.empty).size * rs.length ≤ 36)
def okR (ok : UInt8 → Bool) (n : Nat) (r : ByteArray) : Bool := decide (r.size = n) && r.data.toList.all ok
def allR (ok : UInt8 → Bool) (n : Nat) (rs : List ByteArray) : Bool := rs.all (okR ok n)
theorem isW_rows (ok : UInt8 → Bool) (s : ByteArray) : isW ok s.data.toList = (limB (rowsB s) && allR ok ((rowsB s).headD ByteArray.empty).size (rowsB s)) := by
  unfold isW width limB allR
  rw [← rowsB_data]
  have h1 : (((rowsB s).map (·.data.toList)).headD []).length = ((rowsB s).headD ByteArray.empty).size := by
    cases rowsB s with
    | nil => rfl
    | cons r rs => simp
  rw [h1, List.length_map, List.all_map]
  congr 1
theorem rowsB_pos (s : ByteArray) : 0 < (rowsB s).length := by rw [rowsB_len]; omega
theorem rowsB_fit (s : ByteArray) : ∀ r ∈ rowsB s, r.size ≤ s.size := by
  intro r hr
  have h1 : r.data.toList ∈ splitP s.data.toList := by rw [← rowsB_data]; exact List.mem_map.2 ⟨r, hr, rfl⟩
  have h2 := len_split s.data.toList
  have h3 : r.data.toList.length ≤ (splitP s.data.toList).flatten.length := by
    have := List.sublist_flatten_of_mem h1
    exact this.length_le
  have h4 := splitP_cons s.data.toList
  obtain ⟨a, b, h5⟩ := h4
  rw [h5] at h2
  simp only [List.length_cons] at h2
  rw [h5] at h3
  simp at h2 h3 ⊢
  omega

/-- What rowsWith hands back. -/
def RowsPostW (ok : UInt8 → Bool) (s : ByteArray) (w : World) (e : Ending) (w' : World) : Prop :=
  (isW ok s.data.toList = true ∧ e = .returned (.tuple #[.slice (some ⟨w.heap.size, 0, none⟩) (rowsB s).length (rowsB s).length, .bool true]) ∧ RowsAt w' w.heap.size (rowsB s) ∧ Below w.heap.size w w') ∨
  (isW ok s.data.toList = false ∧ e = .returned (.tuple #[.slice none 0 0, .bool false]) ∧ Below w.heap.size w w')
def RowsPost (s : ByteArray) (w : World) (e : Ending) (w' : World) : Prop := RowsPostW okC s w e w'
theorem rowsPost_no {ok : UInt8 → Bool} {s : ByteArray} {w w' : World} {e : Ending} (h : isW ok s.data.toList = false) (he : e = .returned (.tuple #[.slice none 0 0, .bool false])) (hb : Below w.heap.size w w') : RowsPostW ok s w e w' := .inr ⟨h, he, hb⟩
theorem rowsPost_yes {ok : UInt8 → Bool} {s : ByteArray} {w w' : World} {e : Ending} {rs : List ByteArray} (hr : rowsB s = rs) (h : isW ok s.data.toList = true) (he : e = .returned (.tuple #[.slice (some ⟨w.heap.size, 0, none⟩) rs.length rs.length, .bool true])) (ha : RowsAt w' w.heap.size rs) (hb : Below w.heap.size w w') : RowsPostW ok s w e w' := by
  subst hr
  exact .inl ⟨h, he, ha, hb⟩
/-- The signs of a text are those that a row of signs has. -/
def Signs (sg : ByteArray) (ok : UInt8 → Bool) : Prop := ∀ c : UInt8, decide (0 ≤ Lib.indexByte sg.data.toList c) = ok c
theorem hasOnlyOk (r sg : ByteArray) (ok : UInt8 → Bool) (h : Signs sg ok) (w : World) (hr : r.size ≤ 1048576) : Calls Tryd.prog 46 #[.string r, .string sg] w fun e w' => e = .returned (.bool (r.data.toList.all ok)) ∧ w = w' := by
  have e : (r.data.toList.all ok) = onlyB sg.data.toList r.data.toList := by
    unfold onlyB
    congr 1
    funext c
    exact (h c).symm
  rw [e]
  exact hasOnly_any r sg w (by unfold maxLen; omega)
theorem signs_board : Signs ⟨#[46, 35]⟩ okC := by
  have : ∀ n : Fin 256, decide (0 ≤ Lib.indexByte [46, 35] (UInt8.ofNat n.val)) = okC (UInt8.ofNat n.val) := by decide +kernel
  intro c
  have h := this ⟨c.toNat, c.toNat_lt⟩
  simpa using h
/-! ### Cells -/
/-- Is there a cell? -/
def hasB (rs : List ByteArray) (x y : Int) : Bool := decide (0 ≤ y ∧ y < rs.length ∧ 0 ≤ x ∧ x < (rs.getD y.toNat ByteArray.empty).size)
/-- The sign of a cell; none: a wall's. -/
def cellB (rs : List ByteArray) (x y : Int) : UInt8 := if hasB rs x y = true then (rs.getD y.toNat ByteArray.empty).data.toList.getD x.toNat 35 else 35
end Go.Proofs.YtnncehifmaaeiaaDoor
