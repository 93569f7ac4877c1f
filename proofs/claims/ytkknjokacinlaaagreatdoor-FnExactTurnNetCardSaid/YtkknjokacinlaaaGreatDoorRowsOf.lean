/- The contracts of the program's reading of boards: rows, cells. Condition: at most 1048576 bytes; the library's variable MaxLen holds an integer. -/
import Derived.Test.YtkknjokacinlaaaGreatDoorBuf
import Derived.Test.YtkknjokacinlaaaGreatDoorBase
import Derived.Test.YtkknjokacinlaaaGreatDoorState
import Derived.Test.YtkknjokacinlaaaGreatDoorBoard
import Derived.Test.YtkknjokacinlaaaGreatDoorShelf
import Derived.Test.YtkknjokacinlaaaGreatDoorWord
import Derived.StillTailTactics
import Derived.Deep.QuietTactic
import Derived.BigQuiet
namespace Go.Proofs.YtkknjokacinlaaaGreatDoor
set_option maxRecDepth 100000
set_option linter.all false
open Go.RowKit

/-- The library's variable internal/bytealg.MaxLen holds an integer. -/
def Glob (w : World) : Prop := ∃ m : Int, w.cell? ⟨0, 0, none⟩ = some (.int .i64 m)
theorem Glob.lt {w : World} (h : Glob w) : 0 < w.heap.size := by
  obtain ⟨m, hm⟩ := h
  exact World.block_lt_of_cell? w _ hm
theorem glob_to {w w0 w1 : World} (hb : Below w0.heap.size w0 w1) (h : Glob w) (e : w0.heap = w.heap) : Glob w1 := by
  have hl := h.lt
  obtain ⟨m, hm⟩ := h
  refine ⟨m, ?_⟩
  have h1 := hb.cell (p := ⟨0, 0, none⟩) (by rw [e]; exact hl)
  rw [h1]
  have h2 : w0.heap[(⟨0, 0, none⟩ : Addr).block]? = w.heap[(⟨0, 0, none⟩ : Addr).block]? := by rw [e]
  rw [World.cell?_of_block h2]
  exact hm

/-- The rows of a text, as the library cuts them. -/
def rowsB (s : ByteArray) : List ByteArray := Lib.splitB ⟨#[47]⟩ 0 (Lib.countB s ⟨#[47]⟩) s
theorem rowsB_len (s : ByteArray) : (rowsB s).length = Lib.countB s ⟨#[47]⟩ + 1 := Lib.splitB_all ⟨#[47]⟩ (by decide) 0 _ s rfl
theorem rowsB_data (s : ByteArray) : (rowsB s).map (·.data.toList) = splitP s.data.toList := by
  unfold rowsB
  rw [Lib.splitB_data]
  exact splitK_P _ _ (Nat.le_refl _)
/-- Block g holds the rows. -/
def RowsAt (w : World) (g : Nat) (rs : List ByteArray) : Prop := w.heap[g]? = some (.cells (rs.map Value.string).toArray 9 (0, 0))
theorem RowsAt.lt {w : World} {g : Nat} {rs : List ByteArray} (h : RowsAt w g rs) : g < w.heap.size := by
  rcases Nat.lt_or_ge g w.heap.size with h' | h'
  · exact h'
  · simp [RowsAt, Array.getElem?_eq_none h'] at h
theorem rowsAt_to {w w0 w1 : World} {g : Nat} {rs : List ByteArray} (hb : Below w0.heap.size w0 w1) (h : RowsAt w g rs) (e : w0.heap = w.heap) : RowsAt w1 g rs := by
  have hl := h.lt
  have := hb.block g (by rw [e]; exact hl)
  unfold RowsAt at h ⊢
  rw [this, e]
  exact h
theorem RowsAt.cell {w : World} {g : Nat} {rs : List ByteArray} (h : RowsAt w g rs) {k : Nat} {r : ByteArray} (hr : rs[k]? = some r) : w.cell? ⟨g, k, none⟩ = some (.string r) := by
  unfold RowsAt at h
  simp [World.cell?, h, hr]
theorem split_any (s : ByteArray) (w : World) (hs : s.size ≤ 1048576) (hg : Glob w) :
    Calls Tryz.prog 18 #[.string s, .string ⟨#[47]⟩] w fun e w' => e = .returned (.slice (some ⟨w.heap.size, 0, none⟩) (rowsB s).length (rowsB s).length) ∧ RowsAt w' w.heap.size (rowsB s) ∧ Below w.heap.size w w' := by
  obtain ⟨m, hm⟩ := hg
  refine (Tryz.strings_Split s ⟨#[47]⟩ m w (by omega) hm (by decide)).mono fun e w' ⟨h1, h2⟩ => ?_
  subst h2
  rw [rowsB_len]
  refine ⟨h1, ?_, (Below.refl _ _).alloc (Nat.le_refl _) _⟩
  show (w.heap.push _)[w.heap.size]? = _
  simp [rowsB]

/-- All signs of a row are those of a board. -/
def allOk (l : List UInt8) : Bool := l.all okC
/-! ### The rows of a board -/
/-- What the program's reading says of a cut text, ahead of its rows. -/
def limB (rs : List ByteArray) : Bool := decide (1 ≤ (rs.headD ByteArray.empty).size ∧ (rs.headD ByteArray.empty).size ≤ 7 ∧ rs.length ≤ 7 ∧ (rs.headD ByteArray.empty).size * rs.length ≤ 36)
def okR (n : Nat) (r : ByteArray) : Bool := decide (r.size = n) && allOk r.data.toList
def allR (n : Nat) (rs : List ByteArray) : Bool := rs.all (okR n)
theorem isBd_rows (s : ByteArray) : isBd s.data.toList = (limB (rowsB s) && allR ((rowsB s).headD ByteArray.empty).size (rowsB s)) := by
  unfold isBd width limB allR
  rw [← rowsB_data]
  have h1 : (((rowsB s).map (·.data.toList)).headD []).length = ((rowsB s).headD ByteArray.empty).size := by
    cases rowsB s with
    | nil => rfl
    | cons r rs => simp
  rw [h1, List.length_map, List.all_map]
  congr 1
theorem rowsB_pos (s : ByteArray) : 0 < (rowsB s).length := by rw [rowsB_len]; omega
theorem rowsB_fit (s : ByteArray) : ∀ r ∈ rowsB s, r.size ≤ s.size := by
  intro r hr
  have h1 : r.data.toList ∈ splitP s.data.toList := by rw [← rowsB_data]; exact List.mem_map.2 ⟨r, hr, rfl⟩
  have h2 := len_split s.data.toList
  have h3 : r.data.toList.length ≤ (splitP s.data.toList).flatten.length := by
    have := List.sublist_flatten_of_mem h1
    exact this.length_le
  have h4 := splitP_cons s.data.toList
  obtain ⟨a, b, h5⟩ := h4
  rw [h5] at h2
  simp only [List.length_cons] at h2
  rw [h5] at h3
  simp at h2 h3 ⊢
  omega

/-- What rowsOf hands back. -/
def RowsPost (s : ByteArray) (w : World) (e : Ending) (w' : World) : Prop :=
  (isBd s.data.toList = true ∧ e = .returned (.tuple #[.slice (some ⟨w.heap.size, 0, none⟩) (rowsB s).length (rowsB s).length, .bool true]) ∧ RowsAt w' w.heap.size (rowsB s) ∧ Below w.heap.size w w') ∨
  (isBd s.data.toList = false ∧ e = .returned (.tuple #[.slice none 0 0, .bool false]) ∧ Below w.heap.size w w')
theorem rowsPost_no {s : ByteArray} {w w' : World} {e : Ending} (h : isBd s.data.toList = false) (he : e = .returned (.tuple #[.slice none 0 0, .bool false])) (hb : Below w.heap.size w w') : RowsPost s w e w' := .inr ⟨h, he, hb⟩
theorem rowsPost_yes {s : ByteArray} {w w' : World} {e : Ending} {rs : List ByteArray} (hr : rowsB s = rs) (h : isBd s.data.toList = true) (he : e = .returned (.tuple #[.slice (some ⟨w.heap.size, 0, none⟩) rs.length rs.length, .bool true])) (ha : RowsAt w' w.heap.size rs) (hb : Below w.heap.size w w') : RowsPost s w e w' := by
  subst hr
  exact .inl ⟨h, he, ha, hb⟩

/-! ### Cells -/
/-- Is there a cell? -/
def hasB (rs : List ByteArray) (x y : Int) : Bool := decide (0 ≤ y ∧ y < rs.length ∧ 0 ≤ x ∧ x < (rs.getD y.toNat ByteArray.empty).size)
/-- The sign of a cell; none: a wall's. -/
def cellB (rs : List ByteArray) (x y : Int) : UInt8 := if hasB rs x y = true then (rs.getD y.toNat ByteArray.empty).data.toList.getD x.toNat 35 else 35
set_option maxHeartbeats 400000 in
theorem hasCell_any (rs : List ByteArray) (g : Nat) (x y : Int) (w : World) (ha : RowsAt w g rs) (hl : rs.length ≤ 1048576) (hz : ∀ r ∈ rs, r.size ≤ 1048576) :
    Calls Tryz.prog 38 #[.slice (some ⟨g, 0, none⟩) rs.length rs.length, .int .i64 x, .int .i64 y] w fun e w' => e = .returned (.bool (hasB rs x y)) ∧ w = w' := by
  have HB := hide (show hasB rs x y = decide (0 ≤ y ∧ y < rs.length ∧ 0 ≤ x ∧ x < (rs.getD y.toNat ByteArray.empty).size) from rfl)
  by_cases h1 : 0 ≤ y
  · obtain ⟨k, rfl⟩ : ∃ k : Nat, y = (k : Int) := ⟨y.toNat, by omega⟩
    by_cases h2 : k < rs.length
    · have hr : rs[k]? = some (rs[k]'h2) := List.getElem?_eq_getElem h2
      have hgd : rs.getD (k : Int).toNat ByteArray.empty = rs[k]'h2 := by simp [h2]
      rw [hgd] at HB
      generalize rs[k]'h2 = r at hr HB
      have hrz := hz r (List.mem_of_getElem? hr)
      have ck := ha.cell hr
      have h2i : (k : Int) < (rs.length : Int) := by omega
      clear hr hgd hz
      by_cases h3 : 0 ≤ x
      · by_cases h4 : x < (r.size : Int)
        · have HY := hide (show hasB rs x k = true from by rw [HB.out]; exact decide_eq_true ⟨h1, h2i, h3, h4⟩)
          go_enter Tryz.func38, Tryz.ntmps38
          go_wp2
          go_returns
          exact ⟨ret_bool HY.out.symm, rfl⟩
        · have HY := hide (show hasB rs x k = false from by rw [HB.out]; exact decide_eq_false (fun h => h4 h.2.2.2))
          have h4' : (r.size : Int) ≤ x := by omega
          have hd : decide (x < (r.size : Int)) = false := decide_eq_false h4
          clear h4
          go_enter Tryz.func38, Tryz.ntmps38
          go_wp2
          go_returns
          exact ⟨ret_bool HY.out.symm, rfl⟩
      · have HY := hide (show hasB rs x k = false from by rw [HB.out]; exact decide_eq_false (fun h => h3 h.2.2.1))
        have h3' : x < 0 := by omega
        clear h3
        go_enter Tryz.func38, Tryz.ntmps38
        go_wp2
        go_returns
        exact ⟨ret_bool HY.out.symm, rfl⟩
    · have HY := hide (show hasB rs x k = false from by rw [HB.out]; exact decide_eq_false (fun h => h2 (by omega)))
      have h2' : (rs.length : Int) ≤ (k : Int) := by omega
      clear h2 hz
      go_enter Tryz.func38, Tryz.ntmps38
      go_wp2
      go_returns
      exact ⟨ret_bool HY.out.symm, rfl⟩
  · have HY := hide (show hasB rs x y = false from by rw [HB.out]; exact decide_eq_false (fun h => h1 h.1))
    have h1' : y < 0 := by omega
    clear h1 hz
    go_enter Tryz.func38, Tryz.ntmps38
    go_wp2
    go_returns
    exact ⟨ret_bool HY.out.symm, rfl⟩

set_option maxHeartbeats 400000 in
theorem cellAt_any (rs : List ByteArray) (g : Nat) (x y : Int) (w : World) (ha : RowsAt w g rs) (hl : rs.length ≤ 1048576) (hz : ∀ r ∈ rs, r.size ≤ 1048576) :
    Calls Tryz.prog 27 #[.slice (some ⟨g, 0, none⟩) rs.length rs.length, .int .i64 x, .int .i64 y] w fun e w' => e = .returned (.int .u8 ((cellB rs x y).toNat : Int)) ∧ w = w' := by
  have HH := hide (hasCell_any rs g x y w ha hl hz)
  have HC := hide (show cellB rs x y = if hasB rs x y = true then (rs.getD y.toNat ByteArray.empty).data.toList.getD x.toNat 35 else 35 from rfl)
  cases hb : hasB rs x y
  · have HB := hide hb
    have HY := hide (show cellB rs x y = 35 from by rw [HC.out, hb]; rfl)
    clear hb hz
    go_enter Tryz.func27, Tryz.ntmps27
    go_wp2_with fail
    refine HH.out.mono ?_
    rintro e w' ⟨rfl, rfl⟩
    rw [HB.out]
    go_wp2
    go_returns
    exact ⟨by rw [HY.out]; rfl, rfl⟩
  · have HB := hide hb
    have hb' := hb
    unfold hasB at hb'
    have hb2 := of_decide_eq_true hb'
    obtain ⟨y0, y1, x0, x1⟩ := hb2
    obtain ⟨k, rfl⟩ : ∃ k : Nat, y = (k : Int) := ⟨y.toNat, by omega⟩
    obtain ⟨j, rfl⟩ : ∃ j : Nat, x = (j : Int) := ⟨x.toNat, by omega⟩
    have h2 : k < rs.length := by omega
    have hr : rs[k]? = some (rs[k]'h2) := List.getElem?_eq_getElem h2
    have hgd : rs.getD (k : Int).toNat ByteArray.empty = rs[k]'h2 := by simp [h2]
    rw [hgd] at HC x1
    generalize rs[k]'h2 = r at hr HC x1
    have hrz := hz r (List.mem_of_getElem? hr)
    have ck := ha.cell hr
    have hj : j < r.size := by omega
    have HY := hide (show cellB rs j k = r[j] from by
      rw [HC.out, hb, if_pos rfl]
      simp [hj, ByteArray.getElem_eq_getElem_data])
    clear hr hgd hz hb hb' y0 x0
    go_enter Tryz.func27, Tryz.ntmps27
    go_wp2_with fail
    refine HH.out.mono ?_
    rintro e w' ⟨rfl, rfl⟩
    rw [HB.out]
    go_wp2
    go_returns
    exact ⟨by rw [HY.out]; rfl, rfl⟩
end Go.Proofs.YtkknjokacinlaaaGreatDoor
