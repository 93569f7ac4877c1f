/- The contracts of the program's reading of boards: rows, cells. Condition: at most 1048576 bytes; the library's variable MaxLen holds an integer. -/
import Derived.Test.YthdkhikkdcjifaaDoorBuf
import Derived.Test.YthdkhikkdcjifaaDoorBase
import Derived.Test.YthdkhikkdcjifaaDoorState
import Derived.Test.YthdkhikkdcjifaaDoorBoard
import Derived.Test.YthdkhikkdcjifaaDoorShelf
import Derived.Test.YthdkhikkdcjifaaDoorWord
import Derived.Test.YthdkhikkdcjifaaDoorGnd
import Derived.StillTailTactics
import Derived.Deep.QuietTactic
import Derived.BigQuiet
namespace Go.Proofs.YthdkhikkdcjifaaDoor
set_option maxRecDepth 100000
set_option linter.all false
open Go.RowKit

/-- The library's variable internal/bytealg.MaxLen holds an integer. -/
def Glob (w : World) : Prop := ∃ m : Int, w.cell? ⟨0, 0, none⟩ = some (.int .i64 m)
theorem Glob.lt {w : World} (h : Glob w) : 0 < w.heap.size := by
  obtain ⟨m, hm⟩ := h
  exact World.block_lt_of_cell? w _ hm
theorem glob_to {w w0 w1 : World} (hb : Below w0.heap.size w0 w1) (h : Glob w) (e : w0.heap = w.heap) : Glob w1 := by
  have hl := h.lt
  obtain ⟨m, hm⟩ := h
  refine ⟨m, ?_⟩
  have h1 := hb.cell (p := ⟨0, 0, none⟩) (by rw [e]; exact hl)
  rw [h1]
  have h2 : w0.heap[(⟨0, 0, none⟩ : Addr).block]? = w.heap[(⟨0, 0, none⟩ : Addr).block]? := by rw [e]
  rw [World.cell?_of_block h2]
  exact hm

/-- The rows of a text, as the library cuts them. -/
def rowsB (s : ByteArray) : List ByteArray := Lib.splitB ⟨#[47]⟩ 0 (Lib.countB s ⟨#[47]⟩) s
theorem rowsB_len (s : ByteArray) : (rowsB s).length = Lib.countB s ⟨#[47]⟩ + 1 := Lib.splitB_all ⟨#[47]⟩ (by decide) 0 _ s rfl
theorem rowsB_data (s : ByteArray) : (rowsB s).map (·.data.toList) = splitP s.data.toList := by
  unfold rowsB
  rw [Lib.splitB_data]
  exact splitK_P _ _ (Nat.le_refl _)
/-- Block g holds the rows. -/
def RowsAt (w : World) (g : Nat) (rs : List ByteArray) : Prop := w.heap[g]? = some (.cells (rs.map Value.string).toArray 9 (0, 0))
theorem RowsAt.lt {w : World} {g : Nat} {rs : List ByteArray} (h : RowsAt w g rs) : g < w.heap.size := by
  rcases Nat.lt_or_ge g w.heap.size with h' | h'
  · exact h'
  · simp [RowsAt, Array.getElem?_eq_none h'] at h
theorem rowsAt_to {w w0 w1 : World} {g : Nat} {rs : List ByteArray} (hb : Below w0.heap.size w0 w1) (h : RowsAt w g rs) (e : w0.heap = w.heap) : RowsAt w1 g rs := by
  have hl := h.lt
  have := hb.block g (by rw [e]; exact hl)
  unfold RowsAt at h ⊢
  rw [this, e]
  exact h
theorem RowsAt.cell {w : World} {g : Nat} {rs : List ByteArray} (h : RowsAt w g rs) {k : Nat} {r : ByteArray} (hr : rs[k]? = some r) : w.cell? ⟨g, k, none⟩ = some (.string r) := by
  unfold RowsAt at h
  simp [World.cell?, h, hr]
theorem split_any (s : ByteArray) (w : World) (hs : s.size ≤ 1048576) (hg : Glob w) :
    Calls Tryd.prog 127 #[.string s, .string ⟨#[47]⟩] w fun e w' => e = .returned (.slice (some ⟨w.heap.size, 0, none⟩) (rowsB s).length (rowsB s).length) ∧ RowsAt w' w.heap.size (rowsB s) ∧ Below w.heap.size w w' := by
  obtain ⟨m, hm⟩ := hg
  refine (Tryd.strings_Split s ⟨#[47]⟩ m w (by omega) hm (by decide)).mono fun e w' ⟨h1, h2⟩ => ?_
  subst h2
  rw [rowsB_len]
  refine ⟨h1, ?_, (Below.refl _ _).alloc (Nat.le_refl _) _⟩
  show (w.heap.push _)[w.heap.size]? = _
  simp [rowsB]

/-! ### The rows of a text with some signs -/
/-- What the program's reading says of a cut text, ahead of its rows. -/
def limB (rs : List ByteArray) : Bool := decide (1 ≤ (rs.headD ByteArray.empty).size ∧ (rs.headD ByteArray.empty).size ≤ 7 ∧ rs.length ≤ 7 ∧ (rs.headD ByteArray.empty).size * rs.length ≤ 36)
def okR (ok : UInt8 → Bool) (n : Nat) (r : ByteArray) : Bool := decide (r.size = n) && r.data.toList.all ok
def allR (ok : UInt8 → Bool) (n : Nat) (rs : List ByteArray) : Bool := rs.all (okR ok n)
theorem isW_rows (ok : UInt8 → Bool) (s : ByteArray) : isW ok s.data.toList = (limB (rowsB s) && allR ok ((rowsB s).headD ByteArray.empty).size (rowsB s)) := by
  unfold isW width limB allR
  rw [← rowsB_data]
  have h1 : (((rowsB s).map (·.data.toList)).headD []).length = ((rowsB s).headD ByteArray.empty).size := by
    cases rowsB s with
    | nil => rfl
    | cons r rs => simp
  rw [h1, List.length_map, List.all_map]
  congr 1
theorem rowsB_pos (s : ByteArray) : 0 < (rowsB s).length := by rw [rowsB_len]; omega
theorem rowsB_fit (s : ByteArray) : ∀ r ∈ rowsB s, r.size ≤ s.size := by
  intro r hr
  have h1 : r.data.toList ∈ splitP s.data.toList := by rw [← rowsB_data]; exact List.mem_map.2 ⟨r, hr, rfl⟩
  have h2 := len_split s.data.toList
  have h3 : r.data.toList.length ≤ (splitP s.data.toList).flatten.length := by
    have := List.sublist_flatten_of_mem h1
    exact this.length_le
  have h4 := splitP_cons s.data.toList
  obtain ⟨a, b, h5⟩ := h4
  rw [h5] at h2
  simp only [List.length_cons] at h2
  rw [h5] at h3
  simp at h2 h3 ⊢
  omega

/-- What rowsWith hands back. -/
def RowsPostW (ok : UInt8 → Bool) (s : ByteArray) (w : World) (e : Ending) (w' : World) : Prop :=
  (isW ok s.data.toList = true ∧ e = .returned (.tuple #[.slice (some ⟨w.heap.size, 0, none⟩) (rowsB s).length (rowsB s).length, .bool true]) ∧ RowsAt w' w.heap.size (rowsB s) ∧ Below w.heap.size w w') ∨
  (isW ok s.data.toList = false ∧ e = .returned (.tuple #[.slice none 0 0, .bool false]) ∧ Below w.heap.size w w')
def RowsPost (s : ByteArray) (w : World) (e : Ending) (w' : World) : Prop := RowsPostW okC s w e w'
theorem rowsPost_no {ok : UInt8 → Bool} {s : ByteArray} {w w' : World} {e : Ending} (h : isW ok s.data.toList = false) (he : e = .returned (.tuple #[.slice none 0 0, .bool false])) (hb : Below w.heap.size w w') : RowsPostW ok s w e w' := .inr ⟨h, he, hb⟩
theorem rowsPost_yes {ok : UInt8 → Bool} {s : ByteArray} {w w' : World} {e : Ending} {rs : List ByteArray} (hr : rowsB s = rs) (h : isW ok s.data.toList = true) (he : e = .returned (.tuple #[.slice (some ⟨w.heap.size, 0, none⟩) rs.length rs.length, .bool true])) (ha : RowsAt w' w.heap.size rs) (hb : Below w.heap.size w w') : RowsPostW ok s w e w' := by
  subst hr
  exact .inl ⟨h, he, ha, hb⟩
/-- The signs of a text are those that a row of signs has. -/
def Signs (sg : ByteArray) (ok : UInt8 → Bool) : Prop := ∀ c : UInt8, decide (0 ≤ Lib.indexByte sg.data.toList c) = ok c
theorem hasOnlyOk (r sg : ByteArray) (ok : UInt8 → Bool) (h : Signs sg ok) (w : World) (hr : r.size ≤ 1048576) : Calls Tryd.prog 128 #[.string r, .string sg] w fun e w' => e = .returned (.bool (r.data.toList.all ok)) ∧ w = w' := by
  have e : (r.data.toList.all ok) = onlyB sg.data.toList r.data.toList := by
    unfold onlyB
    congr 1
    funext c
    exact (h c).symm
  rw [e]
  exact hasOnly_any r sg w (by unfold maxLen; omega)
set_option maxHeartbeats 800000 in
theorem rowsWith_any (s sg : ByteArray) (ok : UInt8 → Bool) (hok : Signs sg ok) (w : World) (hs : s.size ≤ 1048576) (hg : Glob w) : Calls Tryd.prog 104 #[.string s, .string sg] w (RowsPostW ok s w) := by
  have HOK := hide hok
  clear hok
  have HB := hide (isW_rows ok s)
  have hpos := rowsB_pos s
  have HF := hide (rowsB_fit s)
  have HS := hide (split_any s w hs hg)
  have hlen : (rowsB s).length ≤ s.size + 1 := by
    have h1 := len_split s.data.toList
    have h2 := congrArg List.length (rowsB_data s)
    rw [List.length_map] at h2
    simp at h1
    omega
  generalize hrs : rowsB s = rs at HB hpos HF HS hlen
  have HR := hide hrs
  clear hrs hg
  have h0 : rs[0]? = some (rs.headD ByteArray.empty) := by
    cases rs with
    | nil => simp at hpos
    | cons r rs => rfl
  have hW : (rs.headD ByteArray.empty).size ≤ 1048576 := Nat.le_trans (HF.out _ (List.mem_of_getElem? h0)) hs
  have HL := hide (show limB rs = decide (1 ≤ (rs.headD ByteArray.empty).size ∧ (rs.headD ByteArray.empty).size ≤ 7 ∧ rs.length ≤ 7 ∧ (rs.headD ByteArray.empty).size * rs.length ≤ 36) from rfl)
  generalize rs.headD ByteArray.empty = r0 at HB h0 hW HL
  go_enter Tryd.func104, Tryd.ntmps104
  go_wp2_with fail
  refine HS.out.mono ?_
  rintro e w1 ⟨rfl, ha, hb⟩
  have c0 := ha.cell h0
  have H0 := hide h0
  clear h0
  have hp : 0 < (rs.length : Int) := by omega
  by_cases h1 : 1 ≤ r0.size
  · by_cases h2 : r0.size ≤ 7
    · by_cases h3 : rs.length ≤ 7
      · have hm0 : (0 : Int) ≤ (r0.size : Int) * (rs.length : Int) := Int.mul_nonneg (by omega) (by omega)
        have hm49 : r0.size * rs.length ≤ 7 * 7 := Nat.mul_le_mul h2 h3
        have hm1 : (r0.size : Int) * (rs.length : Int) ≤ 49 := by exact_mod_cast hm49
        clear hm49
        by_cases h4 : r0.size * rs.length ≤ 36
        · have hm2 : (r0.size : Int) * (rs.length : Int) ≤ 36 := by exact_mod_cast h4
          have hlim : limB rs = true := by rw [HL.out]; exact decide_eq_true ⟨h1, h2, h3, h4⟩
          have HM := hide hlim
          clear hlim h4
          go_wp2
          obtain ⟨wo, hwo⟩ : ∃ wo : World, wo = w1 := ⟨_, rfl⟩
          go_loop [36, 9] (fun i _ => ∃ k : Nat, k ≤ rs.length ∧ i = .int .i64 (k : Int) ∧ allR ok r0.size (rs.take k) = true) (fun i _ => rs.length - (intOf i).toNat)
          case atStart => exact ⟨0, Nat.zero_le _, rfl, rfl⟩
          case round =>
            obtain ⟨k, hk, rfl, hall⟩ := hrel
            have HA := hide hall
            clear hall
            by_cases hlt : k < rs.length
            · have hr : rs[k]? = some (rs[k]'hlt) := List.getElem?_eq_getElem hlt
              generalize rs[k]'hlt = r at hr
              have hrm := List.mem_of_getElem? hr
              have hrs : r.size ≤ 1048576 := Nat.le_trans (HF.out r hrm) hs
              have ck := ha.cell hr
              have hsn := hide (show allR ok r0.size (rs.take (k + 1)) = okR ok r0.size r from by
                have h5 := HA.out
                unfold allR at h5 ⊢
                rw [List.take_add_one, List.all_append, h5, hr]
                simp)
              have hno := hide (show okR ok r0.size r = false → isW ok s.data.toList = false from fun h => by
                have : allR ok r0.size rs = false := by
                  unfold allR
                  rw [List.all_eq_false]
                  exact ⟨r, hrm, by rw [h]; simp⟩
                rw [HB.out, this, Bool.and_false])
              clear hr hrm
              have hki : (k : Int) < (rs.length : Int) := by omega
              by_cases hsz : r.size = r0.size
              · have q1 : ((r.size : Int) != (r0.size : Int)) = false := by rw [hsz]; simp
                have q2 : ((r.size : Int) == (r0.size : Int)) = true := by rw [hsz]; simp
                cases hao : r.data.toList.all ok
                · have HO := hide (show okR ok r0.size r = false from by unfold okR; rw [hao, Bool.and_false])
                  have HAO := hide hao
                  have HSZ := hide hsz
                  clear hao hsz
                  go_wp2_with (go_at_call 128; refine (hasOnlyOk r sg ok HOK.out _ hrs).mono ?_; rintro e w' ⟨rfl, rfl⟩; rw [HAO.out])
                  go_returns
                  exact rowsPost_no (hno.out HO.out) rfl hb
                · have HO := hide (show okR ok r0.size r = true from by unfold okR; rw [hao, decide_eq_true hsz]; rfl)
                  have HAO := hide hao
                  have HSZ := hide hsz
                  clear hao hsz
                  go_wp2_with (go_at_call 128; refine (hasOnlyOk r sg ok HOK.out _ hrs).mono ?_; rintro e w' ⟨rfl, rfl⟩; rw [HAO.out])
                  go_round
                  case rel => exact ⟨k + 1, by omega, by go_num, by rw [hsn.out, HO.out]⟩
                  case measure => simp [intOf]; omega
              · have q1 : ((r.size : Int) != (r0.size : Int)) = true := bne_iff_ne.2 (by omega)
                have q2 : ((r.size : Int) == (r0.size : Int)) = false := beq_eq_false_iff_ne.2 (by omega)
                have HO := hide (show okR ok r0.size r = false from by unfold okR; rw [decide_eq_false hsz]; rfl)
                clear hsz
                go_wp2
                go_returns
                exact rowsPost_no (hno.out HO.out) rfl hb
            · have e : k = rs.length := by omega
              subst e
              have hy := hide (show isW ok s.data.toList = true from by
                have h5 := HA.out
                rw [List.take_of_length_le (Nat.le_refl _)] at h5
                rw [HB.out, HM.out, h5]
                rfl)
              go_wp2
              go_returns
              exact rowsPost_yes HR.out hy.out rfl ha hb
        · have hm2 : (36 : Int) < (r0.size : Int) * (rs.length : Int) := by exact_mod_cast (show 36 < r0.size * rs.length from by omega)
          have HN := hide (show isW ok s.data.toList = false from by rw [HB.out, HL.out, decide_eq_false (fun h => h4 h.2.2.2)]; rfl)
          clear h4
          go_wp2
          go_returns
          exact rowsPost_no HN.out rfl hb
      · have HN := hide (show isW ok s.data.toList = false from by rw [HB.out, HL.out, decide_eq_false (fun h => h3 h.2.2.1)]; rfl)
        have h3' : (7 : Int) < (rs.length : Int) := by omega
        go_wp2
        go_returns
        exact rowsPost_no HN.out rfl hb
    · have HN := hide (show isW ok s.data.toList = false from by rw [HB.out, HL.out, decide_eq_false (fun h => h2 h.2.1)]; rfl)
      have h2' : (7 : Int) < (r0.size : Int) := by omega
      go_wp2
      go_returns
      exact rowsPost_no HN.out rfl hb
  · have HN := hide (show isW ok s.data.toList = false from by rw [HB.out, HL.out, decide_eq_false (fun h => h1 h.1)]; rfl)
    have h1' : (r0.size : Int) < 1 := by omega
    go_wp2
    go_returns
    exact rowsPost_no HN.out rfl hb

theorem signs_board : Signs ⟨#[46, 35]⟩ okC := by
  have : ∀ n : Fin 256, decide (0 ≤ Lib.indexByte [46, 35] (UInt8.ofNat n.val)) = okC (UInt8.ofNat n.val) := by decide +kernel
  intro c
  have h := this ⟨c.toNat, c.toNat_lt⟩
  simpa using h
theorem rowsOf_any (s : ByteArray) (w : World) (hs : s.size ≤ 1048576) (hg : Glob w) : Calls Tryd.prog 78 #[.string s] w (RowsPost s w) := by
  have HS := hide (rowsWith_any s ⟨#[46, 35]⟩ okC signs_board w hs hg)
  clear hg
  go_enter Tryd.func78, Tryd.ntmps78
  go_wp2_with fail
  refine HS.out.mono ?_
  rintro e w1 (⟨h, rfl, ha, hb⟩ | ⟨h, rfl, hb⟩)
  · have HH := hide h
    clear h
    go_wp2
    go_returns
    exact .inl ⟨HH.out, rfl, ha, hb⟩
  · have HH := hide h
    clear h
    go_wp2
    go_returns
    exact .inr ⟨HH.out, rfl, hb⟩

/-! ### Cells -/
/-- Is there a cell? -/
def hasB (rs : List ByteArray) (x y : Int) : Bool := decide (0 ≤ y ∧ y < rs.length ∧ 0 ≤ x ∧ x < (rs.getD y.toNat ByteArray.empty).size)
/-- The sign of a cell; none: a wall's. -/
def cellB (rs : List ByteArray) (x y : Int) : UInt8 := if hasB rs x y = true then (rs.getD y.toNat ByteArray.empty).data.toList.getD x.toNat 35 else 35
set_option maxHeartbeats 400000 in
theorem hasCell_any (rs : List ByteArray) (g : Nat) (x y : Int) (w : World) (ha : RowsAt w g rs) (hl : rs.length ≤ 1048576) (hz : ∀ r ∈ rs, r.size ≤ 1048576) :
    Calls Tryd.prog 106 #[.slice (some ⟨g, 0, none⟩) rs.length rs.length, .int .i64 x, .int .i64 y] w fun e w' => e = .returned (.bool (hasB rs x y)) ∧ w = w' := by
  have HB := hide (show hasB rs x y = decide (0 ≤ y ∧ y < rs.length ∧ 0 ≤ x ∧ x < (rs.getD y.toNat ByteArray.empty).size) from rfl)
  by_cases h1 : 0 ≤ y
  · obtain ⟨k, rfl⟩ : ∃ k : Nat, y = (k : Int) := ⟨y.toNat, by omega⟩
    by_cases h2 : k < rs.length
    · have hr : rs[k]? = some (rs[k]'h2) := List.getElem?_eq_getElem h2
      have hgd : rs.getD (k : Int).toNat ByteArray.empty = rs[k]'h2 := by simp [h2]
      rw [hgd] at HB
      generalize rs[k]'h2 = r at hr HB
      have hrz := hz r (List.mem_of_getElem? hr)
      have ck := ha.cell hr
      have h2i : (k : Int) < (rs.length : Int) := by omega
      clear hr hgd hz
      by_cases h3 : 0 ≤ x
      · by_cases h4 : x < (r.size : Int)
        · have HY := hide (show hasB rs x k = true from by rw [HB.out]; exact decide_eq_true ⟨h1, h2i, h3, h4⟩)
          go_enter Tryd.func106, Tryd.ntmps106
          go_wp2
          go_returns
          exact ⟨ret_bool HY.out.symm, rfl⟩
        · have HY := hide (show hasB rs x k = false from by rw [HB.out]; exact decide_eq_false (fun h => h4 h.2.2.2))
          have h4' : (r.size : Int) ≤ x := by omega
          have hd : decide (x < (r.size : Int)) = false := decide_eq_false h4
          clear h4
          go_enter Tryd.func106, Tryd.ntmps106
          go_wp2
          go_returns
          exact ⟨ret_bool HY.out.symm, rfl⟩
      · have HY := hide (show hasB rs x k = false from by rw [HB.out]; exact decide_eq_false (fun h => h3 h.2.2.1))
        have h3' : x < 0 := by omega
        clear h3
        go_enter Tryd.func106, Tryd.ntmps106
        go_wp2
        go_returns
        exact ⟨ret_bool HY.out.symm, rfl⟩
    · have HY := hide (show hasB rs x k = false from by rw [HB.out]; exact decide_eq_false (fun h => h2 (by omega)))
      have h2' : (rs.length : Int) ≤ (k : Int) := by omega
      clear h2 hz
      go_enter Tryd.func106, Tryd.ntmps106
      go_wp2
      go_returns
      exact ⟨ret_bool HY.out.symm, rfl⟩
  · have HY := hide (show hasB rs x y = false from by rw [HB.out]; exact decide_eq_false (fun h => h1 h.1))
    have h1' : y < 0 := by omega
    clear h1 hz
    go_enter Tryd.func106, Tryd.ntmps106
    go_wp2
    go_returns
    exact ⟨ret_bool HY.out.symm, rfl⟩

set_option maxHeartbeats 400000 in
theorem cellAt_any (rs : List ByteArray) (g : Nat) (x y : Int) (w : World) (ha : RowsAt w g rs) (hl : rs.length ≤ 1048576) (hz : ∀ r ∈ rs, r.size ≤ 1048576) :
    Calls Tryd.prog 103 #[.slice (some ⟨g, 0, none⟩) rs.length rs.length, .int .i64 x, .int .i64 y] w fun e w' => e = .returned (.int .u8 ((cellB rs x y).toNat : Int)) ∧ w = w' := by
  have HH := hide (hasCell_any rs g x y w ha hl hz)
  have HC := hide (show cellB rs x y = if hasB rs x y = true then (rs.getD y.toNat ByteArray.empty).data.toList.getD x.toNat 35 else 35 from rfl)
  cases hb : hasB rs x y
  · have HB := hide hb
    have HY := hide (show cellB rs x y = 35 from by rw [HC.out, hb]; rfl)
    clear hb hz
    go_enter Tryd.func103, Tryd.ntmps103
    go_wp2_with fail
    refine HH.out.mono ?_
    rintro e w' ⟨rfl, rfl⟩
    rw [HB.out]
    go_wp2
    go_returns
    exact ⟨by rw [HY.out]; rfl, rfl⟩
  · have HB := hide hb
    have hb' := hb
    unfold hasB at hb'
    have hb2 := of_decide_eq_true hb'
    obtain ⟨y0, y1, x0, x1⟩ := hb2
    obtain ⟨k, rfl⟩ : ∃ k : Nat, y = (k : Int) := ⟨y.toNat, by omega⟩
    obtain ⟨j, rfl⟩ : ∃ j : Nat, x = (j : Int) := ⟨x.toNat, by omega⟩
    have h2 : k < rs.length := by omega
    have hr : rs[k]? = some (rs[k]'h2) := List.getElem?_eq_getElem h2
    have hgd : rs.getD (k : Int).toNat ByteArray.empty = rs[k]'h2 := by simp [h2]
    rw [hgd] at HC x1
    generalize rs[k]'h2 = r at hr HC x1
    have hrz := hz r (List.mem_of_getElem? hr)
    have ck := ha.cell hr
    have hj : j < r.size := by omega
    have HY := hide (show cellB rs j k = r[j] from by
      rw [HC.out, hb, if_pos rfl]
      simp [hj, ByteArray.getElem_eq_getElem_data])
    clear hr hgd hz hb hb' y0 x0
    go_enter Tryd.func103, Tryd.ntmps103
    go_wp2_with fail
    refine HH.out.mono ?_
    rintro e w' ⟨rfl, rfl⟩
    rw [HB.out]
    go_wp2
    go_returns
    exact ⟨by rw [HY.out]; rfl, rfl⟩
end Go.Proofs.YthdkhikkdcjifaaDoor
