/- The walk of PlacesOnGround's law. -/
import Derived.Test.YtoojoghgbmpbpaaDoorBxGood
import Derived.Test.YtoojoghgbmpbpaaDoorBoxOn
import Derived.Test.YtoojoghgbmpbpaaDoorCardKit
namespace Go.Proofs.YtoojoghgbmpbpaaDoor
set_option maxRecDepth 100000
set_option linter.all false
open Go.RowKit
attribute [local go_sem ↓] Go.wp_at_zero Go.wp_at_succ

/-- The box of a number. -/
def plB (W t : Nat) : Bx := ⟨((t / 3 % W : Nat) : Int), ((t / 3 / W : Nat) : Int), ((t % 3 : Nat) : Int)⟩
/-- How many of the first boxes are on the ground. -/
def plN (l : List UInt8) (W : Nat) : Nat → Nat
  | 0 => 0
  | t + 1 => plN l W t + (if goodX (splitP l) (plB W t) = true then 1 else 0)
theorem plN_le (l : List UInt8) (W : Nat) : ∀ t, plN l W t ≤ t
  | 0 => Nat.le_refl _
  | t + 1 => by
    have := plN_le l W t
    unfold plN
    split <;> omega
theorem plB_at {W y x p : Nat} (hx : x < W) (hp : p < 3) : plB W ((y * W + x) * 3 + p) = ⟨(x : Int), (y : Int), (p : Int)⟩ := by
  unfold plB
  have e1 : ((y * W + x) * 3 + p) / 3 = y * W + x := by omega
  have e2 : ((y * W + x) * 3 + p) % 3 = p := by omega
  have e3 : (y * W + x) % W = x := by rw [Nat.mul_comm, Nat.mul_add_mod, Nat.mod_eq_of_lt hx]
  have e4 : (y * W + x) / W = y := by
    rw [Nat.mul_comm, Nat.mul_add_div (by omega), Nat.div_eq_of_lt hx, Nat.add_zero]
  rw [e1, e2, e3, e4]
theorem plN_yes {l : List UInt8} {W y x p : Nat} (hx : x < W) (hp : p < 3) (h : goodX (splitP l) ⟨(x : Int), (y : Int), (p : Int)⟩ = true) : plN l W ((y * W + x) * 3 + (p + 1)) = plN l W ((y * W + x) * 3 + p) + 1 := by
  show plN l W ((y * W + x) * 3 + p) + (if goodX (splitP l) (plB W ((y * W + x) * 3 + p)) = true then 1 else 0) = _
  rw [plB_at hx hp, if_pos h]
theorem plN_no {l : List UInt8} {W y x p : Nat} (hx : x < W) (hp : p < 3) (h : goodX (splitP l) ⟨(x : Int), (y : Int), (p : Int)⟩ = false) : plN l W ((y * W + x) * 3 + (p + 1)) = plN l W ((y * W + x) * 3 + p) := by
  show plN l W ((y * W + x) * 3 + p) + (if goodX (splitP l) (plB W ((y * W + x) * 3 + p)) = true then 1 else 0) = _
  rw [plB_at hx hp, h]
  rfl
theorem plN_small {l : List UInt8} {W H y x p : Nat} (hW : W ≤ 7) (hH : H ≤ 7) (hy : y < H) (hx : x < W) (hp : p < 3) : plN l W ((y * W + x) * 3 + p) ≤ 200 := by
  have h1 := plN_le l W ((y * W + x) * 3 + p)
  have h2 : y * W ≤ 6 * 7 := Nat.mul_le_mul (by omega) hW
  omega
def plV (l : List UInt8) : Int := if isGd l = true then (plN l (width l) ((splitP l).length * width l * 3) : Int) else 0
theorem rowG {s : ByteArray} (h : isGd s.data.toList = true) {y : Nat} (hy : y < (splitP s.data.toList).length) : ∃ r, (rowsB s)[y]? = some r ∧ r.size = width s.data.toList := by
  have hlen : (rowsB s).length = (splitP s.data.toList).length := by rw [← rowsB_data, List.length_map]
  refine ⟨(rowsB s)[y]'(by omega), List.getElem?_eq_getElem _, ?_⟩
  have h2 := getD_rows s y
  have h3 : (rowsB s).getD y ByteArray.empty = (rowsB s)[y]'(by omega) := by simp [show y < (rowsB s).length by omega]
  rw [h3] at h2
  have h4 := (even_row (gd_even h) hy).1
  rw [← h2] at h4
  simpa using h4

set_option maxHeartbeats 800000 in
theorem implPlaces_no (s : ByteArray) (w : World) (hs : s.size ≤ 1048576) (hg : Glob w) (h : isGd s.data.toList = false) : Calls Tryd.prog 30 #[.string s] w fun e w' => e = .returned (.tuple #[.int .i64 0, .bool false]) ∧ Below w.heap.size w w' := by
  have HG := hide hg
  have H := hide h
  clear hg h
  go_enter Tryd.func30, Tryd.ntmps30
  go_wp2_with fail
  refine (groundOf_no s _ hs HG.out H.out).mono ?_
  rintro e w1 ⟨rfl, hb⟩
  go_wp2
  go_rounds 1
  all_goals
    go_returns
    exact ⟨rfl, hb⟩

def PlI (s : ByteArray) (w wr : World) : Prop := RowsAt wr w.heap.size (rowsB s) ∧ Below w.heap.size w wr
set_option maxHeartbeats 1600000 in
theorem implPlaces_yes (s : ByteArray) (w : World) (hs : s.size ≤ 1048576) (hg : Glob w) (h : isGd s.data.toList = true) : Calls Tryd.prog 30 #[.string s] w fun e w' => e = .returned (.tuple #[.int .i64 (plV s.data.toList), .bool true]) ∧ Below w.heap.size w w' := by
  have HG := hide hg
  have H := hide h
  have HV := hide (show plV s.data.toList = (plN s.data.toList (width s.data.toList) ((splitP s.data.toList).length * width s.data.toList * 3) : Int) from if_pos h)
  have hbd := bd_facts (gd_bd h)
  rw [width_ungl, rows_ungl] at hbd
  obtain ⟨hw0, hw7, hh0, hh7, -, -⟩ := hbd
  have HROW := hide (fun (y : Nat) (hy : y < (splitP s.data.toList).length) => rowG h hy)
  have hlen : (rowsB s).length = (splitP s.data.toList).length := by rw [← rowsB_data, List.length_map]
  generalize width s.data.toList = W at hw0 hw7 HROW HV
  generalize (splitP s.data.toList).length = Hh at hh0 hh7 HROW HV hlen
  have HLEN := hide hlen
  clear hg h hlen
  go_enter Tryd.func30, Tryd.ntmps30
  go_wp2_with fail
  refine (groundOf_yes s _ hs HG.out H.out).mono ?_
  rintro e w1 ⟨rfl, ha, hb⟩
  have HST := hide (show PlI s w w1 from ⟨ha, hb⟩)
  rw [HLEN.out]
  clear ha hb
  go_wp2
  go_loopw [18, 6, 7, 8, 9, 10, 25] (fun yi c _ _ _ _ _ wr => ∃ y : Nat, y ≤ Hh ∧ yi = .int .i64 (y : Int) ∧ c = .int .i64 (plN s.data.toList W ((y * W + 0) * 3 + 0) : Int) ∧ PlI s w wr) (fun yi _ _ _ _ _ _ _ => Hh - (intOf yi).toNat)
  case atStart => exact ⟨0, by omega, rfl, by simp [plN], HST.out⟩
  case round =>
    clear HST
    obtain ⟨y, hy, rfl, rfl, T⟩ := hrel
    by_cases hlt : y < Hh
    · have hyi : (y : Int) < (Hh : Int) := by omega
      obtain ⟨r, hr, hrs⟩ := HROW.out y hlt
      have cr := T.1.cell hr
      have HT := hide T
      have hri : (r.size : Int) = (W : Int) := by rw [hrs]
      clear T hr hrs
      go_wp2
      clear cr
      try rw [hri]
      clear hri
      go_loopw [25, 6, 9, 10] (fun xi c _ _ wr => ∃ x : Nat, x ≤ W ∧ xi = .int .i64 (x : Int) ∧ c = .int .i64 (plN s.data.toList W ((y * W + x) * 3 + 0) : Int) ∧ PlI s w wr) (fun xi _ _ _ _ => W - (intOf xi).toNat)
      case atStart => exact ⟨0, by omega, rfl, rfl, HT.out⟩
      case round =>
        clear HT
        obtain ⟨x, hx, rfl, rfl, T⟩ := hrel
        by_cases hlx : x < W
        · have hxi : (x : Int) < (W : Int) := by omega
          have HT := hide T
          clear T
          go_wp2
          go_loopw [10, 6] (fun pi c wr => ∃ p : Nat, p ≤ 3 ∧ pi = .int .i64 (p : Int) ∧ c = .int .i64 (plN s.data.toList W ((y * W + x) * 3 + p) : Int) ∧ PlI s w wr) (fun pi _ _ => 3 - (intOf pi).toNat)
          case atStart => exact ⟨0, by omega, rfl, rfl, HT.out⟩
          case round =>
            clear HT
            obtain ⟨p, hp, rfl, rfl, T⟩ := hrel
            by_cases hlp : p < 3
            · have hpi : (p : Int) ≤ 2 := by omega
              have hsm := plN_small (l := s.data.toList) (W := W) (H := Hh) (y := y) (x := x) (p := p) hw7 hh7 hlt hlx hlp
              obtain ⟨ha, hb⟩ := T
              have HA := hide ha
              clear ha
              cases hgx : goodX (splitP s.data.toList) ⟨(x : Int), (y : Int), (p : Int)⟩
              · have HN := hide (plN_no hlx hlp hgx)
                have HGX := hide hgx
                clear hgx
                generalize plN s.data.toList W ((y * W + x) * 3 + p) = m at hsm HN
                go_wp2_with fail
                rw [← HLEN.out]
                refine (isBoxOn_any s _ ⟨(x : Int), (y : Int), (p : Int)⟩ _ hs H.out HA.out).mono ?_
                rintro e w2 ⟨rfl, hb2⟩
                rw [HGX.out, HLEN.out]
                have HT2 := hide (show PlI s w w2 from ⟨rowsAt_to hb2 HA.out rfl, below_after hb hb2 hb.size⟩)
                clear hb2
                go_wp2
                go_roundw
                case rel => exact ⟨p + 1, by omega, by go_num, by rw [HN.out], HT2.out⟩
                case measure => simp [intOf] <;> omega
              · have HN := hide (plN_yes hlx hlp hgx)
                have HGX := hide hgx
                clear hgx
                generalize plN s.data.toList W ((y * W + x) * 3 + p) = m at hsm HN
                go_wp2_with fail
                rw [← HLEN.out]
                refine (isBoxOn_any s _ ⟨(x : Int), (y : Int), (p : Int)⟩ _ hs H.out HA.out).mono ?_
                rintro e w2 ⟨rfl, hb2⟩
                rw [HGX.out, HLEN.out]
                have HT2 := hide (show PlI s w w2 from ⟨rowsAt_to hb2 HA.out rfl, below_after hb hb2 hb.size⟩)
                clear hb2
                go_wp2
                go_roundw
                case rel => exact ⟨p + 1, by omega, by go_num, by rw [HN.out]; go_num, HT2.out⟩
                case measure => simp [intOf] <;> omega
            · obtain rfl : p = 3 := by omega
              have HT := hide T
              have HE := hide (show (y * W + x) * 3 + 3 = (y * W + (x + 1)) * 3 + 0 by omega)
              clear T
              go_wp2
              go_roundw
              case rel => exact ⟨x + 1, by omega, by go_num, by rw [HE.out], HT.out⟩
              case measure => simp [intOf] <;> omega
        · obtain rfl : x = W := by omega
          have HT := hide T
          have HE := hide (show (y * x + x) * 3 + 0 = ((y + 1) * x + 0) * 3 + 0 by rw [Nat.add_mul y 1 x]; omega)
          clear T
          go_wp2
          go_roundw
          case rel => exact ⟨y + 1, by omega, by go_num, by rw [HE.out], HT.out⟩
          case measure => simp [intOf] <;> omega
    · obtain rfl : y = Hh := by omega
      have HT := hide T
      have HE := hide (show (y * W + 0) * 3 + 0 = y * W * 3 by omega)
      rw [HE.out]
      clear T
      go_wp2
      go_returns
      exact ⟨by rw [HV.out]; rfl, HT.out.2⟩

set_option maxHeartbeats 800000 in
theorem specPlaces_no (s : ByteArray) (w : World) (hs : s.size ≤ 1048576) (h : isGd s.data.toList = false) : Calls Tryd.prog 29 #[.string s] w fun e w' => e = .returned (.tuple #[.int .i64 0, .bool false]) ∧ Below w.heap.size w w' := by
  have H := hide h
  clear h
  go_enter Tryd.func29, Tryd.ntmps29
  go_wp2_with fail
  refine (bxRead_no s _ hs H.out).mono ?_
  rintro e w1 ⟨rfl, hb⟩
  go_wp2
  go_returns
  exact ⟨rfl, hb.alloc hb.size _⟩
def PlS (W H n g cap : Nat) (F : List UInt8) (b : Nat) (w wr : World) : Prop := IsG wr b (W : Int) (H : Int) (.slice (some ⟨g, 0, none⟩) n cap) ∧ BytesAt wr g F ∧ Below w.heap.size w wr
set_option maxHeartbeats 1600000 in
theorem specPlaces_yes (s : ByteArray) (w : World) (hs : s.size ≤ 1048576) (h : isGd s.data.toList = true) : Calls Tryd.prog 29 #[.string s] w fun e w' => e = .returned (.tuple #[.int .i64 (plV s.data.toList), .bool true]) ∧ Below w.heap.size w w' := by
  have H := hide h
  have HV := hide (show plV s.data.toList = (plN s.data.toList (width s.data.toList) ((splitP s.data.toList).length * width s.data.toList * 3) : Int) from if_pos h)
  clear h
  go_enter Tryd.func29, Tryd.ntmps29
  go_wp2_with fail
  refine (bxRead_yes s _ hs H.out).mono ?_
  rintro e w1 ⟨W, Hh, n, g, cap, hG, rfl, hA, hb⟩
  have HGR := hide hG
  obtain ⟨hw0, hw7, hh0, hh7, -⟩ := grid_facts hG.grid
  have hV := HV.out
  rw [hG.2.1, hG.2.2.1] at hV
  have HV2 := hide hV
  have hA1 : BytesAt (w1.alloc (.cells #[.int .i64 (W : Int), .int .i64 (Hh : Int), .slice (some ⟨g, 0, none⟩) n cap] 44)) g (splitP s.data.toList).flatten := bytesAt_to ((Below.refl _ _).alloc (Nat.le_refl _) _) hA rfl
  have HST := hide (show PlS W Hh n g cap (splitP s.data.toList).flatten w1.heap.size w (w1.alloc (.cells #[.int .i64 (W : Int), .int .i64 (Hh : Int), .slice (some ⟨g, 0, none⟩) n cap] 44)) from ⟨IsG.new, hA1, hb.alloc hb.size _⟩)
  clear hG hA hA1 hb hV HV
  go_wp2
  generalize w1.heap.size = b1 at HST ⊢
  go_loopw [7, 6, 8, 9] (fun yi c _ _ wr => ∃ y : Nat, y ≤ Hh ∧ yi = .int .i64 (y : Int) ∧ c = .int .i64 (plN s.data.toList W ((y * W + 0) * 3 + 0) : Int) ∧ PlS W Hh n g cap (splitP s.data.toList).flatten b1 w wr) (fun yi _ _ _ _ => Hh - (intOf yi).toNat)
  case atStart => exact ⟨0, by omega, rfl, by simp [plN], HST.out⟩
  case round =>
    clear HST
    obtain ⟨y, hy, rfl, rfl, T⟩ := hrel
    obtain ⟨l0, ⟨a0, a1, a2⟩, -⟩ := T.1.all
    have HT := hide T
    clear T
    by_cases hlt : y < Hh
    · have hyi : (y : Int) < (Hh : Int) := by omega
      go_wp2
      clear a0 a1 a2 l0
      go_loopw [8, 6, 9] (fun xi c _ wr => ∃ x : Nat, x ≤ W ∧ xi = .int .i64 (x : Int) ∧ c = .int .i64 (plN s.data.toList W ((y * W + x) * 3 + 0) : Int) ∧ PlS W Hh n g cap (splitP s.data.toList).flatten b1 w wr) (fun xi _ _ _ => W - (intOf xi).toNat)
      case atStart => exact ⟨0, by omega, rfl, rfl, HT.out⟩
      case round =>
        clear HT
        obtain ⟨x, hx, rfl, rfl, T⟩ := hrel
        obtain ⟨l0, ⟨a0, a1, a2⟩, -⟩ := T.1.all
        have HT := hide T
        clear T
        by_cases hlx : x < W
        · have hxi : (x : Int) < (W : Int) := by omega
          go_wp2
          clear a0 a1 a2 l0
          go_loopw [9, 6] (fun pi c wr => ∃ p : Nat, p ≤ 3 ∧ pi = .int .i64 (p : Int) ∧ c = .int .i64 (plN s.data.toList W ((y * W + x) * 3 + p) : Int) ∧ PlS W Hh n g cap (splitP s.data.toList).flatten b1 w wr) (fun pi _ _ => 3 - (intOf pi).toNat)
          case atStart => exact ⟨0, by omega, rfl, rfl, HT.out⟩
          case round =>
            clear HT
            obtain ⟨p, hp, rfl, rfl, T⟩ := hrel
            by_cases hlp : p < 3
            · have hpi : (p : Int) ≤ 2 := by omega
              have hsm := plN_small (l := s.data.toList) (W := W) (H := Hh) (y := y) (x := x) (p := p) hw7 hh7 hlt hlx hlp
              obtain ⟨hg1, ha, hb⟩ := T
              obtain ⟨l0, ⟨a0, a1, a2⟩, -⟩ := hg1.all
              have HA := hide ha
              have HG1 := hide hg1
              clear ha hg1
              cases hgx : goodX (splitP s.data.toList) ⟨(x : Int), (y : Int), (p : Int)⟩
              · have HN := hide (plN_no hlx hlp hgx)
                have HGX := hide hgx
                clear hgx
                generalize plN s.data.toList W ((y * W + x) * 3 + p) = m at hsm HN
                go_wp2_with fail
                refine (bxGood_any s.data.toList W Hh n HGR.out g cap ⟨(x : Int), (y : Int), (p : Int)⟩ _ HA.out).mono ?_
                rintro e w2 ⟨rfl, hb2⟩
                rw [HGX.out]
                have HT2 := hide (show PlS W Hh n g cap (splitP s.data.toList).flatten b1 w w2 from ⟨isG_to hb2 HG1.out rfl, bytesAt_to hb2 HA.out rfl, below_after hb hb2 hb.size⟩)
                clear hb2 a0 a1 a2 l0
                go_wp2
                go_roundw
                case rel => exact ⟨p + 1, by omega, by go_num, by rw [HN.out], HT2.out⟩
                case measure => simp [intOf] <;> omega
              · have HN := hide (plN_yes hlx hlp hgx)
                have HGX := hide hgx
                clear hgx
                generalize plN s.data.toList W ((y * W + x) * 3 + p) = m at hsm HN
                go_wp2_with fail
                refine (bxGood_any s.data.toList W Hh n HGR.out g cap ⟨(x : Int), (y : Int), (p : Int)⟩ _ HA.out).mono ?_
                rintro e w2 ⟨rfl, hb2⟩
                rw [HGX.out]
                have HT2 := hide (show PlS W Hh n g cap (splitP s.data.toList).flatten b1 w w2 from ⟨isG_to hb2 HG1.out rfl, bytesAt_to hb2 HA.out rfl, below_after hb hb2 hb.size⟩)
                clear hb2 a0 a1 a2 l0
                go_wp2
                go_roundw
                case rel => exact ⟨p + 1, by omega, by go_num, by rw [HN.out]; go_num, HT2.out⟩
                case measure => simp [intOf] <;> omega
            · obtain rfl : p = 3 := by omega
              have HT := hide T
              have HE := hide (show (y * W + x) * 3 + 3 = (y * W + (x + 1)) * 3 + 0 by omega)
              clear T
              go_wp2
              go_roundw
              case rel => exact ⟨x + 1, by omega, by go_num, by rw [HE.out], HT.out⟩
              case measure => simp [intOf] <;> omega
        · obtain rfl : x = W := by omega
          have HE := hide (show (y * x + x) * 3 + 0 = ((y + 1) * x + 0) * 3 + 0 by rw [Nat.add_mul y 1 x]; omega)
          go_wp2
          go_roundw
          case rel => exact ⟨y + 1, by omega, by go_num, by rw [HE.out], HT.out⟩
          case measure => simp [intOf] <;> omega
    · obtain rfl : y = Hh := by omega
      have HE := hide (show (y * W + 0) * 3 + 0 = y * W * 3 by omega)
      rw [HE.out]
      go_wp2
      go_returns
      exact ⟨by rw [HV2.out]; rfl, HT.out.2.2⟩
theorem specPlaces_any (s : ByteArray) (w : World) (hs : s.size ≤ 1048576) : Calls Tryd.prog 29 #[.string s] w fun e w' => e = .returned (.tuple #[.int .i64 (plV s.data.toList), .bool (isGd s.data.toList)]) ∧ Below w.heap.size w w' := by
  cases h : isGd s.data.toList
  · have e : plV s.data.toList = 0 := by unfold plV; rw [h]; rfl
    rw [e]
    exact specPlaces_no s w hs h
  · exact specPlaces_yes s w hs h
theorem implPlaces_any (s : ByteArray) (w : World) (hs : s.size ≤ 1048576) (hg : Glob w) : Calls Tryd.prog 30 #[.string s] w fun e w' => e = .returned (.tuple #[.int .i64 (plV s.data.toList), .bool (isGd s.data.toList)]) ∧ Below w.heap.size w w' := by
  cases h : isGd s.data.toList
  · have e : plV s.data.toList = 0 := by unfold plV; rw [h]; rfl
    rw [e]
    exact implPlaces_no s w hs hg h
  · exact implPlaces_yes s w hs hg h

set_option maxHeartbeats 800000 in
theorem walk_PlacesOnGround (v : ByteArray) (hv : v.size ≤ maxLen) (w : World) (hg : Glob w) : Calls Tryd.prog 10 #[.string v] w fun e w' => e = .returned (.bool true) ∧ Below w.heap.size w w' := by
  have HGL := hide hg
  clear hg
  by_cases h1 : v.size ≤ 1048576
  · have HS := hide h1
    go_enter Tryd.func10, Tryd.ntmps10
    go_wp2_with fail
    refine (specPlaces_any v _ HS.out).mono ?_
    rintro e w1 ⟨rfl, hb1⟩
    generalize hz0 : plV v.data.toList = z0
    have HZ0 := hide hz0
    clear hz0
    generalize hz1 : isGd v.data.toList = z1
    have HZ1 := hide hz1
    clear hz1
    have hg1 := hide (glob_to hb1 HGL.out rfl)
    go_wp2_with fail
    refine (implPlaces_any v _ HS.out hg1.out).mono ?_
    rintro e w2 ⟨rfl, hb2⟩
    rw [HZ0.out, HZ1.out]
    have e1 : (z1 != z1) = false := by simp
    go_wp2
    go_returns
    exact ⟨rfl, below_after hb1 hb2 hb1.size⟩
  · go_enter Tryd.func10, Tryd.ntmps10
    go_wp2
    go_returns
    exact ⟨rfl, Below.refl _ _⟩
end Go.Proofs.YtoojoghgbmpbpaaDoor
