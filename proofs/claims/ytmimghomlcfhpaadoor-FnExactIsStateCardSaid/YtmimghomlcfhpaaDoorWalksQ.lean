/- The walks of the laws of BoardSize, IsFloor and CountFloor. -/
import Derived.Test.YtmimghomlcfhpaaDoorWalksP
namespace Go.Proofs.YtmimghomlcfhpaaDoor
set_option maxRecDepth 100000
set_option linter.all false
open Go.RowKit

theorem below_drewN {B : Nat} {a w : World} (h : Below B a w) (n : Nat) : Below B a (w.drewN n) := ⟨h.os, h.tape, h.output, h.size, h.block⟩

/-! ### BoardSize -/
def bsW (l : List UInt8) : Int := if isBd l = true then (width l : Int) else 0
def bsH (l : List UInt8) : Int := if isBd l = true then ((splitP l).length : Int) else 0
theorem specBoardSize_any (s : ByteArray) (w : World) (hs : s.size ≤ 1048576) : Calls Tryd.prog 10 #[.string s] w fun e w' => e = .returned (.tuple #[.int .i64 (bsW s.data.toList), .int .i64 (bsH s.data.toList), .bool (isBd s.data.toList)]) ∧ Below w.heap.size w w' := by
  cases h : isBd s.data.toList
  · have H := hide h
    have HW := hide (show bsW s.data.toList = 0 from by unfold bsW; rw [h]; rfl)
    have HH := hide (show bsH s.data.toList = 0 from by unfold bsH; rw [h]; rfl)
    rw [HW.out, HH.out]
    clear h
    go_enter Tryd.func10, Tryd.ntmps10
    go_wp2_with fail
    refine (boRead_no s _ hs H.out).mono ?_
    rintro e w1 ⟨rfl, hb⟩
    go_wp2
    go_returns
    exact ⟨rfl, hb.alloc hb.size _⟩
  · have H := hide h
    have HW := hide (show bsW s.data.toList = (width s.data.toList : Int) from by unfold bsW; rw [h]; rfl)
    have HH := hide (show bsH s.data.toList = ((splitP s.data.toList).length : Int) from by unfold bsH; rw [h]; rfl)
    clear h
    go_enter Tryd.func10, Tryd.ntmps10
    go_wp2_with fail
    refine (boRead_yes s _ hs H.out).mono ?_
    rintro e w1 ⟨W, Hh, n, g, cap, hG, rfl, _, hb⟩
    have hW := hide (show bsW s.data.toList = (W : Int) from by rw [HW.out, hG.2.1])
    have hH := hide (show bsH s.data.toList = (Hh : Int) from by rw [HH.out, hG.2.2.1])
    clear hG
    go_wp2
    go_quiet (fail)
    go_wp2
    go_returns
    exact ⟨by rw [hW.out, hH.out]; rfl, below_drewN (hb.alloc hb.size _) _⟩
theorem implBoardSize_any (s : ByteArray) (w : World) (hs : s.size ≤ 1048576) (hg : Glob w) : Calls Tryd.prog 11 #[.string s] w fun e w' => e = .returned (.tuple #[.int .i64 (bsW s.data.toList), .int .i64 (bsH s.data.toList), .bool (isBd s.data.toList)]) ∧ Below w.heap.size w w' := by
  have HG := hide hg
  clear hg
  cases h : isBd s.data.toList
  · have H := hide h
    have HW := hide (show bsW s.data.toList = 0 from by unfold bsW; rw [h]; rfl)
    have HH := hide (show bsH s.data.toList = 0 from by unfold bsH; rw [h]; rfl)
    rw [HW.out, HH.out]
    clear h
    go_enter Tryd.func11, Tryd.ntmps11
    go_wp2_with fail
    refine (rowsOf_no s _ hs HG.out H.out).mono ?_
    rintro e w1 ⟨rfl, hb⟩
    go_wp2
    go_returns
    exact ⟨rfl, hb⟩
  · have H := hide h
    have hpos := rowsB_pos s
    have hlen : (rowsB s).length = (splitP s.data.toList).length := by rw [← rowsB_data, List.length_map]
    have h0 : (rowsB s)[0]? = some ((rowsB s)[0]'hpos) := List.getElem?_eq_getElem hpos
    have hsz : ((rowsB s)[0]'hpos).size = width s.data.toList := by
      have h2 := getD_rows s 0
      have h3 : (rowsB s).getD 0 ByteArray.empty = (rowsB s)[0]'hpos := by simp [hpos]
      rw [h3] at h2
      have h4 := congrArg List.length h2
      have h5 : (splitP s.data.toList).getD 0 [] = (splitP s.data.toList).headD [] := by cases splitP s.data.toList <;> rfl
      rw [h5] at h4
      simpa [width] using h4
    have hw7 := (bd_facts h).2.1
    have HR := hide (rowsOf_yes s w hs HG.out h)
    have HW := hide (show bsW s.data.toList = (((rowsB s)[0]'hpos).size : Int) from by unfold bsW; rw [h, hsz]; rfl)
    have HH := hide (show bsH s.data.toList = ((rowsB s).length : Int) from by unfold bsH; rw [h, hlen]; rfl)
    rw [← hsz] at hw7
    clear hsz hlen
    generalize (rowsB s)[0]'hpos = r at h0 hw7 HW
    generalize rowsB s = rs at h0 hpos HR HH
    have hp : (0 : Int) < (rs.length : Int) := by omega
    have H0 := hide h0
    clear h h0
    go_enter Tryd.func11, Tryd.ntmps11
    go_wp2_with fail
    refine HR.out.mono ?_
    rintro e w1 ⟨rfl, ha, hb⟩
    have c0 := ha.cell H0.out
    go_wp2
    go_returns
    exact ⟨by rw [HW.out, HH.out]; rfl, hb⟩

set_option maxHeartbeats 800000 in
theorem walk_BoardSize (v : ByteArray) (hv : v.size ≤ maxLen) (w : World) (hg : Glob w) : Calls Tryd.prog 4 #[.string v] w fun e w' => e = .returned (.bool true) ∧ Below w.heap.size w w' := by
  have HGL := hide hg
  clear hg
  by_cases h1 : v.size ≤ 1048576
  · have HS := hide h1
    go_enter Tryd.func4, Tryd.ntmps4
    go_wp2_with fail
    refine (specBoardSize_any v _ HS.out).mono ?_
    rintro e w1 ⟨rfl, hb1⟩
    generalize hz0 : bsW v.data.toList = z0
    have HZ0 := hide hz0
    clear hz0
    generalize hz1 : bsH v.data.toList = z1
    have HZ1 := hide hz1
    clear hz1
    generalize hz2 : isBd v.data.toList = z2
    have HZ2 := hide hz2
    clear hz2
    have hg1 := hide (glob_to hb1 HGL.out rfl)
    go_wp2_with fail
    refine (implBoardSize_any v _ HS.out hg1.out).mono ?_
    rintro e w2 ⟨rfl, hb2⟩
    rw [HZ0.out, HZ1.out, HZ2.out]
    have e2 : (z2 != z2) = false := by simp
    go_wp2
    go_returns
    exact ⟨rfl, below_after hb1 hb2 hb1.size⟩
  · go_enter Tryd.func4, Tryd.ntmps4
    go_wp2
    go_returns
    exact ⟨rfl, Below.refl _ _⟩

/-! ### IsFloor -/
def ifF (l : List UInt8) (x y : Int) : Bool := isBd l && inL l x y
def ifX (l : List UInt8) (x y : Int) : Bool := isBd l && floorL l x y
theorem floorL_out {l : List UInt8} (h : isBd l = true) {x y : Int} (hi : inL l x y = false) : floorL l x y = false := by unfold floorL; rw [cellI_out h hi]; rfl
set_option maxHeartbeats 800000 in
theorem specIsFloor_any (s : ByteArray) (x y : Int) (w : World) (hs : s.size ≤ 1048576) : Calls Tryd.prog 12 #[.string s, .int .i64 x, .int .i64 y] w fun e w' => e = .returned (.tuple #[.bool (ifX s.data.toList x y), .bool (ifF s.data.toList x y)]) ∧ Below w.heap.size w w' := by
  cases h : isBd s.data.toList
  · have H := hide h
    have HX := hide (show ifX s.data.toList x y = false from by unfold ifX; rw [h]; rfl)
    have HF := hide (show ifF s.data.toList x y = false from by unfold ifF; rw [h]; rfl)
    rw [HX.out, HF.out]
    clear h
    go_enter Tryd.func12, Tryd.ntmps12
    go_wp2_with fail
    refine (boRead_no s _ hs H.out).mono ?_
    rintro e w1 ⟨rfl, hb⟩
    go_wp2
    go_returns
    exact ⟨rfl, hb.alloc hb.size _⟩
  · cases hin : inL s.data.toList x y
    · have H := hide h
      have HX := hide (show ifX s.data.toList x y = false from by unfold ifX; rw [floorL_out h hin, h]; rfl)
      have HF := hide (show ifF s.data.toList x y = false from by unfold ifF; rw [hin, h]; rfl)
      have HI := hide hin
      rw [HX.out, HF.out]
      clear h hin
      go_enter Tryd.func12, Tryd.ntmps12
      go_wp2_with fail
      refine (boRead_yes s _ hs H.out).mono ?_
      rintro e w1 ⟨W, Hh, n, g, cap, hG, rfl, _, hb⟩
      have HGR := hide hG
      clear hG
      have q1 := hb.alloc hb.size (.cells #[.int .i64 (W : Int), .int .i64 (Hh : Int), .slice (some ⟨g, 0, none⟩) n cap] 42)
      go_wp2_with fail
      refine (boCell_any s.data.toList W Hh n HGR.out g cap x y _).mono ?_
      rintro e w2 ⟨rfl, hb2⟩
      rw [HI.out]
      have q2 := below_to hb2 q1 q1.size rfl rfl rfl rfl
      clear hb2 q1 hb
      go_wp2
      go_returns
      exact ⟨rfl, q2⟩
    · have H := hide h
      have HX := hide (show ifX s.data.toList x y = floorL s.data.toList x y from by unfold ifX; rw [h]; rfl)
      have HF := hide (show ifF s.data.toList x y = true from by unfold ifF; rw [hin, h]; rfl)
      have HI := hide hin
      rw [HX.out, HF.out]
      clear h hin
      generalize hfl : floorL s.data.toList x y = fl
      have HFL := hide hfl
      clear hfl
      go_enter Tryd.func12, Tryd.ntmps12
      go_wp2_with fail
      refine (boRead_yes s _ hs H.out).mono ?_
      rintro e w1 ⟨W, Hh, n, g, cap, hG, rfl, hA, hb⟩
      have HGR := hide hG
      clear hG
      have q1 := hb.alloc hb.size (.cells #[.int .i64 (W : Int), .int .i64 (Hh : Int), .slice (some ⟨g, 0, none⟩) n cap] 42)
      have hA1 : BytesAt (w1.alloc (.cells #[.int .i64 (W : Int), .int .i64 (Hh : Int), .slice (some ⟨g, 0, none⟩) n cap] 42)) g (splitP s.data.toList).flatten := bytesAt_to (by exact (Below.refl _ _).alloc (Nat.le_refl _) _) hA rfl
      have hG1 := IsG.new (w := w1) (x := (W : Int)) (y := (Hh : Int)) (v := .slice (some ⟨g, 0, none⟩) n cap)
      clear hA
      go_wp2_with fail
      refine (boCell_any s.data.toList W Hh n HGR.out g cap x y _).mono ?_
      rintro e w2 ⟨rfl, hb2⟩
      rw [HI.out]
      have q2 := below_to hb2 q1 q1.size rfl rfl rfl rfl
      have hA2 := bytesAt_to hb2 hA1 rfl
      have hG2 := isG_to hb2 hG1 rfl
      obtain ⟨l2, ⟨r0, r1, r2⟩, -⟩ := hG2.all
      have HA2 := hide hA2
      clear hb2 q1 hb hA1 hG1 hG2 hA2
      go_wp2_with fail
      clear r0 r1 r2 l2
      refine (boFloor_any s.data.toList W Hh n HGR.out g cap x y _ HA2.out).mono ?_
      rintro e w3 ⟨rfl, hb3⟩
      rw [HFL.out]
      have q3 := below_to hb3 q2 q2.size rfl rfl rfl rfl
      go_wp2
      go_returns
      exact ⟨rfl, q3⟩
theorem eq46 {c : UInt8} {b : Bool} (h : decide ((c.toNat : Int) = 46) = b) : (((c.toNat : Nat) : Int) == 46) = b := by
  rw [← h, Bool.eq_iff_iff]; simp
set_option maxHeartbeats 800000 in
theorem implIsFloor_any (s : ByteArray) (x y : Int) (w : World) (hs : s.size ≤ 1048576) (hg : Glob w) : Calls Tryd.prog 13 #[.string s, .int .i64 x, .int .i64 y] w fun e w' => e = .returned (.tuple #[.bool (ifX s.data.toList x y), .bool (ifF s.data.toList x y)]) ∧ Below w.heap.size w w' := by
  have HG := hide hg
  clear hg
  cases h : isBd s.data.toList
  · have H := hide h
    have HX := hide (show ifX s.data.toList x y = false from by unfold ifX; rw [h]; rfl)
    have HF := hide (show ifF s.data.toList x y = false from by unfold ifF; rw [h]; rfl)
    rw [HX.out, HF.out]
    clear h
    go_enter Tryd.func13, Tryd.ntmps13
    go_wp2_with fail
    refine (rowsOf_no s _ hs HG.out H.out).mono ?_
    rintro e w1 ⟨rfl, hb⟩
    go_wp2
    go_returns
    exact ⟨rfl, hb⟩
  · cases hin : inL s.data.toList x y
    · have H := hide h
      have HX := hide (show ifX s.data.toList x y = false from by unfold ifX; rw [floorL_out h hin, h]; rfl)
      have HF := hide (show ifF s.data.toList x y = false from by unfold ifF; rw [hin, h]; rfl)
      have HI := hide hin
      rw [HX.out, HF.out]
      clear h hin
      go_enter Tryd.func13, Tryd.ntmps13
      go_wp2_with fail
      refine (rowsOf_yes s _ hs HG.out H.out).mono ?_
      rintro e w1 ⟨rfl, ha, hb⟩
      go_wp2_with fail
      refine (hasCellL_any s _ x y _ hs H.out ha).mono ?_
      rintro e w2 ⟨rfl, rfl⟩
      rw [HI.out]
      go_wp2
      go_returns
      exact ⟨rfl, hb⟩
    · have H := hide h
      have HX := hide (show ifX s.data.toList x y = floorL s.data.toList x y from by unfold ifX; rw [h]; rfl)
      have HF := hide (show ifF s.data.toList x y = true from by unfold ifF; rw [hin, h]; rfl)
      have HI := hide hin
      rw [HX.out, HF.out]
      have hcl : floorL s.data.toList x y = decide (((cellI (splitP s.data.toList) x y).toNat : Int) = 46) := rfl
      rw [hcl]
      clear h hin hcl
      generalize hc : cellI (splitP s.data.toList) x y = c
      have HC := hide hc
      clear hc
      generalize hfl : decide ((c.toNat : Int) = 46) = fl
      have hq := eq46 hfl
      clear hfl
      go_enter Tryd.func13, Tryd.ntmps13
      go_wp2_with fail
      refine (rowsOf_yes s _ hs HG.out H.out).mono ?_
      rintro e w1 ⟨rfl, ha, hb⟩
      go_wp2_with fail
      refine (hasCellL_any s _ x y _ hs H.out ha).mono ?_
      rintro e w2 ⟨rfl, rfl⟩
      rw [HI.out]
      go_wp2_with fail
      refine (cellAtL_any s _ x y _ hs H.out ha).mono ?_
      rintro e w2 ⟨rfl, rfl⟩
      rw [HC.out]
      go_wp2
      go_returns
      exact ⟨rfl, hb⟩

set_option maxHeartbeats 800000 in
theorem walk_IsFloor (v : ByteArray) (hv : v.size ≤ maxLen) (x : Int) (hx : (Lit.int .i64 x).wf = true) (y : Int) (hy : (Lit.int .i64 y).wf = true) (w : World) (hg : Glob w) : Calls Tryd.prog 5 #[.string v, .int .i64 x, .int .i64 y] w fun e w' => e = .returned (.bool true) ∧ Below w.heap.size w w' := by
  have HGL := hide hg
  clear hg
  by_cases h1 : v.size ≤ 1048576
  · have HS := hide h1
    go_enter Tryd.func5, Tryd.ntmps5
    go_wp2_with fail
    refine (specIsFloor_any v x y _ HS.out).mono ?_
    rintro e w1 ⟨rfl, hb1⟩
    generalize hz0 : ifX v.data.toList x y = z0
    have HZ0 := hide hz0
    clear hz0
    generalize hz1 : ifF v.data.toList x y = z1
    have HZ1 := hide hz1
    clear hz1
    have hg1 := hide (glob_to hb1 HGL.out rfl)
    go_wp2_with fail
    refine (implIsFloor_any v x y _ HS.out hg1.out).mono ?_
    rintro e w2 ⟨rfl, hb2⟩
    rw [HZ0.out, HZ1.out]
    have e0 : (z0 != z0) = false := by simp
    have e1 : (z1 != z1) = false := by simp
    go_wp2
    go_returns
    exact ⟨rfl, below_after hb1 hb2 hb1.size⟩
  · go_enter Tryd.func5, Tryd.ntmps5
    go_wp2
    go_returns
    exact ⟨rfl, Below.refl _ _⟩
end Go.Proofs.YtmimghomlcfhpaaDoor
