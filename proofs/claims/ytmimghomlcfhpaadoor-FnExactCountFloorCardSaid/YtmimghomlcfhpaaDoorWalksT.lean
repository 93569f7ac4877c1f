/- The walks of the laws of CountFloor and IsState. -/
import Derived.Test.YtmimghomlcfhpaaDoorWalksQ
import Derived.Test.YtmimghomlcfhpaaDoorStates
namespace Go.Proofs.YtmimghomlcfhpaaDoor
set_option maxRecDepth 100000
set_option linter.all false
open Go.RowKit

/-! ### CountFloor -/
theorem count_split : ∀ (l : List UInt8), (splitP l).flatten.count 46 = l.count 46
  | [] => rfl
  | c :: l => by
    have ih := count_split l
    unfold splitP
    split
    · rename_i h
      subst h
      rw [List.flatten_cons, List.nil_append, ih]
      simp
    · obtain ⟨r, rs, hr⟩ := splitP_cons l
      rw [hr] at ih ⊢
      simp only [consHead, List.flatten_cons, List.cons_append] at ih ⊢
      rw [List.count_cons, List.count_cons, ih]
def cfS (l : List UInt8) : Int := if isBd l = true then ((l.count 46 : Nat) : Int) else 0
theorem count_snoc46 (L : List UInt8) (k : Nat) (c : UInt8) (h : L[k]? = some c) : (L.take (k + 1)).count 46 = (L.take k).count 46 + (if (c.toNat : Int) = 46 then 1 else 0) := by
  rw [List.take_add_one, h, List.count_append]
  congr 1
  by_cases hc : (c.toNat : Int) = 46
  · have : c = 46 := by apply UInt8.toNat_inj.1; show c.toNat = 46; omega
    subst this
    rfl
  · have : c ≠ 46 := fun e => hc (by rw [e]; rfl)
    rw [if_neg hc]
    simp [this]
set_option maxHeartbeats 800000 in
theorem specCountFloor_any (s : ByteArray) (w : World) (hs : s.size ≤ 1048576) : Calls Tryd.prog 14 #[.string s] w fun e w' => e = .returned (.tuple #[.int .i64 (cfS s.data.toList), .bool (isBd s.data.toList)]) ∧ Below w.heap.size w w' := by
  cases h : isBd s.data.toList
  · have H := hide h
    have HX := hide (show cfS s.data.toList = 0 from by unfold cfS; rw [h]; rfl)
    rw [HX.out]
    clear h
    go_enter Tryd.func14, Tryd.ntmps14
    go_wp2_with fail
    refine (boRead_no s _ hs H.out).mono ?_
    rintro e w1 ⟨rfl, hb⟩
    go_wp2
    go_returns
    exact ⟨rfl, hb.alloc hb.size _⟩
  · have H := hide h
    have HX := hide (show cfS s.data.toList = (((splitP s.data.toList).flatten.count 46 : Nat) : Int) from by unfold cfS; rw [h, count_split]; rfl)
    clear h
    go_enter Tryd.func14, Tryd.ntmps14
    go_wp2_with fail
    refine (boRead_yes s _ hs H.out).mono ?_
    rintro e w1 ⟨W, Hh, n, g, cap, hG, rfl, hA, hb⟩
    have hn := hG.2.2.2
    have hgf := grid_facts hG
    have hn49 : n ≤ 49 := by
      obtain ⟨_, a, _, b, c⟩ := hgf
      rw [c]
      exact Nat.mul_le_mul a b
    have hA1 : BytesAt (w1.alloc (.cells #[.int .i64 (W : Int), .int .i64 (Hh : Int), .slice (some ⟨g, 0, none⟩) n cap] 42)) g (splitP s.data.toList).flatten := bytesAt_to ((Below.refl _ _).alloc (Nat.le_refl _) _) hA rfl
    have q1 := hb.alloc hb.size (.cells #[.int .i64 (W : Int), .int .i64 (Hh : Int), .slice (some ⟨g, 0, none⟩) n cap] 42)
    generalize (splitP s.data.toList).flatten = L at hA1 hn HX
    have HN := hide hn
    have HA := hide hA1
    clear hA hA1 hn hG hgf
    go_wp2
    go_loop [19, 6, 8] (fun i x _ => ∃ k : Nat, k ≤ n ∧ i = .int .i64 (k : Int) ∧ x = .int .i64 (((L.take k).count 46 : Nat) : Int)) (fun i _ _ => n - (intOf i).toNat)
    case atStart => exact ⟨0, Nat.zero_le _, rfl, rfl⟩
    case round =>
      obtain ⟨k, hk, rfl, rfl⟩ := hrel
      have hcl : (L.take k).count 46 ≤ k := Nat.le_trans List.count_le_length (List.length_take_le _ _)
      by_cases hlt : k < n
      · have hlL : k < L.length := by rw [HN.out]; exact hlt
        have hc : L[k]? = some (L[k]'hlL) := List.getElem?_eq_getElem hlL
        generalize L[k]'hlL = c at hc
        have hcell := HA.out.cell hc
        have HS := hide (count_snoc46 L k c hc)
        generalize hm : (L.take k).count 46 = m at hcl HS
        have hki : (k : Int) < (n : Int) := by omega
        clear hc hm
        by_cases h46 : (c.toNat : Int) = 46
        · obtain ⟨e1, e2⟩ := byte_eq h46
          have HE := hide (show (L.take (k + 1)).count 46 = m + 1 from by rw [HS.out, if_pos h46])
          clear h46
          go_wp2
          go_round
          case rel => exact ⟨k + 1, by omega, by go_num, by rw [HE.out]; go_num⟩
          case measure => simp [intOf] <;> omega
        · obtain ⟨e1, e2⟩ := byte_ne h46
          have HE := hide (show (L.take (k + 1)).count 46 = m from by rw [HS.out, if_neg h46]; rfl)
          clear h46
          go_wp2
          go_round
          case rel => exact ⟨k + 1, by omega, by go_num, by rw [HE.out]⟩
          case measure => simp [intOf] <;> omega
      · have e : k = n := by omega
        subst e
        have ht : L.take k = L := List.take_of_length_le (by rw [HN.out]; exact Nat.le_refl _)
        rw [ht]
        generalize hm : L.count 46 = m at HX
        clear hm ht hcl
        go_wp2
        go_returns
        exact ⟨by rw [HX.out]; rfl, q1⟩
theorem count46_any (s : ByteArray) (n : Nat) (h : s.data.toList.count 46 = n) (w : World) : Calls Tryd.prog 25 #[.string s, .string ⟨#[46]⟩] w fun e w' => e = .returned (.int .i64 (n : Int)) ∧ w = w' :=
  (Tryd.strings_Count_one s 46 w).mono fun e w' h2 => ⟨h2.1.trans (by rw [← h]; rfl), h2.2.symm⟩
theorem implCountFloor_any (s : ByteArray) (w : World) (hs : s.size ≤ 1048576) (hg : Glob w) : Calls Tryd.prog 15 #[.string s] w fun e w' => e = .returned (.tuple #[.int .i64 (cfS s.data.toList), .bool (isBd s.data.toList)]) ∧ Below w.heap.size w w' := by
  have HG := hide hg
  clear hg
  cases h : isBd s.data.toList
  · have H := hide h
    have HX := hide (show cfS s.data.toList = 0 from by unfold cfS; rw [h]; rfl)
    rw [HX.out]
    clear h
    go_enter Tryd.func15, Tryd.ntmps15
    go_wp2_with fail
    refine (implIsBoard_any s _ hs HG.out).mono ?_
    rintro e w1 ⟨rfl, hb⟩
    rw [H.out]
    go_wp2
    go_returns
    exact ⟨rfl, hb⟩
  · have H := hide h
    have HX := hide (show cfS s.data.toList = ((s.data.toList.count 46 : Nat) : Int) from by unfold cfS; rw [h]; rfl)
    clear h
    generalize hm : s.data.toList.count 46 = m at HX
    have HM := hide hm
    clear hm
    go_enter Tryd.func15, Tryd.ntmps15
    go_wp2_with fail
    refine (implIsBoard_any s _ hs HG.out).mono ?_
    rintro e w1 ⟨rfl, hb⟩
    rw [H.out]
    go_wp2_with fail
    refine (count46_any s m HM.out _).mono ?_
    rintro e w2 ⟨rfl, rfl⟩
    go_wp2
    go_returns
    exact ⟨by rw [HX.out]; rfl, hb⟩

set_option maxHeartbeats 800000 in
theorem walk_CountFloor (v : ByteArray) (hv : v.size ≤ maxLen) (w : World) (hg : Glob w) : Calls Tryd.prog 6 #[.string v] w fun e w' => e = .returned (.bool true) ∧ Below w.heap.size w w' := by
  have HGL := hide hg
  clear hg
  by_cases h1 : v.size ≤ 1048576
  · have HS := hide h1
    go_enter Tryd.func6, Tryd.ntmps6
    go_wp2_with fail
    refine (specCountFloor_any v _ HS.out).mono ?_
    rintro e w1 ⟨rfl, hb1⟩
    generalize hz0 : cfS v.data.toList = z0
    have HZ0 := hide hz0
    clear hz0
    generalize hz1 : isBd v.data.toList = z1
    have HZ1 := hide hz1
    clear hz1
    have hg1 := hide (glob_to hb1 HGL.out rfl)
    go_wp2_with fail
    refine (implCountFloor_any v _ HS.out hg1.out).mono ?_
    rintro e w2 ⟨rfl, hb2⟩
    rw [HZ0.out, HZ1.out]
    have e1 : (z1 != z1) = false := by simp
    go_wp2
    go_returns
    exact ⟨rfl, below_after hb1 hb2 hb1.size⟩
  · go_enter Tryd.func6, Tryd.ntmps6
    go_wp2
    go_returns
    exact ⟨rfl, Below.refl _ _⟩

set_option maxHeartbeats 800000 in
theorem specIsState_any (s : ByteArray) (t : St) (w : World) (hs : s.size ≤ 1048576) : Calls Tryd.prog 16 #[.string s, St.v t] w fun e w' => e = .returned (.tuple #[.bool (isBd s.data.toList && stL s.data.toList t), .bool (isBd s.data.toList)]) ∧ Below w.heap.size w w' := by
  cases h : isBd s.data.toList
  · have H := hide h
    clear h
    rw [Bool.false_and]
    go_enter Tryd.func16, Tryd.ntmps16
    go_wp2_with fail
    refine (boRead_no s _ hs H.out).mono ?_
    rintro e w1 ⟨rfl, hb1⟩
    have q1 : Below w.heap.size w w1 := below_after (by go_grown) hb1 (by simp)
    go_wp2
    go_returns
    exact ⟨rfl, q1.alloc q1.size _⟩
  · have H := hide h
    clear h
    rw [Bool.true_and]
    generalize hst : stL s.data.toList t = st
    have HST := hide hst
    clear hst
    go_enter Tryd.func16, Tryd.ntmps16
    go_wp2_with fail
    refine (boRead_yes s _ hs H.out).mono ?_
    rintro e w1 ⟨W, Hh, n, g, cap, hG, rfl, hA, hb1⟩
    have u1 := (isS_to hb1 (IsS.new (s := t) (ty := 37)) rfl).alloc (.cells #[.int .i64 (W : Int), .int .i64 (Hh : Int), .slice (some ⟨g, 0, none⟩) n cap] 42)
    have q1 : Below w.heap.size w w1 := below_after (by go_grown) hb1 (by simp)
    have q1a := q1.alloc q1.size (.cells #[.int .i64 (W : Int), .int .i64 (Hh : Int), .slice (some ⟨g, 0, none⟩) n cap] 42)
    have HA := hide (show BytesAt (w1.alloc (.cells #[.int .i64 (W : Int), .int .i64 (Hh : Int), .slice (some ⟨g, 0, none⟩) n cap] 42)) g (splitP s.data.toList).flatten from bytesAt_to ((Below.refl _ _).alloc (Nat.le_refl _) _) hA rfl)
    have HGR := hide hG
    obtain ⟨l1, ⟨c0, c1, c2, c3, c4, c5, c6, c7⟩, -⟩ := u1.all
    clear hb1 u1 hA hG q1
    go_wp2_with fail
    clear c0 c1 c2 c3 c4 c5 c6 c7 l1
    refine (boState_any s.data.toList W Hh n HGR.out g cap t _ HA.out).mono ?_
    rintro e w2 ⟨rfl, hb2⟩
    rw [HST.out]
    have q2 := below_to hb2 q1a q1a.size rfl rfl rfl rfl
    go_wp2
    go_returns
    exact ⟨rfl, q2⟩

set_option maxHeartbeats 800000 in
theorem implIsState_any (s : ByteArray) (t : St) (w : World) (hs : s.size ≤ 1048576) (hg : Glob w) : Calls Tryd.prog 18 #[.string s, St.v t] w fun e w' => e = .returned (.tuple #[.bool (isBd s.data.toList && stL s.data.toList t), .bool (isBd s.data.toList)]) ∧ Below w.heap.size w w' := by
  have HG := hide (show Glob (w.alloc (.cells #[.int .i64 t.x, .int .i64 t.y, .int .i64 t.d.t, .int .i64 t.d.n, .int .i64 t.d.e, .int .i64 t.d.s, .int .i64 t.d.w, .int .i64 t.d.b] 37)) from glob_to (w0 := w) ((Below.refl _ _).alloc (Nat.le_refl _) _) hg rfl)
  clear hg
  cases h : isBd s.data.toList
  · have H := hide h
    clear h
    rw [Bool.false_and]
    go_enter Tryd.func18, Tryd.ntmps18
    go_wp2_with fail
    refine (rowsOf_no s _ hs HG.out H.out).mono ?_
    rintro e w1 ⟨rfl, hb1⟩
    have q1 : Below w.heap.size w w1 := below_after (by go_grown) hb1 (by simp)
    go_wp2
    go_returns
    exact ⟨rfl, q1⟩
  · have H := hide h
    clear h
    rw [Bool.true_and]
    generalize hst : stL s.data.toList t = st
    have HST := hide hst
    clear hst
    go_enter Tryd.func18, Tryd.ntmps18
    go_wp2_with fail
    refine (rowsOf_yes s _ hs HG.out H.out).mono ?_
    rintro e w1 ⟨rfl, ha, hb1⟩
    simp only [World.size_alloc] at ha
    have u1 := isS_to hb1 (IsS.new (s := t) (ty := 37)) rfl
    have q1 : Below w.heap.size w w1 := below_after (by go_grown) hb1 (by simp)
    have HA := hide ha
    obtain ⟨l1, ⟨c0, c1, c2, c3, c4, c5, c6, c7⟩, -⟩ := u1.all
    clear hb1 u1 ha
    go_wp2_with fail
    clear c0 c1 c2 c3 c4 c5 c6 c7 l1
    refine (isStateOn_any s _ t _ hs H.out HA.out).mono ?_
    rintro e w2 ⟨rfl, hb2⟩
    rw [HST.out]
    have q2 := below_to hb2 q1 q1.size rfl rfl rfl rfl
    go_wp2
    go_returns
    exact ⟨rfl, q2⟩

set_option maxHeartbeats 1600000 in
theorem walk_IsState (v : ByteArray) (hv : v.size ≤ maxLen) (t : St) (htx : (Lit.int .i64 t.x).wf = true) (hty : (Lit.int .i64 t.y).wf = true) (w : World) (hg : Glob w) : Calls Tryd.prog 7 #[.string v, St.v t] w fun e w' => e = .returned (.bool true) ∧ Below w.heap.size w w' := by
  have HGL := hide hg
  clear hg
  by_cases h0 : v.size ≤ 1048576
  · have HS0 := hide h0
    go_enter Tryd.func7, Tryd.ntmps7
    go_wp2_with fail
    refine (toState_any t _).mono ?_
    rintro e w1 ⟨rfl, hb1⟩
    have u1 := isS_to hb1 (IsS.new (w := w) (s := t) (ty := 33)) rfl
    have q1 : Below w.heap.size w w1 := below_after (by go_grown) hb1 (by simp)
    clear hb1
    go_wp2_with fail
    refine (specIsState_any v t _ HS0.out).mono ?_
    rintro e w2 ⟨rfl, hb2⟩
    have u2 := isS_to hb2 u1 rfl
    have q2 := below_to hb2 q1 q1.size rfl rfl rfl rfl
    clear hb2 u1 q1
    generalize hz0 : (isBd v.data.toList && stL v.data.toList t) = z0
    have HZ0 := hide hz0
    clear hz0
    generalize hz1 : isBd v.data.toList = z1
    have HZ1 := hide hz1
    clear hz1
    obtain ⟨l1, ⟨c0, c1, c2, c3, c4, c5, c6, c7⟩, -⟩ := u2.all
    go_wp2_with fail
    clear c0 c1 c2 c3 c4 c5 c6 c7 l1
    refine (toState_any t _).mono ?_
    rintro e w3 ⟨rfl, hb3⟩
    have q3 := below_to hb3 q2 q2.size rfl rfl rfl rfl
    have hg3 := hide (show Glob w3 from by
      have hl := HGL.out.lt
      obtain ⟨m, hm⟩ := HGL.out
      exact ⟨m, (q3.cell (p := ⟨0, 0, none⟩) hl).trans hm⟩)
    clear hb3 u2 q2
    go_wp2_with fail
    refine (implIsState_any v t _ HS0.out hg3.out).mono ?_
    rintro e w4 ⟨rfl, hb4⟩
    rw [HZ0.out, HZ1.out]
    have q4 := below_to hb4 q3 q3.size rfl rfl rfl rfl
    have e0 : (z0 != z0) = false := by simp
    have e1 : (z1 != z1) = false := by simp
    go_wp2
    go_returns
    exact ⟨rfl, q4⟩
  · go_enter Tryd.func7, Tryd.ntmps7
    go_wp2
    go_returns
    exact ⟨rfl, by go_grown⟩
end Go.Proofs.YtmimghomlcfhpaaDoor
