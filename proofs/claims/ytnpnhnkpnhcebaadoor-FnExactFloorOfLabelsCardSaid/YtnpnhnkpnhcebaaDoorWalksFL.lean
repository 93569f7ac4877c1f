/- FnExactFloorOfLabels's walk. -/
import Derived.Test.YtnpnhnkpnhcebaaDoorWalksIL
import Derived.Test.YtnpnhnkpnhcebaaDoorTextB
namespace Go.Proofs.YtnpnhnkpnhcebaaDoor
set_option maxRecDepth 100000
set_option linter.all false
open Go.RowKit

theorem join_snoc (r : List UInt8) : ∀ rs : List (List UInt8), joinP (rs ++ [r]) = (if rs = [] then [] else joinP rs ++ [47]) ++ r
  | [] => by simp [joinP]
  | [a] => by simp [joinP]
  | a :: b :: rs => by
    have ih := join_snoc r (b :: rs)
    rw [List.cons_append, joinP_cons a (by simp), ih, if_neg (by simp), if_neg (by simp), joinP_cons a (by simp)]
    simp
theorem textT_joinP (rs : List (List UInt8)) : ∀ k, k ≤ rs.length → textT (fun i => rs.getD i []) k = joinP (rs.take k)
  | 0, _ => by simp [textT, joinP]
  | k + 1, h => by
    have ih := textT_joinP rs k (by omega)
    have e : rs[k]? = some (rs.getD k []) := by simp [List.getElem?_eq_getElem (show k < rs.length by omega)]
    rw [textT, ih, List.take_add_one, e, Option.toList_some, join_snoc]
    by_cases hk : k = 0
    · subst hk; simp
    · rw [if_neg hk, if_neg (by simp; exact ⟨hk, fun e => by subst e; simp at h⟩)]
/-- The model's text of a grid whose cells are those of a text of even rows: that text. -/
theorem boText_even (l : List UInt8) (W H n g cap : Nat) (he : Even l W) (hH : (splitP l).length = H) (hW : 1 ≤ W ∧ W ≤ 7) (hH7 : 1 ≤ H ∧ H ≤ 7) (hn : n = W * H) (hcap : n ≤ cap) (w : World) (hA : ∀ j c, (splitP l).flatten[j]? = some c → w.cell? ⟨g, j, none⟩ = some (.int .u8 (c.toNat : Int))) (hg : g < w.heap.size) :
    Calls Tryd.prog 20 #[gridV W H n g cap] w fun e w' => e = .returned (.string ⟨l.toArray⟩) ∧ Below w.heap.size w w' := by
  have e1 : textT (fun i => (splitP l).getD i []) H = l := by
    rw [textT_joinP _ _ (by omega), List.take_of_length_le (by omega), join_split]
  rw [← e1]
  refine boText_any (fun i => (splitP l).getD i []) W H n g cap hW hH7 (by rw [hn, Nat.mul_comm]) hcap (fun k hk => (even_row he (by omega)).1) w hg ?_
  intro k hk j c hc
  have hj : j < W := by
    have := (List.getElem?_eq_some_iff.1 hc).1
    rwa [(even_row he (by omega)).1] at this
  refine hA _ c ?_
  rw [cellI_flat he (by omega) hj]
  have e : cellI (splitP l) j k = ((splitP l).getD k []).getD j 35 := by unfold cellI; rw [if_pos ⟨by omega, by omega⟩]; rfl
  rw [e, List.getD, hc]
  rfl
theorem bytesAt_cap {w : World} {g : Nat} {L : List UInt8} (h : BytesAt w g L) : ∀ j c, L[j]? = some c → w.cell? ⟨g, j, none⟩ = some (.int .u8 (c.toNat : Int)) := fun _ _ hc => h.cell hc

/-- The floor of a labelled board's text. -/
def flS (l : List UInt8) : ByteArray := if isLab l = true then ⟨(unlab l).toArray⟩ else ⟨#[]⟩
set_option maxHeartbeats 400000 in
theorem specFL_no (s : ByteArray) (w : World) (h : isLab s.data.toList = false) : Calls Tryd.prog 12 #[.string s] w fun e w' => e = .returned (.tuple #[.string (flS s.data.toList), .bool false]) ∧ Below w.heap.size w w' := by
  have H := hide h
  have HE := hide (show flS s.data.toList = ⟨#[]⟩ from by unfold flS; rw [h]; rfl)
  clear h
  go_enter Tryd.func12, Tryd.ntmps12
  go_wp2_with fail
  refine (prRead_no s _ H.out).mono ?_
  rintro e w1 ⟨v, rfl, hb1⟩
  go_wp2
  go_returns
  exact ⟨by rw [HE.out]; rfl, hb1.alloc hb1.size _⟩
set_option maxHeartbeats 800000 in
theorem specFL_yes (s : ByteArray) (w : World) (h : isLab s.data.toList = true) : Calls Tryd.prog 12 #[.string s] w fun e w' => e = .returned (.tuple #[.string (flS s.data.toList), .bool true]) ∧ Below w.heap.size w w' := by
  have H := hide h
  have HE := hide (show flS s.data.toList = ⟨(unlab s.data.toList).toArray⟩ from by unfold flS; rw [if_pos h])
  clear h
  go_enter Tryd.func12, Tryd.ntmps12
  go_wp2_with fail
  refine (prRead_yes s _ H.out).mono ?_
  rintro e w1 ⟨W, Hh, n, g, cap, g2, cap2, hgr, rfl, hA, hcp, hA2, hb1⟩
  obtain ⟨w0, w7, h0, h7, hn⟩ := grid_facts hgr
  have HGR := hide hgr
  have HN := hide hn
  have HCAP := hide hcp
  have HA := hide (hA.allocP (.cells #[.int .i64 (W : Int), .int .i64 (Hh : Int), .slice (some ⟨g, 0, none⟩) n cap] 38))
  have q1 := hb1.alloc hb1.size (.cells #[.int .i64 (W : Int), .int .i64 (Hh : Int), .slice (some ⟨g, 0, none⟩) n cap] 38)
  obtain ⟨l0, ⟨c0, c1, c2⟩, -⟩ := (IsG.new (w := w1) (x := (W : Int)) (y := (Hh : Int)) (v := .slice (some ⟨g, 0, none⟩) n cap)).all
  clear hA hA2 hb1 hgr hn hcp
  go_upto_region 4 with (fail)
  clear l0
  generalize w1.alloc (.cells #[.int .i64 (W : Int), .int .i64 (Hh : Int), .slice (some ⟨g, 0, none⟩) n cap] 38) = w1b at q1 HA c0 c1 c2 ⊢
  go_wp2_with fail
  clear c0 c1 c2
  have hev : Even (unlab s.data.toList) W := by
    have := bd_even HGR.out.1
    rwa [HGR.out.2.1] at this
  refine (boText_even (unlab s.data.toList) W Hh n g cap hev HGR.out.2.2.1 ⟨w0, w7⟩ ⟨h0, h7⟩ HN.out HCAP.out _ (bytesAt_cap HA.out) HA.out.lt).mono ?_
  rintro e w2 ⟨rfl, hb2⟩
  have q2 := below_after q1 hb2 q1.size
  clear hb2
  go_wp2
  go_returns
  exact ⟨by rw [HE.out]; rfl, q2⟩
theorem specFL_any (s : ByteArray) (w : World) : Calls Tryd.prog 12 #[.string s] w fun e w' => e = .returned (.tuple #[.string (flS s.data.toList), .bool (isLab s.data.toList)]) ∧ Below w.heap.size w w' := by
  cases h : isLab s.data.toList
  · exact specFL_no s w h
  · exact specFL_yes s w h
set_option maxHeartbeats 400000 in
theorem implFL_any (s : ByteArray) (w : World) (hs : s.size ≤ 1048576) (hg : Glob w) : Calls Tryd.prog 13 #[.string s] w fun e w' => e = .returned (.tuple #[.string (flS s.data.toList), .bool (isLab s.data.toList)]) ∧ Below w.heap.size w w' := by
  have HG := hide hg
  have HS := hide hs
  have HL := hide (implIsLab_any s)
  clear hg hs
  cases h : isLab s.data.toList
  · have HE := hide (show flS s.data.toList = ⟨#[]⟩ from by unfold flS; rw [h]; rfl)
    rw [h] at HL
    clear h
    go_enter Tryd.func13, Tryd.ntmps13
    go_wp2_with fail
    refine (HL.out _ HS.out HG.out).mono ?_
    rintro e w1 ⟨rfl, hb⟩
    go_wp2
    go_returns
    exact ⟨by rw [HE.out]; rfl, hb⟩
  · have HE := hide (show flS s.data.toList = ⟨(unlab s.data.toList).toArray⟩ from by unfold flS; rw [if_pos h])
    rw [h] at HL
    clear h
    go_enter Tryd.func13, Tryd.ntmps13
    go_wp2_with fail
    refine (HL.out _ HS.out HG.out).mono ?_
    rintro e w1 ⟨rfl, hb⟩
    go_wp2_with fail
    refine (floorText_any s _ HS.out).mono ?_
    rintro e w2 ⟨rfl, hb2⟩
    go_wp2
    go_returns
    exact ⟨by rw [HE.out]; rfl, below_after hb hb2 hb.size⟩
set_option maxHeartbeats 800000 in
theorem walk_FloorOfLabels (v : ByteArray) (hv : v.size ≤ maxLen) (w : World) (hg : Glob w) : Calls Tryd.prog 5 #[.string v] w fun e w' => e = .returned (.bool true) ∧ Below w.heap.size w w' := by
  have HGL := hide hg
  clear hg
  by_cases h1 : v.size ≤ 1048576
  · have HS := hide h1
    go_enter Tryd.func5, Tryd.ntmps5
    go_wp2_with fail
    refine (specFL_any v _).mono ?_
    rintro e w1 ⟨rfl, hb1⟩
    generalize hx : flS v.data.toList = x
    generalize hy : isLab v.data.toList = g
    have HX := hide hx
    have HY := hide hy
    clear hx hy
    have hg1 := hide (glob_to hb1 HGL.out rfl)
    go_wp2_with fail
    refine (implFL_any v _ HS.out hg1.out).mono ?_
    rintro e w2 ⟨rfl, hb2⟩
    rw [HX.out, HY.out]
    have e1 : (x.toList != x.toList) = false := by simp
    have e2 : (g != g) = false := by simp
    go_wp2
    go_returns
    exact ⟨rfl, below_after hb1 hb2 hb1.size⟩
  · go_enter Tryd.func5, Tryd.ntmps5
    go_wp2
    go_returns
    exact ⟨rfl, Below.refl _ _⟩
end Go.Proofs.YtnpnhnkpnhcebaaDoor
