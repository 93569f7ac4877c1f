/- The law of FoldOrder. -/
import Derived.Test.YtbfclnigjijkbaaNeK
namespace Go.Proofs.Ytbfclnigjijkbaa
set_option maxRecDepth 100000
set_option linter.all false
open Go.RowKit

/-- What FoldOrder's loop holds. -/
structure FO (l : List UInt8) (n fb B db dc D : Nat) (w0 w : World) (k : Nat) (v : Value) : Prop where
  far : w.rowIs fb 3 n (fun i => .int .i64 (farI (width l) (lgs l) i))
  dig : w.ownsRow D 3 1 (.slice (some ⟨db, 0, none⟩) 6 dc) 6 (ints (natI (digs l)))
  out : w.ownsRow B 3 1 v k (ints ((farL l).take k))
  bel : Below w0.heap.size w0 w
  top : B ≤ w.heap.size
theorem FO.push {l : List UInt8} {n fb B db dc D : Nat} {w0 w w4 : World} {k : Nat} {v v' : Value} {o : Obj} {x : Int} (t : FO l n fb B db dc D w0 w k v) (hf : fb < B) (hd : db < B) (hB : w0.heap.size ≤ B) (hx : (farL l)[k]? = some x) (h1 : w4.ownsRow B 3 1 v' (k + 1) (ints ((farL l).take k) ++ [.int .i64 x])) (h2 : (w.alloc o).grownBy w4 v.ownBlock) : FO l n fb B db dc D w0 w4 (k + 1) v' := by
  have hne : ∀ j, v.ownBlock = some j → B ≤ j := fun j e => (t.out.lt j e).1
  refine ⟨(t.far.alloc o).of_block (h2.block _ (t.far.alloc o).lt (fun e => by have := hne _ e.symm; omega)), (t.dig.alloc o).kept h2 (.inr (fun e => by have := hne db e.symm; omega)), ?_, (t.bel.alloc t.bel.size o).grown h2 (by have := t.bel.size; simp; omega) (fun j e => by have := hne j e; omega), by have := t.top; have := h2.size; simp at this; omega⟩
  rw [List.take_add_one, hx]
  have e : ints ((farL l).take k ++ (some x).toList) = ints ((farL l).take k) ++ [.int .i64 x] := ints_snoc _ _
  rw [e]
  exact h1
set_option maxHeartbeats 3200000 in
theorem specOrder_yes (s : ByteArray) (w : World) (hn : netB s.data.toList = true) : Calls Try.prog 17 #[.string s] w fun e w' => ∃ v, e = .returned (.tuple #[v, .bool true]) ∧ w'.ownsRow w.heap.size 3 1 v 6 (ints (farL s.data.toList)) ∧ Below w.heap.size w w' := by
  obtain ⟨i0, hi, hz0, hz1, hz2⟩ := info_parts info_intI
  have HI := hide hi
  have HZ0 := hide hz0
  have HZ1 := hide hz1
  have HZ2 := hide hz2
  clear hi hz0 hz1 hz2
  have HNE := fun wx => neNet_any s wx
  obtain ⟨l, hl⟩ : ∃ l, l = s.data.toList := ⟨_, rfl⟩
  simp only [← hl] at HNE hn ⊢
  have h6 := net_is_six hn
  have hF := (six_parts h6).1
  have HN := hide hn
  have HNE := hide HNE
  have HSY := hide (fun k d (hd : (digs l)[k]? = some d) => dig_says h6 hd)
  have HAT := hide (fun k (hk : k < 6) => digs_at h6 hk)
  have HPL := hide (farL_len h6)
  have hnl : (flatL l).length = width l * (splitP l).length := hF.toGrid6.flat_len
  have HFA := hide (fun gb cap wx (hx : ByN wx gb (flatL l)) => neFar_any l (width l) (splitP l).length (flatL l).length gb cap hF.toGrid6 hnl wx hx)
  rw [lgm_eq hF] at HFA
  obtain ⟨W, hW⟩ : ∃ W, W = width l := ⟨_, rfl⟩
  obtain ⟨V, hV⟩ : ∃ V, V = (splitP l).length := ⟨_, rfl⟩
  obtain ⟨n, hnn⟩ : ∃ n, n = (flatL l).length := ⟨_, rfl⟩
  have HDG := hide (fun gb cap wx (hx : ByN wx gb (flatL l)) => digs_any l W V n gb cap h6 hnn wx hx)
  have HFB : Hid (∀ gb cap wx (_ : ByN wx gb (flatL l)), Calls Try.prog 32 #[gN W V n gb cap] wx fun e w' => e = .returned (.slice (some ⟨wx.heap.size + 1, 0, none⟩) n n) ∧ w'.rowIs (wx.heap.size + 1) 3 n (fun i => .int .i64 (farI (width l) (lgs l) i)) ∧ Below wx.heap.size wx w') := by
    rw [hW, hV, hnn]
    exact HFA
  clear hl hn h6 hF hnl HFA
  go_enter Try.func17, Try.ntmps17
  go_wp2_with fail
  refine (HNE.out _).mono ?_
  rintro e w2 (⟨-, gb, cap, ob, rfl, hg, ho, A, R, hb⟩ | ⟨hy, -⟩)
  rotate_left
  · rw [HN.out] at hy; cases hy
  rw [← hW, ← hV, ← hnn]
  have HNN := hide hnn
  have q2 := hb.alloc hb.size (.cells #[.int .i64 (W : Int), .int .i64 (V : Int), .slice (some ⟨gb, 0, none⟩) n cap] 37)
  have A3 := byN_to (w1 := w2.alloc (.cells #[.int .i64 (W : Int), .int .i64 (V : Int), .slice (some ⟨gb, 0, none⟩) n cap] 37)) ((Below.refl _ _).alloc (Nat.le_refl _) _) A rfl
  have G3 := IsGN.new (w := w2) (x := (W : Int)) (y := (V : Int)) (v := .slice (some ⟨gb, 0, none⟩) n cap)
  obtain ⟨l0, ⟨a0, a1, a2⟩, -⟩ := G3.all
  clear hb A R hW hV hnn
  go_wp2_with fail
  generalize w2.alloc (.cells #[.int .i64 (W : Int), .int .i64 (V : Int), .slice (some ⟨gb, 0, none⟩) n cap] 37) = W3 at q2 A3 G3 a0 a1 a2 l0 ⊢
  refine (HFB.out _ _ _ A3).mono ?_
  rintro e w3 ⟨rfl, R3, hb3⟩
  have A4 := byN_to hb3 A3 rfl
  have q3 := below_after q2 hb3 q2.size
  have G4 := isGN_to hb3 G3 rfl
  have hR3 := R3.lt
  obtain ⟨l1, ⟨b0, b1, b2⟩, -⟩ := G4.all
  clear a0 a1 a2 l0 A3 G3 q2 hb3
  go_wp2_with fail
  refine (HDG.out _ _ _ A4).mono ?_
  rintro e w4 ⟨db, dc, rfl, hdb0, hdb1, OD, hb4⟩
  have hq4 := below_after q3 hb4 q3.size
  have hs4 := hb4.size
  have HR := hide (show FO l n (W3.heap.size + 1) w4.heap.size db dc w3.heap.size w w4 0 (.slice none 0 0) from ⟨rowIs_to hb4 R3 rfl, OD, World.ownsRow_nil _ _ _ _, hq4, Nat.le_refl _⟩)
  have hww := hq4.size
  clear b0 b1 b2 l1 A4 R3 q3 G4 OD hb4 hdb0 hq4
  go_wp2
  go_loopw [24, 8, 10] (fun i vv _ wr => ∃ (k : Nat) (v : Value), k ≤ 6 ∧ i = .int .i64 (k : Int) ∧ v = vv ∧ FO l n (W3.heap.size + 1) w4.heap.size db dc w3.heap.size w wr k v) (fun i _ _ _ => 6 - (intOf i).toNat)
  case atStart => exact ⟨0, _, Nat.zero_le _, rfl, rfl, HR.out⟩
  case round =>
    obtain ⟨k, v, hk, rfl, rfl, T⟩ := hrel
    by_cases hlt : k < 6
    · have hki : (k : Int) < 6 := by omega
      obtain ⟨d, hd⟩ := HAT.out k hlt
      obtain ⟨hdn, -⟩ := HSY.out k d hd
      rw [← HNN.out] at hdn
      have hdi : (d : Int) < (n : Int) := by omega
      have dcell := ints_cell T.dig k (d : Int) (natI_get hd)
      obtain ⟨x, hx⟩ : ∃ x, x = farI (width l) (lgs l) d := ⟨_, rfl⟩
      have ocell : wr.cell? ⟨W3.heap.size + 1, d, none⟩ = some (.int .i64 x) := by rw [hx]; exact T.far.cell hdn
      have HX := hide (show (farL l)[k]? = some x from by unfold farL; rw [List.getElem?_map, hd, hx]; rfl)
      have hsz := T.top
      have HT := hide T
      have HOU := hide T.out
      have hdl := (T.dig.lt db rfl).2
      have hfl := T.far.lt
      clear T hd hx
      go_wp2_with (at_builtin; refine wpList_append_own_at _ rfl _ _ 30 rfl w4.heap.size 3 i0 (.int .i64 0) 1 8 Try.underlying30 HI.out HZ0.out HZ1.out HZ2.out rfl (by decide) _ _ _ rfl (HOU.out.alloc _) ⟨wr.heap.size, 0, none⟩ 1 1 [.int .i64 x] rfl rfl ?c1 ?c2 ?c3 ?c4 ?c5 ?_)
      case c1 => exact cell_one_newR wr (.int .i64 x) 3
      case c2 =>
        intro u hu
        simp only [List.mem_singleton] at hu
        subst hu
        rfl
      case c3 => unfold maxLen; omega
      case c4 => omega
      case c5 => simp; omega
      · intro v' w5 hown5 hg5 _ _
        have HK := hide (HT.out.push (by omega) hdb1 hww HX.out hown5 hg5)
        clear hown5 hg5
        go_wp2
        go_roundw
        case rel => exact ⟨k + 1, _, by omega, by go_num, rfl, HK.out⟩
        case measure => simp [intOf] <;> omega
    · obtain rfl : k = 6 := by omega
      have HB := hide T.bel
      have HO := hide (show wr.ownsRow w.heap.size 3 1 v 6 (ints (farL l)) from by
        have h := T.out
        rw [List.take_of_length_le (by rw [HPL.out]; omega)] at h
        exact own_mono h (by omega))
      clear T
      go_wp2
      go_returns
      exact ⟨_, rfl, HO.out, HB.out⟩
theorem own_under {w w' : World} {B b : Nat} {e : TypeId} {z : Nat} {v : Value} {n : Nat} {xs : List Value} (hb : Below B w w') (h : w.ownsRow b e z v n xs) (hl : ∀ g, v.ownBlock = some g → g < B) : w'.ownsRow b e z v n xs := by
  obtain ⟨h1, h2⟩ := h
  refine ⟨h1, ?_⟩
  rcases h2 with h2 | ⟨g, cap, cur, hv, hg, hh, r⟩
  · exact .inl h2
  · exact .inr ⟨g, cap, cur, hv, hg, by rw [hb.block g (hl g (by rw [hv]; rfl))]; exact hh, r⟩
/-- What FoldOrder lists. -/
def orderZ (l : List UInt8) : List Int := if netB l = true then farL l else []
theorem orderZ_yes {l : List UInt8} (h : netB l = true) : orderZ l = farL l := if_pos h
theorem orderZ_no {l : List UInt8} (h : netB l = false) : orderZ l = [] := if_neg (by rw [h]; simp)
theorem specOrder_any (s : ByteArray) (w : World) : Calls Try.prog 17 #[.string s] w fun e w' => ∃ v, e = .returned (.tuple #[v, .bool (netB s.data.toList)]) ∧ w'.ownsRow w.heap.size 3 1 v (orderZ s.data.toList).length (ints (orderZ s.data.toList)) ∧ Below w.heap.size w w' := by
  cases h : netB s.data.toList
  · rw [orderZ_no h]
    refine (specOrder_no s w h).mono ?_
    rintro e w' ⟨rfl, hb⟩
    exact ⟨_, rfl, World.ownsRow_nil _ _ _ _, hb⟩
  · rw [orderZ_yes h, farL_len (net_is_six h)]
    exact specOrder_yes s w h
theorem implOrder_any (s : ByteArray) (w : World) (hs : s.size ≤ 1048576) : Calls Try.prog 18 #[.string s] w fun e w' => ∃ v, e = .returned (.tuple #[v, .bool (netB s.data.toList)]) ∧ w'.ownsRow w.heap.size 3 1 v (orderZ s.data.toList).length (ints (orderZ s.data.toList)) ∧ Below w.heap.size w w' := by
  cases h : netB s.data.toList
  · rw [orderZ_no h]
    refine (implOrder_no s w hs h).mono ?_
    rintro e w' ⟨rfl, hb⟩
    exact ⟨_, rfl, World.ownsRow_nil _ _ _ _, hb⟩
  · rw [orderZ_yes h, farL_len (net_is_six h)]
    exact implOrder_yes s w hs h
theorem orderZ_len (l : List UInt8) : (orderZ l).length ≤ 100000 := by
  cases h : netB l
  · rw [orderZ_no h]; simp
  · rw [orderZ_yes h, farL_len (net_is_six h)]; omega
set_option maxHeartbeats 1600000 in
theorem walk_FoldOrder (v : ByteArray) (hv : v.size ≤ maxLen) (w : World) : Calls Try.prog 7 #[.string v] w fun e w' => e = .returned (.bool true) ∧ Below w.heap.size w w' := by
  by_cases h1 : v.size ≤ 1048576
  · have h1i : (v.size : Int) ≤ 1048576 := by omega
    have hlen := hide (orderZ_len v.data.toList)
    have HSP := hide (fun wx => specOrder_any v wx)
    have HIM := hide (fun wx => implOrder_any v wx h1)
    generalize orderZ v.data.toList = Z at hlen HSP HIM
    generalize netB v.data.toList = ok at HSP HIM
    have e1 : (ok != ok) = false := by simp
    go_enter Try.func7, Try.ntmps7
    go_wp2_with fail
    refine (HSP.out _).mono ?_
    rintro e w1 ⟨v0, rfl, O1, q1⟩
    have hlt1 : ∀ g, v0.ownBlock = some g → g < w1.heap.size := fun g hg => (O1.lt g hg).2
    go_wp2_with fail
    refine (HIM.out _).mono ?_
    rintro e w2 ⟨v1, rfl, G2, hb2⟩
    have q2 := below_after q1 hb2 q1.size
    have O2 := own_to hb2 O1 rfl
    clear hb2 O1
    go_wp2_with fail
    refine (eqIntS_any v1 v0 Z.length w1.heap.size w.heap.size Z w2 (by have := hlen.out; omega) G2 O2).mono ?_
    rintro e w3 ⟨rfl, hb3⟩
    have q3 := below_to hb3 q2 q2.size rfl rfl rfl rfl
    have O3 := own_to hb3 O2 rfl
    have G3 := own_to hb3 G2 rfl
    clear hb3 O2 G2
    go_wp2_with fail
    refine (markIntS_any v1 Z.length w1.heap.size Z 1 w3 (by have := hlen.out; omega) (by omega) G3).mono ?_
    rintro e w4 ⟨rfl, G4, hb4⟩
    have q4 : Below w.heap.size w w4 := q3.trans (hb4.mono q1.size)
    have O4 := own_under hb4 O3 hlt1
    clear hb4 O3 G3 q3
    generalize hN : ((Z.length : Nat) : Int) = N at *
    have hN0 : 0 ≤ N := by omega
    have HN := hide hN
    clear hN
    go_wp2_with fail
    refine (heldIntS_any v1 Z.length w1.heap.size 1 w4 (by have := hlen.out; omega) (by omega) G4).mono ?_
    rintro e w5 ⟨rfl, rfl⟩
    rw [HN.out]
    have n1 : ¬ (1 + N < 0) := by omega
    have n2 : ((1 + N) != (1 + N)) = false := by simp
    go_wp2_with fail
    refine (HIM.out _).mono ?_
    rintro e w6 ⟨v2, rfl, H6, hb6⟩
    have q6 := below_to hb6 q4 q4.size rfl rfl rfl rfl
    have O6 := own_to hb6 O4 rfl
    have G6 := own_to hb6 G4 rfl
    clear hb6 O4 G4 q4
    go_wp2_with fail
    refine (eqIntS_any v2 v0 Z.length w4.heap.size w.heap.size Z w6 (by have := hlen.out; omega) H6 O6).mono ?_
    rintro e w7 ⟨rfl, hb7⟩
    have q7 := below_to hb7 q6 q6.size rfl rfl rfl rfl
    have G7 := own_to hb7 G6 rfl
    clear hb7 O6 G6 H6 q6
    go_wp2_with fail
    refine (heldIntS_any v1 Z.length w1.heap.size 1 w7 (by have := hlen.out; omega) (by omega) G7).mono ?_
    rintro e w8 ⟨rfl, rfl⟩
    rw [HN.out]
    go_wp2
    go_returns
    exact ⟨rfl, q7⟩
  · have h1i : (1048576 : Int) < (v.size : Int) := by omega
    clear h1
    go_enter Try.func7, Try.ntmps7
    go_wp2
    go_returns
    exact ⟨rfl, Below.refl _ _⟩
end Go.Proofs.Ytbfclnigjijkbaa
