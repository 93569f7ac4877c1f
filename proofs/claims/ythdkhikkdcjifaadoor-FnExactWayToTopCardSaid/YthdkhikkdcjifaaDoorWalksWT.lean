/- The walks of the law of WayToTop. -/
import Derived.Test.YthdkhikkdcjifaaDoorWalksWC
namespace Go.Proofs.YthdkhikkdcjifaaDoor
set_option maxRecDepth 100000
set_option linter.all false
open Go.RowKit Go.Maps Go.ChangeMaps

def topP (top : Int) (s : St) : Bool := decide (s.d.t = top)
def wuS (s : ByteArray) (t : St) (a b top : Int) : ByteArray := if decide (0 ≤ top ∧ top ≤ 9) = true then wtS s t a b top else ⟨#[]⟩
def wuB (s : ByteArray) (t : St) (a b top : Int) : Bool := if decide (0 ≤ top ∧ top ≤ 9) = true then wtB s t a b top else false
theorem wu_no {s : ByteArray} {t : St} {a b : Int} (top : Int) (h : wcB s t a b = false) : wuS s t a b top = ⟨#[]⟩ ∧ wuB s t a b top = false := by
  unfold wuS wuB
  rw [(wt_no top h).1, (wt_no top h).2]
  exact ⟨ite_self _, ite_self _⟩
theorem wu_off {s : ByteArray} {t : St} {a b top : Int} (h : decide (0 ≤ top ∧ top ≤ 9) = false) : wuS s t a b top = ⟨#[]⟩ ∧ wuB s t a b top = false := by
  unfold wuS wuB
  rw [h, if_neg (by decide), if_neg (by decide)]
  exact ⟨rfl, rfl⟩
theorem wu_on {s : ByteArray} {t : St} {a b top : Int} (h : decide (0 ≤ top ∧ top ≤ 9) = true) : wuS s t a b top = wtS s t a b top ∧ wuB s t a b top = wtB s t a b top := by
  unfold wuS wuB
  rw [h, if_pos rfl, if_pos rfl]
  exact ⟨rfl, rfl⟩
theorem top_wc {a b top : Int} (h : 0 ≤ top) (s : St) : (cellP a b s = true ∧ topP top s = true) ↔ wcP a b top s = true := by
  unfold cellP topP wcP
  simp
  constructor
  · rintro ⟨⟨h1, h2⟩, h3⟩
    exact ⟨h1, h2, .inr h3⟩
  · rintro ⟨h1, h2, h3 | h3⟩
    · omega
    · exact ⟨⟨h1, h2⟩, h3⟩
set_option maxHeartbeats 3200000 in
theorem specWTT_any (s : ByteArray) (t : St) (a b top : Int) (w : World) (hs : s.size ≤ 1048576) : Calls Tryd.prog 25 #[.string s, St.v t, .int .i64 a, .int .i64 b, .int .i64 top] w fun e w' => e = .returned (.tuple #[.string (wuS s t a b top), .bool (wuB s t a b top)]) ∧ Below w.heap.size w w' := by
  have S0 : IsS (w.alloc (.cells #[.int .i64 t.x, .int .i64 t.y, .int .i64 t.d.t, .int .i64 t.d.n, .int .i64 t.d.e, .int .i64 t.d.s, .int .i64 t.d.w, .int .i64 t.d.b] 30)) w.heap.size t 30 := IsS.new
  have q0 : Below w.heap.size w (w.alloc (.cells #[.int .i64 t.x, .int .i64 t.y, .int .i64 t.d.t, .int .i64 t.d.n, .int .i64 t.d.e, .int .i64 t.d.s, .int .i64 t.d.w, .int .i64 t.d.b] 30)) := by go_grown
  obtain ⟨z0, hz0⟩ : ∃ z, z = wuS s t a b top := ⟨_, rfl⟩
  obtain ⟨z1, hz1⟩ : ∃ z, z = wuB s t a b top := ⟨_, rfl⟩
  rw [← hz0, ← hz1]
  have HZ0 := hide hz0
  have HZ1 := hide hz1
  clear hz0 hz1
  obtain ⟨l0, ⟨c0, c1, c2, c3, c4, c5, c6, c7⟩, -⟩ := S0.all
  go_enter Tryd.func25, Tryd.ntmps25
  go_wp2_with fail
  refine (wyCell_any s t a b _ hs).mono ?_
  rintro e w1 (⟨hno, rfl, hb1⟩ | ⟨g1, c1', L, hyes, hcore, rfl, hown, hb1⟩)
  · have q1 := below_to hb1 q0 q0.size rfl rfl rfl rfl
    have HR0 := hide (HZ0.out.trans (wu_no top hno).1)
    have HR1 := hide (HZ1.out.trans (wu_no top hno).2)
    clear hno
    go_wp2
    go_returns
    exact ⟨by rw [HR0.out, HR1.out]; rfl, q1⟩
  · have q1 := below_to hb1 q0 q0.size rfl rfl rfl rfl
    have hl9 : L.length ≤ 1000 := by have := wysB_len (wcB_ask hyes); have := core_len hcore; omega
    have HO := hide (own_mono hown (B' := w.heap.size) (by have := q0.size; omega))
    cases ht : decide (0 ≤ top ∧ top ≤ 9)
    · have HT := hide ht
      have HR0 := hide (HZ0.out.trans (wu_off ht).1)
      have HR1 := hide (HZ1.out.trans (wu_off ht).2)
      clear hyes hcore hown hl9 hb1 HZ0 HZ1 ht
      go_wp2_with (go_at_call 54; refine (l1In_any top 0 9 _).mono ?_; rintro e w4 ⟨rfl, rfl⟩; rw [HT.out])
      go_wp2
      go_returns
      exact ⟨by rw [HR0.out, HR1.out]; rfl, q1⟩
    · have HT := hide ht
      have HF := hide (show ∀ wx : World, wx.ownsRow w.heap.size 77 16 (.slice (some ⟨g1, 0, none⟩) L.length c1') L.length (wnL L) → Calls Tryd.prog 55 #[.slice (some ⟨g1, 0, none⟩) L.length c1', .int .i64 a, .int .i64 b, .int .i64 top] wx fun e w' => e = .returned (.tuple #[.string z0, .bool z1]) ∧ Below wx.heap.size wx w' from fun wx hx => by
        rw [HZ0.out, HZ1.out, (wu_on ht).1, (wu_on ht).2, (wt_yes top hyes).1, (wt_yes top hyes).2]
        exact wyFirst_any w.heap.size g1 c1' L (wysB s t) (flAt s.data.toList) t 1000 (runW_ok _ _ _) hcore hl9 a b top wx hx)
      clear hyes hcore hown hl9 hb1 HZ0 HZ1 ht
      go_wp2_with (first | (go_at_call 54; refine (l1In_any top 0 9 _).mono ?_; rintro e w4 ⟨rfl, rfl⟩; rw [HT.out]) | (go_at_call 55; fail))
      refine (HF.out _ HO.out).mono ?_
      rintro e w2 ⟨rfl, hb2⟩
      have q2 := below_to hb2 q1 q1.size rfl rfl rfl rfl
      go_wp2
      go_returns
      exact ⟨rfl, q2⟩
set_option maxHeartbeats 3200000 in
theorem implWTT_any (s : ByteArray) (t : St) (a b top : Int) (w : World) (hs : s.size ≤ 1048576) (hg : Glob w) : Calls Tryd.prog 26 #[.string s, St.v t, .int .i64 a, .int .i64 b, .int .i64 top] w fun e w' => e = .returned (.tuple #[.string (wuS s t a b top), .bool (wuB s t a b top)]) ∧ Below w.heap.size w w' := by
  have S0 : IsS (w.alloc (.cells #[.int .i64 t.x, .int .i64 t.y, .int .i64 t.d.t, .int .i64 t.d.n, .int .i64 t.d.e, .int .i64 t.d.s, .int .i64 t.d.w, .int .i64 t.d.b] 30)) w.heap.size t 30 := IsS.new
  have q0 : Below w.heap.size w (w.alloc (.cells #[.int .i64 t.x, .int .i64 t.y, .int .i64 t.d.t, .int .i64 t.d.n, .int .i64 t.d.e, .int .i64 t.d.s, .int .i64 t.d.w, .int .i64 t.d.b] 30)) := by go_grown
  have HG := hide (glob_to (w0 := w) q0 hg rfl)
  obtain ⟨z0, hz0⟩ : ∃ z, z = wuS s t a b top := ⟨_, rfl⟩
  obtain ⟨z1, hz1⟩ : ∃ z, z = wuB s t a b top := ⟨_, rfl⟩
  rw [← hz0, ← hz1]
  have HZ0 := hide hz0
  have HZ1 := hide hz1
  clear hz0 hz1 hg
  obtain ⟨l0, ⟨c0, c1, c2, c3, c4, c5, c6, c7⟩, -⟩ := S0.all
  go_enter Tryd.func26, Tryd.ntmps26
  go_wp2_with fail
  refine (routesAt_any s t a b _ hs HG.out).mono ?_
  rintro e w1 (⟨hno, rfl, hb1⟩ | ⟨rb, L, hyes, rfl, hrb, hmap, hsub, hiff, hb1⟩)
  · have q1 := below_to hb1 q0 q0.size rfl rfl rfl rfl
    have HR0 := hide (HZ0.out.trans (wu_no top hno).1)
    have HR1 := hide (HZ1.out.trans (wu_no top hno).2)
    clear hno hb1 q0 S0 HG HZ0 HZ1 c0 c1 c2 c3 c4 c5 c6 c7 l0
    go_wp2_with (at_range; refine wpList_range_N rfl _ rfl rfl ?_)
    go_frame
    go_loopw [27] (fun _ wr => wr = w1.alloc (.mapIter none 0 #[] 0)) (fun _ _ => 0)
    case atStart => rfl
    subst hrel
    have q1b := q1.alloc q1.size (.mapIter none 0 #[] 0)
    go_wp2_with (at_next; refine wpList_next_N rfl _ rfl w1 rfl rfl ?_)
    clear q1
    have q1 := q1b
    clear q1b
    go_wp2_with fail
    refine (bestOfRolls_of (.map none) (fun _ r => r = zeroR) _ ?hb).mono ?_
    case hb =>
      refine (bestRoute_nil _).mono ?_
      rintro e w' ⟨rfl, hb⟩
      exact ⟨_, _, rfl, rfl, hb⟩
    rintro e w2 ⟨s', r', rfl, rfl, hb2⟩
    have q2 := below_to hb2 q1 q1.size rfl rfl rfl rfl
    rw [show borB zeroR = false from rfl, show borR zeroR = zeroR from rfl]
    clear hb2 q1
    have X1 : IsR (w2.alloc (.cells #[.string ⟨zeroR.word.toArray⟩, .int .i64 zeroR.cost, .int .i64 zeroR.count] 73)) w2.heap.size zeroR := IsR.new
    have q3 := q2.alloc q2.size (.cells #[.string ⟨zeroR.word.toArray⟩, .int .i64 zeroR.cost, .int .i64 zeroR.count] 73)
    obtain ⟨m0, ⟨a0, a1, a2⟩, -⟩ := X1.all
    go_wp2
    go_returns
    exact ⟨by rw [HR0.out, HR1.out]; rfl, q3⟩
  · have q1 := below_to hb1 q0 q0.size rfl rfl rfl rfl
    have hask := wcB_ask hyes
    have hok := seL_ok (wysB_nodup s t) (wysB_okS hask)
    have HK := hide (hok.sub hsub)
    have HCN := hide (show ∀ x ∈ L, x.1.2.count ≠ 0 from fun x hx => by
      obtain ⟨i, q, hq, rfl⟩ := seL_mem ((hiff x).1 hx).1
      exact wysB_cnt hask q (List.mem_of_getElem? hq))
    have HWD := hide (show ∀ x ∈ L, wdOk x.1.2 from fun x hx => by
      obtain ⟨i, q, hq, rfl⟩ := seL_mem ((hiff x).1 hx).1
      exact wysB_wd hask q (List.mem_of_getElem? hq))
    have HPU := hide (show ∀ (L2 : List SE), (∀ x, x ∈ L2 ↔ x ∈ L ∧ topP top x.1.1 = true) → ∀ (s' : St) (r' : Rt), BestP L2 s' r' → (⟨(borR r').word.toArray⟩ : ByteArray) = z0 ∧ borB r' = z1 from fun L2 h2 s' r' hP => by
      cases ht : decide (0 ≤ top ∧ top ≤ 9)
      · have h0 : L2 = [] := List.eq_nil_iff_forall_not_mem.2 (fun x hx => by
          obtain ⟨h3, h4⟩ := (h2 x).1 hx
          have h5 := (hok.ok x ((hiff x).1 h3).1).2.2
          have h6 : x.1.1.d.t = top := of_decide_eq_true h4
          have h7 := (of_decide_eq_true h5)
          have h8 := of_decide_eq_false ht
          omega)
        have hr := (hP.1 h0).2
        rw [HZ0.out, HZ1.out, (wu_off ht).1, (wu_off ht).2, hr]
        exact ⟨rfl, rfl⟩
      · rw [HZ0.out, HZ1.out, (wu_on ht).1, (wu_on ht).2, (wt_yes top hyes).1, (wt_yes top hyes).2]
        exact wc_pure2 (M := wysB s t) (fit := flAt s.data.toList) (s0 := t) (m := 1000) (runW_ok _ _ _) (wysB_cnt hask) a b top L2 (fun x => by rw [h2 x, hiff x, and_assoc, top_wc (of_decide_eq_true ht).1]) hP)
    generalize (wysB s t).length = c at hmap HK
    have HMAP := hide hmap
    have HRB := hide (show w.heap.size ≤ rb from Nat.le_trans q0.size hrb)
    clear hyes hask hsub hiff hb1 hmap hrb q0 S0 HG HZ0 HZ1 c0 c1 c2 c3 c4 c5 c6 c7 l0 hok
    obtain ⟨K, hKL⟩ : ∃ K, K = L := ⟨_, rfl⟩
    rw [← hKL] at HMAP HK HCN HWD HPU
    clear hKL L
    go_wp2_with (at_range; refine wpList_range_S rfl _ rfl rb K c rfl HMAP.out ?_; intro hrg0)
    have I0 : KpJ w1 (w1.alloc (.mapIter (some rb) c #[] c)) rb w1.heap.size (topP top) K c K [] := ⟨hrg0, KeepI.start _ _, Nat.le_refl _, kp_below (w := w1) ⟨rfl, rfl, rfl, Nat.le_refl _, fun _ _ _ => rfl⟩ ((Below.refl _ _).alloc (Nat.le_refl _) _)⟩
    clear hrg0 HMAP
    generalize w1.alloc (.mapIter (some rb) c #[] c) = W1 at I0 ⊢
    obtain ⟨RI, hRI⟩ : ∃ RI, RI = w1.heap.size := ⟨_, rfl⟩
    rw [← hRI] at I0 ⊢
    clear hRI
    go_frame
    go_loopw [27] (fun _ wr => ∃ (L : List SE) (seen : List Nat), KpJ w1 wr rb RI (topP top) K c L seen) (fun _ wr => wr.rangeLeft rb RI)
    case atStart => exact ⟨K, [], I0⟩
    case round =>
      clear I0
      obtain ⟨L, seen, hI⟩ := hrel
      have HL := hide (HK.out.sub hI.kp.sub)
      go_wp2_with (at_next; refine wpList_next_S rfl _ rfl rb RI L c seen rfl HL.out hI.rg ?_ ?_)
      · intro hall
        have hD := hI.kp.done (fun e he => hall _ _ _ he)
        have HMP := hide hI.rg.map
        have q2 := q1.grown hI.grown q1.size (fun k hk => by cases hk; exact HRB.out)
        have HPV := hide (HPU.out L hD.2)
        have HC2 := hide (show ∀ x ∈ L, x.1.2.count ≠ 0 from fun x hx => HCN.out x (hD.1.subset hx))
        have HW2 := hide (show ∀ x ∈ L, wdOk x.1.2 from fun x hx => HWD.out x (hD.1.subset hx))
        clear hall hI hD q1 HCN HWD HPU
        go_wp2_with fail
        refine (bestOfRolls_of (.map (some rb)) (BestP L) _ ?hb).mono ?_
        case hb =>
          refine (bestRoute_any rb L c HL.out HC2.out HW2.out _ (HMP.out.alloc _)).mono ?_
          rintro e w' ⟨s', r', rfl, h1, h2, hb⟩
          exact ⟨_, _, rfl, ⟨h1, h2⟩, hb⟩
        rintro e w2 ⟨s', r', hP, rfl, hb2⟩
        have q3 := below_to hb2 q2 q2.size rfl rfl rfl rfl
        obtain ⟨hp1, hp2⟩ := HPV.out s' r' hP
        rw [hp2]
        generalize borR r' = r2 at hp1 ⊢
        have HP1 := hide hp1
        clear hb2 q2 hP hp1 hp2 HPV HL HC2 HW2
        have X1 : IsR (w2.alloc (.cells #[.string ⟨r2.word.toArray⟩, .int .i64 r2.cost, .int .i64 r2.count] 73)) w2.heap.size r2 := IsR.new
        have q4 := q3.alloc q3.size (.cells #[.string ⟨r2.word.toArray⟩, .int .i64 r2.cost, .int .i64 r2.count] 73)
        obtain ⟨m0, ⟨a0, a1, a2⟩, -⟩ := X1.all
        go_wp2
        go_returns
        exact ⟨by rw [HP1.out]; rfl, q4⟩
      · intro xs xr xi w2 hx hni hrg2 hlt hg2 hs2 hen
        obtain ⟨j, hj⟩ := List.mem_iff_getElem?.1 hx
        have HJ := hide hj
        have HXM := hide hx
        have HKP := hide hI.kp
        have HLOW := hide hI.low
        have HLT := hide (show (leftOf (L.map entS).toArray (seen ++ [xi]).toArray).size < wr.rangeLeft rb RI from by rw [← hrg2.left_eq]; exact hlt)
        have HRG := hide (hrg2.alloc (.cells #[.int .i64 xs.x, .int .i64 xs.y, .int .i64 xs.d.t, .int .i64 xs.d.n, .int .i64 xs.d.e, .int .i64 xs.d.s, .int .i64 xs.d.w, .int .i64 xs.d.b] 30))
        have HGR := hide (kp_below (kp_grown hI.grown hg2 hI.low) ((Below.refl _ w2).alloc (Nat.le_refl _) (.cells #[.int .i64 xs.x, .int .i64 xs.y, .int .i64 xs.d.t, .int .i64 xs.d.n, .int .i64 xs.d.e, .int .i64 xs.d.s, .int .i64 xs.d.w, .int .i64 xs.d.b] 30)))
        have N6 : IsS (w2.alloc (.cells #[.int .i64 xs.x, .int .i64 xs.y, .int .i64 xs.d.t, .int .i64 xs.d.n, .int .i64 xs.d.e, .int .i64 xs.d.s, .int .i64 xs.d.w, .int .i64 xs.d.b] 30)) w2.heap.size xs 30 := IsS.new (s := xs)
        clear hx hni hlt hg2 hs2 hrg2 hj hI
        go_upto_region 5 with (fail)
        clear hen
        generalize w2.alloc (.cells #[.int .i64 xs.x, .int .i64 xs.y, .int .i64 xs.d.t, .int .i64 xs.d.n, .int .i64 xs.d.e, .int .i64 xs.d.s, .int .i64 xs.d.w, .int .i64 xs.d.b] 30) = w3 at N6 HRG HGR ⊢
        generalize w2.heap.size = F at N6 ⊢
        obtain ⟨l6, ⟨a0, a1, a2, a3, a4, a5, a6, a7⟩, -⟩ := N6.all
        by_cases h1 : xs.d.t = top
        · have HP := hide (show topP top xs = true from by unfold topP; simp [h1])
          have e1 : (xs.d.t != top) = false := by simp [h1]
          clear h1
          go_wp2
          go_roundw
          case rel => exact ⟨L, seen ++ [xi], HRG.out, HKP.out.stay HK.out HXM.out HP.out, HLOW.out, HGR.out⟩
          case measure => rw [HRG.out.left_eq]; exact HLT.out
        · have HP := hide (show topP top xs = false from by unfold topP; simp [h1])
          have e1 : (xs.d.t != top) = true := by simp [h1]
          clear h1
          go_upto_region 6 with (fail)
          go_wp2_with (at_delete; refine wpList_delete_S rfl _ _ rfl rb L c HL.out j ((xs, xr), xi) HJ.out rfl rfl HRG.out.map ?_)
          try go_wp2
          go_roundw
          case rel => exact ⟨_, _, _, _, _, _, _, _, _, _, _, _, ⟨L.eraseIdx j, seen ++ [xi], HRG.out.del _, HKP.out.drop (HK.out) HJ.out HP.out, HLOW.out, kp_setB HGR.out _⟩, rfl⟩
          case measure => rw [(HRG.out.del (L.eraseIdx j)).left_eq]; exact Nat.lt_of_le_of_lt (left_sub (List.eraseIdx_sublist L j) _) HLT.out
set_option maxHeartbeats 3200000 in
theorem walk_WayToTop (v0 : ByteArray) (hv0 : v0.size ≤ maxLen) (t0 : St) (hxt0 : (Lit.int .i64 t0.x).wf = true) (hyt0 : (Lit.int .i64 t0.y).wf = true) (a0 : Int) (ha0 : (Lit.int .i64 a0).wf = true) (a1 : Int) (ha1 : (Lit.int .i64 a1).wf = true) (a2 : Int) (ha2 : (Lit.int .i64 a2).wf = true) (w : World) (hg : Glob w) : Calls Tryd.prog 8 #[.string v0, St.v t0, .int .i64 a0, .int .i64 a1, .int .i64 a2] w fun e w' => e = .returned (.bool true) ∧ Below w.heap.size w w' := by
  have HGL := hide hg
  clear hg
  by_cases h0 : v0.size ≤ 1048576
  · have HS0 := hide h0
    obtain ⟨z0, hz0⟩ : ∃ z, z = wuS v0 t0 a0 a1 a2 := ⟨_, rfl⟩
    have HZ0 := hide hz0
    clear hz0
    have e0 : (z0.toList != z0.toList) = false := by simp
    obtain ⟨z1, hz1⟩ : ∃ z, z = wuB v0 t0 a0 a1 a2 := ⟨_, rfl⟩
    have HZ1 := hide hz1
    clear hz1
    have e1 : (z1 != z1) = false := by simp
    have B0 : IsS (w.alloc (.cells #[.int .i64 t0.x, .int .i64 t0.y, .int .i64 t0.d.t, .int .i64 t0.d.n, .int .i64 t0.d.e, .int .i64 t0.d.s, .int .i64 t0.d.w, .int .i64 t0.d.b] 25)) w.heap.size t0 25 := IsS.new (s := t0)
    skip
    have q0 : Below w.heap.size w (w.alloc (.cells #[.int .i64 t0.x, .int .i64 t0.y, .int .i64 t0.d.t, .int .i64 t0.d.n, .int .i64 t0.d.e, .int .i64 t0.d.s, .int .i64 t0.d.w, .int .i64 t0.d.b] 25)) := by go_grown
    go_enter Tryd.func8, Tryd.ntmps8
    go_upto_region 3 with (fail)
    generalize (w.alloc (.cells #[.int .i64 t0.x, .int .i64 t0.y, .int .i64 t0.d.t, .int .i64 t0.d.n, .int .i64 t0.d.e, .int .i64 t0.d.s, .int .i64 t0.d.w, .int .i64 t0.d.b] 25)) = w0 at B0 q0 ⊢
    obtain ⟨l0, ⟨c0, c1, c2, c3, c4, c5, c6, c7⟩, -⟩ := B0.all
    go_wp2_with fail
    clear c0 c1 c2 c3 c4 c5 c6 c7 l0
    refine (toState_any t0 _).mono ?_
    rintro e w1 ⟨rfl, hb1⟩
    have b0 := isS_to hb1 B0 rfl
    have q1 := below_to hb1 q0 q0.size rfl rfl rfl rfl
    have hgl := hide (glob_to q1 HGL.out rfl)
    clear hb1 B0 q0
    go_wp2_with fail
    refine (specWTT_any v0 t0 a0 a1 a2 _ HS0.out).mono ?_
    rintro e w2 ⟨rfl, hb2⟩
    rw [← HZ0.out, ← HZ1.out]
    have B0 := isS_to hb2 b0 rfl
    have q0 := below_to hb2 q1 q1.size rfl rfl rfl rfl
    clear hb2 b0 q1 hgl
    obtain ⟨l0, ⟨c0, c1, c2, c3, c4, c5, c6, c7⟩, -⟩ := B0.all
    go_wp2_with fail
    clear c0 c1 c2 c3 c4 c5 c6 c7 l0
    refine (toState_any t0 _).mono ?_
    rintro e w1 ⟨rfl, hb1⟩
    have b0 := isS_to hb1 B0 rfl
    have q1 := below_to hb1 q0 q0.size rfl rfl rfl rfl
    have hgl := hide (glob_to q1 HGL.out rfl)
    clear hb1 B0 q0
    go_wp2_with fail
    refine (implWTT_any v0 t0 a0 a1 a2 _ HS0.out hgl.out).mono ?_
    rintro e w2 ⟨rfl, hb2⟩
    rw [← HZ0.out, ← HZ1.out]
    have B0 := isS_to hb2 b0 rfl
    have q0 := below_to hb2 q1 q1.size rfl rfl rfl rfl
    clear hb2 b0 q1 hgl
    go_wp2
    go_returns
    exact ⟨rfl, q0⟩
  · go_enter Tryd.func8, Tryd.ntmps8
    go_wp2
    go_returns
    exact ⟨rfl, by go_grown⟩
end Go.Proofs.YthdkhikkdcjifaaDoor
