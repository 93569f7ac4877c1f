/- The walk of the law of CountMirrored. -/
import Derived.Test.YtjikpkembcnfnaaDoorWalksCN
import Derived.Test.YtjikpkembcnfnaaDoorWalksB
import Derived.Deep.RegionHeld3
import Derived.Maps.AppendAt
import Derived.Deep.Cut
namespace Go.Proofs.YtjikpkembcnfnaaDoor
set_option maxRecDepth 100000
set_option linter.all false
open Go.RowKit

theorem dAt_grown {w w1 : World} {g o : Nat} {L : List D} {r : Option Nat} (h : DAt w g o L) (hg : w.grownBy w1 r) (hne : some g ≠ r) : DAt w1 g o L := by
  refine ⟨Nat.lt_of_lt_of_le h.1 hg.size, fun i s hi j v hj => ?_⟩
  rw [World.cell?_of_block (hg.block g h.1 hne)]
  exact h.2 i s hi j v hj
/-- The turns, and the mirrored ones behind them. -/
def turnsZ : List D := turnsL ++ turnsL.map mirrorD
theorem turnsZ_facts : turnsZ.length = 48 ∧ (∀ p ∈ turnsZ, p ∈ wayz) ∧ turnsZ.map (mapD up) = turnsL.map (mapD up) ++ (turnsL.map (mapD up)).map mirrorD ∧ (∀ d ∈ turnsL.map (mapD up), goodB d = true) ∧ (turnsL.map (mapD up)).length = 24 := by decide +kernel
theorem mirZ_snoc {T : List D} {j : Nat} {d : D} (h : T[j]? = some d) : T ++ (T.map mirrorD).take (j + 1) = (T ++ (T.map mirrorD).take j) ++ [mirrorD d] := by
  rw [List.take_add_one, List.getElem?_map, h, List.append_assoc]
  rfl
theorem sumK_mir {k j : Nat} {P : List D} {p : D} (h : P[j]? = some p) : sumK k (P.take (j + 1)) + sumK k ((P.map mirrorD).take (j + 1)) = sumK k (P.take j) + sumK k ((P.map mirrorD).take j) + (pw k (cycL p).length + pw k (cycL (mirrorD p)).length) := by
  rw [sumK_snoc h, sumK_snoc (p := mirrorD p) (by rw [List.getElem?_map, h]; rfl)]
  omega
/-- What CountMirrored answers. -/
def cmV (k : Int) : Int := if decide (1 ≤ k ∧ k ≤ 9) = true then sumK k.toNat turnsZ / 48 else 0
set_option maxHeartbeats 800000 in
theorem implCM_no (k : Int) (w : World) (h : decide (1 ≤ k ∧ k ≤ 9) = false) : Calls Tryd.prog 17 #[.int .i64 k] w fun e w' => e = .returned (.tuple #[.int .i64 0, .bool false]) ∧ Below w.heap.size w w' := by
  have HG := hide h
  clear h
  go_enter Tryd.func17, Tryd.ntmps17
  go_wp2_with fail
  refine (isColors_any _ _).mono ?_
  rintro e w1 ⟨rfl, rfl⟩
  rw [HG.out]
  go_wp2
  go_returns
  exact ⟨rfl, Below.refl _ _⟩
set_option maxHeartbeats 3200000 in
theorem implCM_yes (k : Nat) (w : World) (h : decide (1 ≤ (k : Int) ∧ (k : Int) ≤ 9) = true) : Calls Tryd.prog 17 #[.int .i64 (k : Int)] w fun e w' => e = .returned (.tuple #[.int .i64 (sumK k turnsZ / 48), .bool true]) ∧ Below w.heap.size w w' := by
  have hk9 : k ≤ 9 := by simp at h; omega
  have HG := hide h
  have HU := hide (fun (g cap b : Nat) (wx : World) (h1 : DAt wx g 0 (turnsZ.map (mapD up))) (h2 : IsK wx b (k : Int)) => countUpTo_any k hk9 turnsZ turnsZ_facts.2.1 g cap 48 b turnsZ_facts.1.symm (by omega) (by omega) wx h1 h2)
  obtain ⟨Q, hQ⟩ : ∃ Q, Q = sumK k turnsZ / ((48 : Nat) : Int) := ⟨_, rfl⟩
  rw [← hQ] at HU
  have HQ := hide (show Q = sumK k turnsZ / 48 from hQ)
  rw [← HQ.out]
  rw [turnsZ_facts.2.2.1] at HU
  have HGD := hide turnsZ_facts.2.2.2.1
  have HLN := hide turnsZ_facts.2.2.2.2
  have HT := hide (fun wx => allTurns_any wx)
  generalize turnsL.map (mapD up) = T at HU HT HGD HLN
  obtain ⟨i0, hi, hz0, hz1, hz2⟩ := info_parts info_die
  have HI := hide hi
  have HZ0 := hide hz0
  have HZ1 := hide hz1
  have HZ2 := hide hz2
  clear h hQ hi hz0 hz1 hz2
  go_enter Tryd.func17, Tryd.ntmps17
  go_wp2_with fail
  refine (isColors_any _ _).mono ?_
  rintro e w1 ⟨rfl, rfl⟩
  rw [HG.out]
  go_wp2_with fail
  refine (HT.out _).mono ?_
  rintro e w2 ⟨g1, cap1, rfl, O2, q2⟩
  have HO2 := hide O2
  have hg1 := (O2.lt g1 rfl).2
  clear O2
  go_wp2_with fail
  refine (HT.out _).mono ?_
  rintro e w3 ⟨g2, cap2, rfl, O3, hb3⟩
  have q3 := below_to hb3 q2 q2.size rfl rfl rfl rfl
  have HO3 := hide (own_to hb3 HO2.out rfl)
  have hg2 := (O3.lt g2 rfl).1
  have HD3 := hide (dAt_own O3 HLN.out.symm)
  have HNE := hide (show ∀ g, (Value.slice (some ⟨g1, 0, none⟩) 24 cap1).ownBlock = some g → g ≠ g2 from fun g hg => by
    have : g1 = g := by simpa [Value.ownBlock] using hg
    omega)
  have HE0 := hide (show cellsW T = cellsW (T ++ (T.map mirrorD).take 0) from by simp)
  rw [HE0.out] at HO3
  clear hb3 q2 O3 HO2 hg1 hg2
  have hq3 := q3.size
  go_wp2
  go_loopw [4, 15] (fun mv i wr => ∃ (j : Nat) (v : Value), j ≤ 24 ∧ i = .int .i64 (j : Int) ∧ mv = v ∧ wr.ownsRow w.heap.size 30 6 v (24 + j) (cellsW (T ++ (T.map mirrorD).take j)) ∧ (∀ g, v.ownBlock = some g → g ≠ g2) ∧ DAt wr g2 0 T ∧ Below w.heap.size w wr) (fun _ i _ => 24 - (intOf i).toNat)
  case atStart => exact ⟨0, _, Nat.zero_le _, rfl, rfl, HO3.out, HNE.out, HD3.out, q3⟩
  case round =>
    obtain ⟨j, v, hj, rfl, rfl, O, hne, hD, q⟩ := hrel
    obtain ⟨g3, cap3, rfl, -, -⟩ := own_form O (by omega)
    clear HO3 HNE HD3 q3 hq3
    by_cases hlt : j < 24
    · have hji : (j : Int) < 24 := by omega
      have hx : T[j]? = some (T[j]'(by have := HLN.out; omega)) := List.getElem?_eq_getElem (by have := HLN.out; omega)
      generalize T[j]'(by have := HLN.out; omega) = d at hx
      have HS := hide (mirZ_snoc hx)
      have HM := hide (fun (wx : World) => implMirror_yes d wx (HGD.out d (List.mem_of_getElem? hx)))
      obtain ⟨c0, c1, c2, c3, c4, c5⟩ := hD.cells0 hx
      have HO := hide O
      have HN := hide hne
      have HD := hide hD
      clear hx O hne hD
      go_wp2_with fail
      refine (HM.out _).mono ?_
      rintro e w4 ⟨rfl, hb4⟩
      have q4 := below_to hb4 (q.alloc q.size (.cells #[.int .i64 d.t, .int .i64 d.n, .int .i64 d.e, .int .i64 d.s, .int .i64 d.w, .int .i64 d.b] 30)) (by have := q.size; simp; omega) rfl rfl rfl rfl
      have hb40 : Below wr.heap.size wr w4 := Below.trans ((Below.refl _ _).alloc (Nat.le_refl _) _) (hb4.mono (by simp))
      have HO4 := hide (own_to hb40 HO.out rfl)
      have HD4 := hide (dAt_to hb40 HD.out rfl)
      clear hb4 hb40 HO HD q c0 c1 c2 c3 c4 c5
      have hq4 := q4.size
      have q5 := q4.alloc q4.size (.cells #[.int .i64 (mirrorD d).t, .int .i64 (mirrorD d).n, .int .i64 (mirrorD d).e, .int .i64 (mirrorD d).s, .int .i64 (mirrorD d).w, .int .i64 (mirrorD d).b] 30)
      have HO5 := hide (HO4.out.alloc (.cells #[.int .i64 (mirrorD d).t, .int .i64 (mirrorD d).n, .int .i64 (mirrorD d).e, .int .i64 (mirrorD d).s, .int .i64 (mirrorD d).w, .int .i64 (mirrorD d).b] 30))
      have HD5 := hide (show DAt (w4.alloc (.cells #[.int .i64 (mirrorD d).t, .int .i64 (mirrorD d).n, .int .i64 (mirrorD d).e, .int .i64 (mirrorD d).s, .int .i64 (mirrorD d).w, .int .i64 (mirrorD d).b] 30)) g2 0 T from dAt_to (w0 := w4) ((Below.refl _ _).alloc (Nat.le_refl _) _) HD4.out rfl)
      have X5 : IsD (w4.alloc (.cells #[.int .i64 (mirrorD d).t, .int .i64 (mirrorD d).n, .int .i64 (mirrorD d).e, .int .i64 (mirrorD d).s, .int .i64 (mirrorD d).w, .int .i64 (mirrorD d).b] 30)) w4.heap.size (mirrorD d) 30 := IsD.new
      go_upto_region 8 with (fail)
      clear HO4 HD4 q4 hq4
      generalize w4.alloc (.cells #[.int .i64 (mirrorD d).t, .int .i64 (mirrorD d).n, .int .i64 (mirrorD d).e, .int .i64 (mirrorD d).s, .int .i64 (mirrorD d).w, .int .i64 (mirrorD d).b] 30) = W5 at HO5 HD5 q5 X5 ⊢
      generalize w4.heap.size = b5 at X5 ⊢
      generalize mirrorD d = m at HS X5 ⊢
      obtain ⟨lx, ⟨c0, c1, c2, c3, c4, c5⟩, -⟩ := X5.all
      have hq5 := q5.size
      have HQ5 := hide q5
      clear q5 X5
      go_wp2_with (at_builtin; refine wpList_append_own_at _ rfl _ _ 40 rfl w.heap.size 30 i0 (.agg #[.int .i64 0, .int .i64 0, .int .i64 0, .int .i64 0, .int .i64 0, .int .i64 0]) 6 48 Tryd.underlying40 HI.out HZ0.out HZ1.out HZ2.out rfl (by decide) _ _ _ rfl (HO5.out.alloc _) ⟨W5.heap.size, 0, none⟩ 1 1 (dcells m) rfl rfl (dcells_cell (IsD.new (w := W5) (d := m) (ty := 30))) (dcells_one m) (by unfold maxLen; omega) (by omega) (by simp; omega) ?_; intro v' w6 hown hgr hnil hblk)
      have HO6 := hide (show w6.ownsRow w.heap.size 30 6 v' (24 + (j + 1)) (cellsW (T ++ (T.map mirrorD).take (j + 1))) from by
        rw [HS.out, cellsW_append, cellsW_one]
        exact hown)
      have HN6 := hide (show ∀ g, v'.ownBlock = some g → g ≠ g2 from fun g hg => by
        rcases hblk with h | h
        · exact HN.out g (h.symm.trans hg)
        · rw [h] at hg
          have e1 := Option.some.inj hg
          have e2 := HD5.out.1
          simp at e1
          omega)
      have HD6 := hide (dAt_grown (show DAt (W5.alloc _) g2 0 T from dAt_to (w0 := W5) ((Below.refl _ _).alloc (Nat.le_refl _) _) HD5.out rfl) hgr (fun h => HN.out g2 h.symm rfl))
      have HQ6 := hide ((HQ5.out.alloc HQ5.out.size (.cells #[.int .i64 m.t, .int .i64 m.n, .int .i64 m.e, .int .i64 m.s, .int .i64 m.w, .int .i64 m.b] 30)).grown hgr (by simp; omega) (fun j hj => (HO5.out.lt j hj).1))
      clear hown hgr hnil hblk HO5 HD5 HQ5
      go_wp2
      go_roundw
      case rel => exact ⟨j + 1, _, by omega, by go_num, rfl, HO6.out, HN6.out, HD6.out, HQ6.out⟩
      case measure => simp [intOf] <;> omega
    · obtain rfl : j = 24 := by omega
      have he : T ++ (T.map mirrorD).take 24 = T ++ T.map mirrorD := by rw [List.take_of_length_le (by rw [List.length_map]; have := HLN.out; omega)]
      rw [he] at O
      have HD9 := hide (dAt_own O (by rw [List.length_append, List.length_map]; have := HLN.out; omega))
      clear he O hne hD
      go_wp2_with fail
      refine (colorsOnCycles_any _ _).mono ?_
      rintro e w7 ⟨b, rfl, hb, hb7⟩
      have q7 := below_to hb7 q q.size rfl rfl rfl rfl
      have HD7 := hide (dAt_to hb7 HD9.out rfl)
      clear hb7 q HD9
      go_wp2_with fail
      refine (HU.out g3 cap3 b _ HD7.out hb).mono ?_
      rintro e w8 ⟨rfl, hb8⟩
      have q8 := below_to hb8 q7 q7.size rfl rfl rfl rfl
      clear hb8 q7 hb
      go_wp2
      go_returns
      exact ⟨rfl, q8⟩
set_option maxHeartbeats 800000 in
theorem specCM_no (k : Int) (w : World) (h : decide (1 ≤ k ∧ k ≤ 9) = false) : Calls Tryd.prog 16 #[.int .i64 k] w fun e w' => e = .returned (.tuple #[.int .i64 0, .bool false]) ∧ Below w.heap.size w w' := by
  have HG := hide h
  clear h
  go_enter Tryd.func16, Tryd.ntmps16
  go_wp2_with fail
  refine (clColors_any _ _).mono ?_
  rintro e w1 ⟨rfl, rfl⟩
  rw [HG.out]
  go_wp2
  go_returns
  exact ⟨rfl, Below.refl _ _⟩
set_option maxHeartbeats 3200000 in
theorem specCM_yes (k : Nat) (w : World) (h : decide (1 ≤ (k : Int) ∧ (k : Int) ≤ 9) = true) : Calls Tryd.prog 16 #[.int .i64 (k : Int)] w fun e w' => e = .returned (.tuple #[.int .i64 (sumK k turnsZ / 48), .bool true]) ∧ Below w.heap.size w w' := by
  have hk : k ≤ 9 := by simp at h; omega
  have HG := hide h
  have HP := hide turns_facts.2.2.1
  have HPM := hide turns_facts.2.2.2
  have hbd := sumK_bd hk turnsZ turnsZ_facts.2.1
  rw [turnsZ_facts.1] at hbd
  have hN := turns_facts.2.1
  have HWS := hide (fun wx => diWays_any unitD wx)
  rw [turns_good.2] at HWS
  have HT : waysL unitD = turnsL := rfl
  rw [HT] at HWS
  obtain ⟨S, hS⟩ : ∃ S, S = sumK k turnsZ := ⟨_, rfl⟩
  rw [← hS] at hbd ⊢
  have HSS := hide (show S = sumK k turnsL + sumK k (turnsL.map mirrorD) from by rw [hS]; unfold turnsZ; rw [sumK_append])
  clear hS
  generalize turnsL = P at HP HPM HWS HSS hN
  have HN := hide hN
  clear h hN HT
  go_enter Tryd.func16, Tryd.ntmps16
  go_wp2_with fail
  refine (clColors_any _ _).mono ?_
  rintro e w1 ⟨rfl, rfl⟩
  rw [HG.out]
  go_wp2_with fail
  refine (diUnit_any _).mono ?_
  rintro e w1 ⟨rfl, q1⟩
  go_wp2_with fail
  refine (HWS.out _).mono ?_
  rintro e w2 ⟨v, rfl, O2, hb2⟩
  have q2 := below_to hb2 q1 q1.size rfl rfl rfl rfl
  obtain ⟨g, cap, rfl, -, -⟩ := own_form O2 (by omega)
  have HD := hide (dAt_own O2 HN.out.symm)
  clear hb2 q1 O2
  go_wp2
  go_loopw [13, 4] (fun i s wr => ∃ j : Nat, j ≤ 24 ∧ i = .int .i64 (j : Int) ∧ s = .int .i64 (sumK k (P.take j) + sumK k ((P.map mirrorD).take j)) ∧ Below w2.heap.size w2 wr) (fun i _ _ => 24 - (intOf i).toNat)
  case atStart => exact ⟨0, Nat.zero_le _, rfl, rfl, Below.refl _ _⟩
  case round =>
    obtain ⟨j, hj, rfl, rfl, q⟩ := hrel
    by_cases hlt : j < 24
    · have hji : (j : Int) < 24 := by omega
      have hx : P[j]? = some (P[j]'(by have := HN.out; omega)) := List.getElem?_eq_getElem (by have := HN.out; omega)
      generalize P[j]'(by have := HN.out; omega) = u at hx
      have hp := HP.out u (List.mem_of_getElem? hx)
      have hpm := HPM.out (mirrorD u) (List.mem_map.2 ⟨u, List.mem_of_getElem? hx, rfl⟩)
      have HC := hide (clCycles_any u hp)
      have HCM := hide (clCycles_any (mirrorD u) hpm)
      have h6 := cyc6 hp
      have h6m := cyc6 hpm
      have hpb := pw_facts hk h6
      have hpbm := pw_facts hk h6m
      have hs := sumK_mir (k := k) hx
      have hs1 := sumK_bd hk (P.take j) (fun q hq => HP.out q (List.mem_of_mem_take hq))
      have hs2 := sumK_bd hk ((P.map mirrorD).take j) (fun q hq => HPM.out q (List.mem_of_mem_take hq))
      have hl : ((P.take j).length : Int) ≤ 24 := by rw [List.length_take]; omega
      have hlm : (((P.map mirrorD).take j).length : Int) ≤ 24 := by rw [List.length_take]; omega
      have hDx := (dAt_to q HD.out rfl).cells0 hx
      have HK := hide (fun (wx : World) => clPower_any k (cycL u).length wx hk h6)
      have HKM := hide (fun (wx : World) => clPower_any k (cycL (mirrorD u)).length wx hk h6m)
      generalize cycL u = L at HC hs hpb HK h6
      generalize L.length = ln at HC hs hpb HK h6
      generalize pw k ln = pv at hs hpb HK
      generalize cycL (mirrorD u) = LM at HCM hs hpbm HKM h6m
      generalize LM.length = lm at HCM hs hpbm HKM h6m
      generalize pw k lm = pm at hs hpbm HKM
      generalize hsj : sumK k (P.take j) + sumK k ((P.map mirrorD).take j) = sj at hs ⊢
      have hsb : 0 ≤ sj ∧ sj ≤ 531441 * 48 := by omega
      have HS := hide hs
      have w1s : IntKind.i64.wrap (pv + pm) = pv + pm := IntWalk.i64_in _ (by omega)
      have w2s : IntKind.i64.wrap (sj + (pv + pm)) = sj + (pv + pm) := IntWalk.i64_in _ (by omega)
      have HW1 := hide w1s
      have HW2 := hide w2s
      clear hx hp hpm hsj hs hs1 hs2 hl hlm w1s w2s
      obtain ⟨c0, c1, c2, c3, c4, c5⟩ := hDx
      have X : IsD (wr.alloc (.cells #[.int .i64 u.t, .int .i64 u.n, .int .i64 u.e, .int .i64 u.s, .int .i64 u.w, .int .i64 u.b] 30)) wr.heap.size u 30 := IsD.new
      have q3 := q.alloc q.size (.cells #[.int .i64 u.t, .int .i64 u.n, .int .i64 u.e, .int .i64 u.s, .int .i64 u.w, .int .i64 u.b] 30)
      go_upto_region 7 with (fail)
      clear c0 c1 c2 c3 c4 c5 q
      generalize wr.alloc (.cells #[.int .i64 u.t, .int .i64 u.n, .int .i64 u.e, .int .i64 u.s, .int .i64 u.w, .int .i64 u.b] 30) = W3 at X q3 ⊢
      generalize wr.heap.size = b at X ⊢
      obtain ⟨lx, ⟨c0, c1, c2, c3, c4, c5⟩, -⟩ := X.all
      have w1s := HW1.out
      have w2s := HW2.out
      go_region_held3 (fun w' => w'.cell? ⟨b, 0, none⟩ = some (.int .i64 u.t) ∧ w'.cell? ⟨b, 1, none⟩ = some (.int .i64 u.n) ∧ w'.cell? ⟨b, 2, none⟩ = some (.int .i64 u.e) ∧ w'.cell? ⟨b, 3, none⟩ = some (.int .i64 u.s) ∧ w'.cell? ⟨b, 4, none⟩ = some (.int .i64 u.w) ∧ w'.cell? ⟨b, 5, none⟩ = some (.int .i64 u.b)) (first | (refine ⟨?_, ?_, ?_, ?_, ?_, ?_⟩ <;> with_reducible assumption) | (refine ⟨?_, ?_, ?_, ?_, ?_, ?_⟩ <;> assumption))
        (first
          | (go_at_call 40; ((with_reducible refine (HC.out _).mono ?_); rintro e w4 ⟨v, rfl, O, hb⟩; obtain ⟨pa, pc, rfl⟩ : ∃ pa pc, v = .slice pa ln pc := (by
              rcases own_forms O with ⟨rfl, h0⟩ | ⟨g, cap, rfl, _, _⟩
              · exact ⟨none, 0, by rw [h0]⟩
              · exact ⟨_, cap, rfl⟩)); have q3 := below_to hb q3 q3.size rfl rfl rfl rfl; have X := isD_to hb X rfl; obtain ⟨lx, ⟨c0, c1, c2, c3, c4, c5⟩, -⟩ := X.all; clear hb O)
          | (go_at_call 40; ((with_reducible refine (HCM.out _).mono ?_); rintro e w4 ⟨v, rfl, O, hb⟩; obtain ⟨pb, pd, rfl⟩ : ∃ pa pc, v = .slice pa lm pc := (by
              rcases own_forms O with ⟨rfl, h0⟩ | ⟨g, cap, rfl, _, _⟩
              · exact ⟨none, 0, by rw [h0]⟩
              · exact ⟨_, cap, rfl⟩)); have q3 := below_to hb q3 q3.size rfl rfl rfl rfl; have X := isD_to hb X rfl; obtain ⟨lx, ⟨c0, c1, c2, c3, c4, c5⟩, -⟩ := X.all; clear hb O)
          | (go_at_call 45; (with_reducible refine (diMirror_any u _).mono ?_); rintro e w4 ⟨rfl, hb⟩; have q3 := below_to hb q3 q3.size rfl rfl rfl rfl; have X := isD_to hb X rfl; obtain ⟨lx, ⟨c0, c1, c2, c3, c4, c5⟩, -⟩ := X.all; clear hb)
          | (go_at_call 39; (with_reducible refine (HK.out _).mono ?_); rintro e w4 ⟨rfl, rfl⟩)
          | (go_at_call 39; (with_reducible refine (HKM.out _).mono ?_); rintro e w4 ⟨rfl, rfl⟩))
      go_wp2
      go_roundw
      case rel => exact ⟨j + 1, by omega, by go_num, by rw [HS.out], q3⟩
      case measure => simp [intOf] <;> omega
    · obtain rfl : j = 24 := by omega
      have he : sumK k (P.take 24) + sumK k ((P.map mirrorD).take 24) = S := by
        rw [HSS.out, List.take_of_length_le (by have := HN.out; omega), List.take_of_length_le (by rw [List.length_map]; have := HN.out; omega)]
      rw [he]
      clear he
      go_wp2
      go_returns
      exact ⟨rfl, q2.trans (q.mono q2.size)⟩
theorem specCM_any (k : Int) (w : World) : Calls Tryd.prog 16 #[.int .i64 k] w fun e w' => e = .returned (.tuple #[.int .i64 (cmV k), .bool (decide (1 ≤ k ∧ k ≤ 9))]) ∧ Below w.heap.size w w' := by
  unfold cmV
  cases h : decide (1 ≤ k ∧ k ≤ 9)
  · exact specCM_no k w h
  · obtain ⟨n, rfl⟩ : ∃ n : Nat, k = (n : Int) := ⟨k.toNat, by simp at h; omega⟩
    exact specCM_yes n w h
theorem implCM_any (k : Int) (w : World) : Calls Tryd.prog 17 #[.int .i64 k] w fun e w' => e = .returned (.tuple #[.int .i64 (cmV k), .bool (decide (1 ≤ k ∧ k ≤ 9))]) ∧ Below w.heap.size w w' := by
  unfold cmV
  cases h : decide (1 ≤ k ∧ k ≤ 9)
  · exact implCM_no k w h
  · obtain ⟨n, rfl⟩ : ∃ n : Nat, k = (n : Int) := ⟨k.toNat, by simp at h; omega⟩
    exact implCM_yes n w h
set_option maxHeartbeats 800000 in
theorem walk_CountMirrored (a0 : Int) (ha0 : (Lit.int .i64 a0).wf = true) (w : World) (_ : Glob w) : Calls Tryd.prog 5 #[.int .i64 a0] w fun e w' => e = .returned (.bool true) ∧ Below w.heap.size w w' := by
  obtain ⟨z0, hz0⟩ : ∃ z, z = cmV a0 := ⟨_, rfl⟩
  have HZ0 := hide hz0
  clear hz0
  have e0 : (z0 != z0) = false := by simp
  obtain ⟨z1, hz1⟩ : ∃ z, z = decide (1 ≤ a0 ∧ a0 ≤ 9) := ⟨_, rfl⟩
  have HZ1 := hide hz1
  clear hz1
  have e1 : (z1 != z1) = false := by simp
  go_enter Tryd.func5, Tryd.ntmps5
  go_wp2_with fail
  refine (specCM_any a0 _).mono ?_
  rintro e w1 ⟨rfl, q1⟩
  rw [← HZ0.out, ← HZ1.out]
  go_wp2_with fail
  refine (implCM_any a0 _).mono ?_
  rintro e w2 ⟨rfl, hb2⟩
  have q2 := below_to hb2 q1 q1.size rfl rfl rfl rfl
  rw [← HZ0.out, ← HZ1.out]
  clear hb2 q1
  go_wp2
  go_returns
  exact ⟨rfl, q2⟩
end Go.Proofs.YtjikpkembcnfnaaDoor
