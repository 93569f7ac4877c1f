/- The model's search for loops. -/
import Derived.Test.YtkiocklkpnjejaaLpS
import Derived.Deep.RegionWith
namespace Go.Proofs.Ytkiocklkpnjejaa
set_option maxRecDepth 100000
set_option linter.all false
open Go.RowKit

theorem made_zeros (n : Nat) (h : n ∈ List.range 6) : (madeCells (Value.int .i64 0).cells (n * 1)).toList = ints (List.replicate n 0) := by
  have hc : (Value.int IntKind.i64 0).cells = #[Value.int .i64 0] := rfl
  simp only [List.mem_range] at h
  have : n = 0 ∨ n = 1 ∨ n = 2 ∨ n = 3 ∨ n = 4 ∨ n = 5 := by omega
  rcases this with rfl | rfl | rfl | rfl | rfl | rfl <;> simp [madeCells, hc, List.range_succ, ints]
theorem pow_div (c n j : Nat) (h : j < n) : c / 3 ^ (n - (j + 1)) / 3 = c / 3 ^ (n - j) := by
  have e : n - j = (n - (j + 1)) + 1 := by omega
  rw [e, Nat.pow_succ, Nat.div_div_eq_div_mul]
theorem ss_block {w : World} {B T : Nat} {v : Value} {L : List (List Int)} (h : SS w B T v L) : ∀ g, v.ownBlock = some g → B ≤ g ∧ g < T := fun g hg => by
  obtain ⟨vs, _, h2, h3, _⟩ := h
  exact ⟨(h2.lt g hg).1, h3 g hg⟩
theorem clPairs_at (d : D) (m : Nat) (x y : Int) (hp : (pairsL d)[m]? = some [x, y]) (W : World) : Calls Try.prog 75 #[D.v d] W fun e w' => ∃ g cap p cc, e = .returned (.slice (some ⟨g, 0, none⟩) 3 cap) ∧ w'.cell? ⟨g, m, none⟩ = some (.slice p 2 cc) ∧ w'.ownsRow W.heap.size 3 1 (.slice p 2 cc) 2 (ints [x, y]) ∧ Below W.heap.size W w' := by
  refine (clPairs_any d W).mono ?_
  rintro e w' ⟨u, rfl, S, hb⟩
  rcases ss_form S with ⟨_, h0⟩ | ⟨g, cap, rfl, _⟩
  · exact absurd h0 (show ¬ (3 = 0) from by decide)
  · obtain ⟨p, c, h1, h2⟩ := ss_row S hp
    exact ⟨g, cap, p, c, rfl, h1, h2, hb⟩
set_option maxHeartbeats 6400000 in
theorem clLoops_any (g n : Nat) (L : List D) (w : World) (hn : n = L.length) (hn1 : 1 ≤ n) (hn4 : n ≤ 4) (hD : DAt w g 0 L) : Calls Try.prog 78 #[.slice (some ⟨g, 0, none⟩) n n] w fun e w' => ∃ v, e = .returned v ∧ SS w' w.heap.size w'.heap.size v (loopsK L n (3 ^ n)) ∧ Below w.heap.size w w' := by
  have HD := hide hD
  have HN := hide hn
  have HPW := hide (fun W => clPower_anyL 3 n W (by decide) (by omega))
  obtain ⟨p3, hp3⟩ : ∃ p3, p3 = 3 ^ n := ⟨_, rfl⟩
  have hpw : pwL 3 n = (p3 : Int) := by rw [hp3]; rfl
  rw [hpw] at HPW
  have hp81 : p3 ≤ 81 := by
    have : n = 1 ∨ n = 2 ∨ n = 3 ∨ n = 4 := by omega
    rw [hp3]
    rcases this with e | e | e | e <;> rw [e] <;> decide
  rw [← hp3]
  have hni : (n : Int) ≤ 4 := by omega
  have hni1 : (1 : Int) ≤ (n : Int) := by omega
  have hp81i : (p3 : Int) ≤ 81 := by omega
  obtain ⟨i0, hi, hz0, hz1, hz2⟩ := info_parts info_intI
  have HI := hide hi
  have HZ0 := hide hz0
  have HZ1 := hide hz1
  have HZ2 := hide hz2
  clear hi hz0 hz1 hz2
  obtain ⟨i1, hi, hz0, hz1, hz2⟩ := info_parts info_intS
  have HJ := hide hi
  have HY0 := hide hz0
  have HY1 := hide hz1
  have HY2 := hide hz2
  clear hi hz0 hz1 hz2
  have HMR := hide (made_zeros n (List.mem_range.2 (by omega)))
  have HMS := hide (made_zeros (n + 1) (List.mem_range.2 (by omega)))
  clear hD hn hp3 hpw
  go_enter Try.func78, Try.ntmps78
  go_wp2
  go_loopw [4, 5] (fun v cv wr => ∃ (c T : Nat), c ≤ p3 ∧ cv = .int .i64 (c : Int) ∧ T ≤ wr.heap.size ∧ SS wr w.heap.size T v (loopsK L n c) ∧ Below w.heap.size w wr) (fun _ cv _ => p3 - (intOf cv).toNat)
  case atStart => exact ⟨0, 0, Nat.zero_le _, rfl, Nat.zero_le _, ss_nil _ _ _, Below.refl _ _⟩
  case round =>
    rename World => wa
    obtain ⟨c, T, hc, rfl, hT, S, q⟩ := hrel
    by_cases hlt : c < p3
    · have hci : (c : Int) < (p3 : Int) := by omega
      have hc81 : (c : Int) ≤ 81 := by omega
      have hwr := q.size
      have HSU := hide (loopsK_succ L n c)
      obtain ⟨P, hP⟩ : ∃ P, P = loopsK L n c := ⟨_, rfl⟩
      have hPl := loopsK_len L n c
      rw [← hP] at S HSU hPl
      have HS := hide S
      have Hq := hide q
      clear S q hP
      go_wp2_with (first
        | (go_at_call 50; (refine (HPW.out _).mono ?_); rintro e w1 ⟨rfl, rfl⟩)
        | (at_make; refine wpList_make_full _ rfl _ _ 27 rfl wa.heap.size 3 i0 (.int .i64 0) 1 Try.underlying27 HI.out HZ0.out HZ1.out .i64 .i64 _ _ n rfl rfl (by omega) (by omega) (by rw [HZ2.out]; omega) (by unfold maxLen; omega) (Nat.le_refl _) ?_; intro w2 O2 g2; rw [HMR.out, ← dig_top n c] at O2; have q2 : Below wa.heap.size wa w2 := (Below.refl _ _).grown g2 (Nat.le_refl _) (fun j hj => by cases hj)))
      have S2 := hide (ss_below q2 HS.out hT)
      have H2 := hide O2
      have Q2 := hide (below_to q2 Hq.out Hq.out.size rfl rfl rfl rfl)
      have hw2 : wa.heap.size < w2.heap.size := (O2.lt wa.heap.size rfl).2
      clear HS Hq O2 q2 g2
      go_wp2
      go_loopw [7, 8] (fun rv iv wd => ∃ p : Nat, p ≤ n ∧ iv = .int .i64 ((p : Int) - 1) ∧ rv = .int .i64 ((c / 3 ^ (n - p) : Nat) : Int) ∧ wa.heap.size < wd.heap.size ∧ SS wd w.heap.size T u4 P ∧ wd.ownsRow wa.heap.size 3 1 (.slice (some ⟨wa.heap.size, 0, none⟩) n n) n (ints (dig n c p)) ∧ Below w.heap.size w wd) (fun _ iv _ => (intOf iv + 1).toNat)
      case atStart => exact ⟨n, Nat.le_refl _, rfl, by rw [Nat.sub_self, Nat.pow_zero, Nat.div_one], hw2, S2.out, H2.out, Q2.out⟩
      case round =>
        rename World => wd
        obtain ⟨p, hp, rfl, rfl, hwd, S, H, q⟩ := hrel
        clear S2 H2 Q2
        by_cases hp0 : 0 < p
        · obtain ⟨j, rfl⟩ : ∃ j, p = j + 1 := ⟨p - 1, by omega⟩
          have hpi : (((j + 1 : Nat) : Int) - 1) = (j : Int) := by omega
          rw [hpi]
          have hjn : (j : Int) < (n : Int) := by omega
          have hj0 : (0 : Int) ≤ (j : Int) := by omega
          have HR2 := hide (pow_div c n j (by omega))
          have hds := dig_set n c j (by omega)
          have hej : n - 1 - j = n - (j + 1) := by omega
          rw [hej] at hds
          obtain ⟨r, hr⟩ : ∃ r, r = c / 3 ^ (n - (j + 1)) := ⟨_, rfl⟩
          have hr81 : r ≤ 81 := by rw [hr]; exact Nat.le_trans (Nat.div_le_self _ _) (by omega)
          rw [← hr] at HR2 hds ⊢
          have hr81i : (r : Int) ≤ 81 := by omega
          have hrem : Int.tmod (r : Int) 3 = ((r % 3 : Nat) : Int) := (Int.ofNat_tmod r 3).symm
          have hquo : Int.tdiv (r : Int) 3 = ((r / 3 : Nat) : Int) := (Int.ofNat_tdiv r 3).symm
          have hxx : (dig n c (j + 1))[j]? = some ((dig n c (j + 1))[j]'(by rw [dig_len]; omega)) := List.getElem?_eq_getElem _
          generalize (dig n c (j + 1))[j]'(by rw [dig_len]; omega) = x at hxx
          have cX := ints_cell H j x hxx
          have fX := own_free H j
          have HH := hide (own_put H j (by omega) (.int .i64 ((r % 3 : Nat) : Int)))
          rw [ints_set, hds] at HH
          have hk := (Kept.refl (some wa.heap.size) wd).set j (.int .i64 ((r % 3 : Nat) : Int))
          have HS := hide (ss_kept hk S (fun k _ h2 e => by have : wa.heap.size = k := Option.some.inj e; omega))
          have HQ := hide (q.trans (hk.below (B := w.heap.size) (fun k e => by have : wa.heap.size = k := Option.some.inj e; omega)))
          have hsz : wa.heap.size < (wd.setCell ⟨wa.heap.size, j, none⟩ (.int .i64 ((r % 3 : Nat) : Int))).heap.size := by rw [hk.size]; exact hwd
          have HSZ := hide hsz
          have hm3 : r % 3 < 3 := Nat.mod_lt _ (by decide)
          have hd27 : r / 3 ≤ 81 := Nat.le_trans (Nat.div_le_self _ _) hr81
          clear S H q hxx hds hr hk hsz
          obtain ⟨y, hy⟩ : ∃ y, y = r % 3 := ⟨_, rfl⟩
          obtain ⟨z, hz⟩ : ∃ z, z = r / 3 := ⟨_, rfl⟩
          rw [← hy] at hrem HH HS HQ HSZ hm3
          rw [← hz] at hquo HR2 hd27
          have hm3i : (y : Int) < 3 := by omega
          have hd27i : (z : Int) ≤ 81 := by omega
          clear hy hz
          go_wp2
          go_roundw
          case rel => exact ⟨j, by omega, by first | rfl | (rw [IntWalk.wrap64_in ((j : Int) - 1) (by omega)]), by rw [← HR2.out], HSZ.out, HS.out, HH.out, HQ.out⟩
          case measure =>
            have hw3 := IntWalk.wrap64_in ((j : Int) - 1) (by omega)
            simp [intOf, hw3]
            try omega
        · obtain rfl : p = 0 := by omega
          have hz : (((0 : Nat) : Int) - 1) = -1 := rfl
          rw [hz]
          rw [dig_zero] at H
          have HNL := hide (fun k => numK_len L n c k)
          have HDG := hide (fun k => choice_digit n c k)
          have HCL := hide (choice_len n c)
          have HLP := hide (show decide (lpP n (numK L (choice n c) n)) = lpB L n c from rfl)
          obtain ⟨ch, hch⟩ : ∃ ch, ch = choice n c := ⟨_, rfl⟩
          rw [← hch] at HNL HDG HCL HLP H HSU
          clear hch
          have HS := hide S
          have HH := hide H
          have Hq := hide q
          clear S H q
          go_wp2_with (at_make; refine wpList_make_full _ rfl _ _ 27 rfl wd.heap.size 3 i0 (.int .i64 0) 1 Try.underlying27 HI.out HZ0.out HZ1.out .i64 .i64 _ _ (n + 1) rfl rfl (by omega) (by omega) (by rw [HZ2.out]; omega) (by unfold maxLen; omega) (Nat.le_refl _) ?_; intro w3 O3 g3; rw [HMS.out, ← cntN_nil n] at O3; have q3 : Below wd.heap.size wd w3 := (Below.refl _ _).grown g3 (Nat.le_refl _) (fun j hj => by cases hj))
          have I3 := hide (show LpI w T u4 P wa.heap.size wd.heap.size n ch (cntN n (numK L ch 0)) w3 from ⟨ss_below q3 HS.out (by omega), own_to q3 HH.out rfl, O3, below_to q3 Hq.out Hq.out.size rfl rfl rfl rfl⟩)
          clear HS HH Hq O3 q3 g3
          go_wp2
          go_loopw [10, 46] (fun gv iv wy => ∃ k : Nat, k ≤ n ∧ iv = .int .i64 (k : Int) ∧ gv = .bool (inN n (numK L ch k)) ∧ LpI w T u4 P wa.heap.size wd.heap.size n ch (cntN n (numK L ch k)) wy) (fun _ iv _ => n - (intOf iv).toNat)
          case atStart => exact ⟨0, Nat.zero_le _, rfl, rfl, I3.out⟩
          case round =>
            rename World => wy
            obtain ⟨k, hk, rfl, rfl, I⟩ := hrel
            clear I3
            by_cases hkn : k < n
            · have hki : (k : Int) < (n : Int) := by omega
              have hx : L[k]? = some (L[k]'(by have := HN.out; omega)) := List.getElem?_eq_getElem (by have := HN.out; omega)
              have hchx : ch[k]? = some (ch.getD k 0) := by
                have : k < ch.length := by rw [HCL.out]; exact hkn
                rw [List.getD_eq_getElem?_getD, List.getElem?_eq_getElem this]
                rfl
              generalize L[k]'(by have := HN.out; omega) = d at hx
              obtain ⟨c0, c1, c2, c3, c4, c5⟩ := (dAt_to I.q HD.out rfl).cells0 hx
              have hdg := HDG.out k
              obtain ⟨m, hm⟩ : ∃ m : Nat, ch.getD k 0 = (m : Int) := ⟨(ch.getD k 0).toNat, by omega⟩
              have hm3 : m < 3 := by omega
              rw [hm] at hchx
              have hmi : (m : Int) < 3 := by omega
              obtain ⟨x, y, hp2, -⟩ := index_pair d m hm3
              have HNS := hide (show numK L ch (k + 1) = numK L ch k ++ [x, y] from by
                show numK L ch k ++ pk _ _ = _
                congr 1
                rw [List.getD_eq_getElem?_getD, hx, hm]
                unfold pk
                rw [List.getD_eq_getElem?_getD]
                simp only [Option.getD_some, Int.toNat_natCast]
                rw [hp2]
                rfl)
              have HPL := hide (show (pairsL d).length = 3 from rfl)
              have HCP := hide (fun W => clPairs_at d m x y hp2 W)
              have HCX := hide hchx
              have hnl := HNL.out k
              obtain ⟨gb, hgb⟩ : ∃ gb, gb = inN n (numK L ch k) := ⟨_, rfl⟩
              obtain ⟨xs, hxs⟩ : ∃ xs, xs = numK L ch k := ⟨_, rfl⟩
              rw [← hgb]
              rw [← hxs] at I HNS hgb hnl
              have HGB := hide hgb
              have hgk : wd.heap.size < wy.heap.size := (I.K.lt wd.heap.size rfl).2
              have I2 := hide (I.alloc (.cells #[.int .i64 d.t, .int .i64 d.n, .int .i64 d.e, .int .i64 d.s, .int .i64 d.w, .int .i64 d.b] 30))
              have HX := hide (IsD.new (w := wy) (d := d) (ty := 30))
              clear hx hdg hm hchx hp2 I hxs hgb
              go_upto_region 18 with (fail)
              clear c0 c1 c2 c3 c4 c5
              obtain ⟨lx, ⟨c0, c1, c2, c3, c4, c5⟩, -⟩ := HX.out.all
              have hgk2 : wd.heap.size < (wy.alloc (.cells #[.int .i64 d.t, .int .i64 d.n, .int .i64 d.e, .int .i64 d.s, .int .i64 d.w, .int .i64 d.b] 30)).heap.size := by simp; omega
              generalize wy.heap.size = bx at HX c0 c1 c2 c3 c4 c5 lx ⊢
              generalize wy.alloc (.cells #[.int .i64 d.t, .int .i64 d.n, .int .i64 d.e, .int .i64 d.s, .int .i64 d.w, .int .i64 d.b] 30) = W2 at HX I2 c0 c1 c2 c3 c4 c5 lx hgk2 ⊢
              have ct := ints_cell I2.out.H k _ HCX.out
              go_cut [46, 58, 59, 60] from 46 to 75 (fun kv rv lv zv wz => ∃ p cc, kv = .int .i64 (k : Int) ∧ rv = .slice p 2 cc ∧ lv = .int .i64 2 ∧ zv = .int .i64 0 ∧ wz.ownsRow W2.heap.size 3 1 (.slice p 2 cc) 2 (ints [x, y]) ∧ LpI w T u4 P wa.heap.size wd.heap.size n ch (cntN n xs) wz)
              case first =>
                go_region_with (go_at_call 75; (refine (HCP.out _).mono ?_); rintro e w5 ⟨g5, cap5, p5, cc5, rfl, hcell, O5, hb5⟩; have I5 := hide (LpI.to hb5 I2.out rfl rfl rfl rfl); have ct5 := ints_cell I5.out.H k _ HCX.out)
                all_goals (go_wp2_with fail)
                all_goals go_meet
                all_goals exact ⟨_, _, rfl, rfl, rfl, rfl, O5, I5.out⟩
              case rest =>
                obtain ⟨p5, cc5, rfl, rfl, rfl, rfl, O5, I5⟩ := hcut
                clear c0 c1 c2 c3 c4 c5 lx ct HX I2 HCP HPL
                obtain ⟨g5, c5', hgg, hg5, hcc5⟩ := own_form O5 (by omega)
                cases hgg
                have HO := hide O5
                have HI5 := hide I5
                clear O5 I5
                go_wp2
                go_loopw [60, 10] (fun jv gv wz => ∃ j : Nat, j ≤ 2 ∧ jv = .int .i64 (j : Int) ∧ gv = .bool (inN n (xs ++ [x, y].take j)) ∧ wz.ownsRow W2.heap.size 3 1 (.slice (some ⟨g5, 0, none⟩) 2 cc5) 2 (ints [x, y]) ∧ LpI w T u4 P wa.heap.size wd.heap.size n ch (cntN n (xs ++ [x, y].take j)) wz) (fun jv _ _ => 2 - (intOf jv).toNat)
                case atStart => exact ⟨0, Nat.zero_le _, rfl, by rw [List.take_zero, List.append_nil, HGB.out], HO.out, by rw [List.take_zero, List.append_nil]; exact HI5.out⟩
                case round =>
                  rename World => wz
                  obtain ⟨j, hj, rfl, rfl, O, I⟩ := hrel
                  clear HO HI5
                  by_cases hj2 : j < 2
                  · have hji : (j : Int) < 2 := by omega
                    have hzz : [x, y][j]? = some ([x, y].getD j 0) := by
                      have : j < [x, y].length := by simpa using hj2
                      rw [List.getD_eq_getElem?_getD, List.getElem?_eq_getElem this]
                      rfl
                    have cz := ints_cell O j _ hzz
                    have HT := hide (show xs ++ [x, y].take (j + 1) = (xs ++ [x, y].take j) ++ [[x, y].getD j 0] from by rw [List.take_add_one, hzz, List.append_assoc]; rfl)
                    generalize [x, y].getD j 0 = z at cz HT
                    obtain ⟨ys, hys⟩ : ∃ ys, ys = xs ++ [x, y].take j := ⟨_, rfl⟩
                    have hyl : ys.length ≤ 10 := by
                      rw [hys, List.length_append, hnl, List.length_take]
                      omega
                    rw [← hys] at I HT ⊢
                    have HIS := hide (inN_snoc n ys z)
                    clear hzz hys
                    by_cases hr : 1 ≤ z ∧ z ≤ (n : Int)
                    · have HR1 := hide (decide_eq_true hr)
                      have HIS2 := hide (show inN n (ys ++ [z]) = inN n ys from by rw [HIS.out, HR1.out, Bool.and_true])
                      obtain ⟨v, rfl⟩ : ∃ v : Nat, z = (v : Int) := ⟨z.toNat, by omega⟩
                      have hvn : v ≤ n := by omega
                      have hv1 : 1 ≤ v := by omega
                      have hvi : (v : Int) < (n : Int) + 1 := by omega
                      have cv := ints_cell I.K v _ (cntN_get n ys v hvn hv1)
                      have fv := own_free I.K v
                      have hcc : ys.count (v : Int) ≤ 10 := Nat.le_trans List.count_le_length hyl
                      have IP := I.put (by omega) (by omega) (by omega) v (by omega) (((ys.count (v : Int) : Nat) : Int) + 1)
                      rw [cntN_snoc n ys v hvn hv1] at IP
                      have HIP := hide IP
                      have HOO := hide (ownsRow_setCell_other O (a := ⟨wd.heap.size, v, none⟩) (fun e => by have : g5 = wd.heap.size := Option.some.inj e; omega) (.int .i64 (((ys.count (v : Int) : Nat) : Int) + 1)))
                      generalize ys.count (v : Int) = ct at cv hcc HIP HOO
                      have hcci : (ct : Int) ≤ 10 := by omega
                      clear I O IP hr
                      go_wp2_with (go_at_call 83; (refine (l1In_any _ _ _ _).mono ?_); rintro e w6 ⟨rfl, rfl⟩; rw [HR1.out])
                      go_roundw
                      case rel => exact ⟨j + 1, by omega, by go_num, by rw [HT.out, HIS2.out], HOO.out, by rw [HT.out]; exact HIP.out⟩
                      case measure => simp [intOf] <;> omega
                    · have HR1 := hide (decide_eq_false hr)
                      have HIS2 := hide (show inN n (ys ++ [z]) = false from by rw [HIS.out, HR1.out, Bool.and_false])
                      have HIP := hide I
                      rw [← cntN_out n ys z hr] at HIP
                      have HOO := hide O
                      clear I O hr
                      go_wp2_with (go_at_call 83; (refine (l1In_any _ _ _ _).mono ?_); rintro e w6 ⟨rfl, rfl⟩; rw [HR1.out])
                      go_roundw
                      case rel => exact ⟨j + 1, by omega, by go_num, by rw [HT.out, HIS2.out], HOO.out, by rw [HT.out]; exact HIP.out⟩
                      case measure => simp [intOf] <;> omega
                  · obtain rfl : j = 2 := by omega
                    have ht : [x, y].take 2 = [x, y] := rfl
                    rw [ht, ← HNS.out] at I ⊢
                    have HIP := hide I
                    clear I O
                    go_wp2
                    go_roundw
                    case rel => exact ⟨k + 1, by omega, by go_num, rfl, HIP.out⟩
                    case measure => simp [intOf] <;> omega
            · obtain rfl : k = n := by omega
              rw [← gB_zero]
              obtain ⟨xs, hxs⟩ : ∃ xs, xs = numK L ch k := ⟨_, rfl⟩
              have hxl := HNL.out k
              rw [← gB_full] at HLP
              rw [← hxs] at I hxl HLP ⊢
              have HI3 := hide I
              have hs1 : ∀ wx : World, (Instr.slice 27 (.slice (some ⟨wd.heap.size, 0, none⟩) (k + 1) (k + 1)) (some (.int .i64 1)) none none).run Try.prog wx = .ok (.slice (some ⟨wd.heap.size, 1, none⟩) k k) wx := fun wx => by
                have := run_hiI wd.heap.size (k + 1) (k + 1) 1 (by omega) (Nat.le_refl _) wx
                rw [if_neg (by omega)] at this
                exact this
              clear I hxs
              go_wp2
              go_loopw [79, 10] (fun iv gv wv => ∃ i : Nat, i ≤ k ∧ iv = .int .i64 (i : Int) ∧ gv = .bool (gB k xs i) ∧ LpI w T u4 P wa.heap.size wd.heap.size k ch (cntN k xs) wv) (fun iv _ _ => k - (intOf iv).toNat)
              case atStart => exact ⟨0, Nat.zero_le _, rfl, rfl, HI3.out⟩
              case round =>
                rename World => wv
                obtain ⟨i, hi, rfl, rfl, I⟩ := hrel
                clear HI3
                by_cases hin : i < k
                · have hii : (i : Int) < (k : Int) := by omega
                  have cv := ints_cell I.K (i + 1) _ (cntN_get k xs (i + 1) (by omega) (by omega))
                  have HGS := hide (gB_succ k xs i)
                  rw [Nat.add_comm i 1] at cv
                  have hcc : xs.count ((1 + i : Nat) : Int) ≤ 10 := Nat.le_trans List.count_le_length (by omega)
                  rw [Nat.add_comm i 1] at HGS
                  generalize xs.count ((1 + i : Nat) : Int) = ct at cv hcc HGS
                  have hcci : (ct : Int) ≤ 10 := by omega
                  have HI3 := hide I
                  clear I
                  cases hgb : gB k xs i
                  · rw [hgb] at HGS
                    go_wp2
                    go_roundw
                    case rel => exact ⟨1 + i, by omega, by first | go_num | exact congrArg (Value.int .i64) (by omega), by rw [HGS.out]; rfl, HI3.out⟩
                    case measure => simp [intOf] <;> omega
                  · rw [hgb] at HGS
                    go_wp2
                    go_roundw
                    case rel => exact ⟨1 + i, by omega, by first | go_num | exact congrArg (Value.int .i64) (by omega), by rw [HGS.out]; simp; first | rfl | exact Bool.eq_iff_iff.2 (by simp), HI3.out⟩
                    case measure => simp [intOf] <;> omega
                · obtain rfl : i = k := by omega
                  rw [HLP.out]
                  cases hlp : lpB L i c
                  · rw [hlp] at HSU
                    have hP1 : loopsK L i (c + 1) = P := by rw [HSU.out]; simp
                    have HS := hide I.S
                    rw [← hP1] at HS
                    have Hq := hide I.q
                    have hTv := (I.K.lt wd.heap.size rfl).2
                    have HTV := hide (show T ≤ wv.heap.size from by omega)
                    clear I hP1
                    go_wp2
                    go_roundw
                    case rel => exact ⟨c + 1, T, by omega, by go_num, HTV.out, HS.out, Hq.out⟩
                    case measure => simp [intOf] <;> omega
                  · rw [hlp, if_pos rfl] at HSU
                    obtain ⟨m, hm⟩ : ∃ m, m = P.length := ⟨_, rfl⟩
                    obtain ⟨vs, s1, s2, s3, s4, s5⟩ := I.S
                    rw [← hm] at s1 s2 hPl
                    have HS1 := hide (And.intro s1 (And.intro s3 (And.intro s4 s5)))
                    have HO := hide s2
                    have HM := hide hm
                    have HH := hide I.H
                    have Hq := hide I.q
                    have hTv := (I.K.lt wd.heap.size rfl).2
                    have hwv := I.q.size
                    have hm81 : m ≤ 81 := by omega
                    have hil : (ch).length = i := HCL.out
                    have HIL := hide hil
                    clear s1 s2 s3 s4 s5 I hm hPl hil
                    go_wp2_with (at_builtin; (refine wpList_append_own_at _ rfl _ _ 51 rfl w.heap.size 27 i1 (.slice none 0 0) 1 24 Try.underlying51 HJ.out HY0.out HY1.out HY2.out rfl (by decide) _ _ _ rfl (HO.out.alloc _) ⟨wv.heap.size, 0, none⟩ 1 1 [.slice (some ⟨wa.heap.size, 0, none⟩) i i] rfl rfl (cell_one_newR _ _ _) (by intro z hz; simp only [List.mem_singleton] at hz; subst hz; rfl) (by unfold maxLen; omega) (by omega) (by simp; omega) ?_); intro v' w6 hown hgr hnil hblk)
                    have S6 := hide (show SS w6 w.heap.size w6.heap.size v' (loopsK L i (c + 1)) from by
                      rw [HSU.out]
                      obtain ⟨h1, h3, h4, h5⟩ := HS1.out
                      have hst : ∀ i' l z, P[i']? = some l → vs[i']? = some z → (wv.alloc (.cells #[.slice (some ⟨wa.heap.size, 0, none⟩) i i] 27)).ownsRow w.heap.size 3 1 z l.length (ints l) ∧ (∀ g, z.ownBlock = some g → g < T) ∧ (∀ g, z.ownBlock = some g → u4.ownBlock ≠ some g) := fun i' l z hl hz => ⟨(h4 i' l z hl hz).1.alloc _, (h4 i' l z hl hz).2⟩
                      refine ss_snoc (w1 := wv.alloc (.cells #[.slice (some ⟨wa.heap.size, 0, none⟩) i i] 27)) (b := wa.heap.size) (by rw [← HM.out]; exact h1) h3 hst h5 (by rw [HIL.out]; exact HH.out.alloc _) (by omega) (by omega) (by simp; omega) (by rw [← HM.out]; exact hown) hgr hblk)
                    have Q6 := hide ((Hq.out.alloc Hq.out.size (.cells #[.slice (some ⟨wa.heap.size, 0, none⟩) i i] 27)).grown hgr (by have := Hq.out.size; simp; omega) (fun j hj => (HO.out.lt j hj).1))
                    clear hown hgr hnil hblk HO Hq HH HS1 HM HSU
                    go_wp2
                    go_roundw
                    case rel => exact ⟨c + 1, _, by omega, by go_num, Nat.le_refl _, S6.out, Q6.out⟩
                    case measure => simp [intOf] <;> omega
    · obtain rfl : c = p3 := by omega
      have HS := hide (ss_mono S (Nat.le_refl _) hT)
      clear S
      have hci : ¬ ((c : Int) < (c : Int)) := by omega
      go_wp2_with (go_at_call 50; (refine (HPW.out _).mono ?_); rintro e w1 ⟨rfl, rfl⟩)
      go_returns
      exact ⟨_, rfl, HS.out, q⟩
end Go.Proofs.Ytkiocklkpnjejaa
