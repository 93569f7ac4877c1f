/- ListColorings of the model, and the walk of its law. -/
import Derived.Test.YtjikpkembcnfnaaDoorLC
import Derived.Deep.RegionWith
namespace Go.Proofs.YtjikpkembcnfnaaDoor
set_option maxRecDepth 100000
set_option linter.all false
open Go.RowKit

def digP (k c p : Nat) : List Int := (List.range 6).map fun i => if i < p then 0 else digK k c i
theorem digP_len (k c p : Nat) : (digP k c p).length = 6 := by simp [digP]
theorem digP_top (k c : Nat) : digP k c 6 = List.replicate 6 0 := by simp [digP, List.range_succ]
theorem digP_zero (k c : Nat) : digP k c 0 = choiceK k c := by simp [digP, choiceK, digK]
theorem digP_set (k c j : Nat) (h : j < 6) : (digP k c (j + 1)).set j (digK k c j) = digP k c j := by
  apply List.ext_getElem?
  intro i
  rw [List.getElem?_set]
  unfold digP
  by_cases hi : i < 6
  · rw [List.length_map, List.length_range, List.getElem?_map, List.getElem?_map, List.getElem?_range hi]
    by_cases he : j = i
    · subst he
      rw [if_pos rfl, if_pos h]
      simp
    · rw [if_neg he]
      simp only [Option.map_some]
      congr 1
      by_cases h1 : i < j
      · rw [if_pos h1, if_pos (by omega)]
      · rw [if_neg h1, if_neg (by omega)]
  · rw [List.getElem?_eq_none (by simp; omega), if_neg (by omega), List.getElem?_eq_none (by simp; omega)]
theorem powK_div (k c j : Nat) (h : j < 6) : c / k ^ (6 - (j + 1)) / k = c / k ^ (6 - j) := by
  rw [Nat.div_div_eq_div_mul, ← Nat.pow_succ]
  congr 2
  omega
theorem choiceK_cells (k c : Nat) : (choiceK k c)[0]? = some (dieK k c).t ∧ (choiceK k c)[1]? = some (dieK k c).n ∧ (choiceK k c)[2]? = some (dieK k c).e ∧ (choiceK k c)[3]? = some (dieK k c).s ∧ (choiceK k c)[4]? = some (dieK k c).w ∧ (choiceK k c)[5]? = some (dieK k c).b := ⟨rfl, rfl, rfl, rfl, rfl, rfl⟩
theorem diWays_head (d : D) (hg : goodB d = true) (w : World) : Calls Tryd.prog 37 #[D.v d] w fun e w' => ∃ g n cap, e = .returned (.slice (some ⟨g, 0, none⟩) n cap) ∧ 0 < n ∧ (w'.cell? ⟨g, 0, none⟩ = some (.int .i64 (ldV d).t) ∧ w'.cell? ⟨g, 1, none⟩ = some (.int .i64 (ldV d).n) ∧ w'.cell? ⟨g, 2, none⟩ = some (.int .i64 (ldV d).e) ∧ w'.cell? ⟨g, 3, none⟩ = some (.int .i64 (ldV d).s) ∧ w'.cell? ⟨g, 4, none⟩ = some (.int .i64 (ldV d).w) ∧ w'.cell? ⟨g, 5, none⟩ = some (.int .i64 (ldV d).b)) ∧ Below w.heap.size w w' := by
  have HL := ld_yes hg
  have hp := bfs_pos d
  refine (diWays_any d w).mono ?_
  rintro e w' ⟨v, rfl, O, hb⟩
  obtain ⟨g, cap, rfl, -, -⟩ := own_form O hp
  have hr := row6_at 0 O hp HL
  simp only [Nat.zero_mul, Nat.zero_add] at hr
  exact ⟨g, _, cap, rfl, hp, hr, hb⟩
set_option maxHeartbeats 800000 in
theorem specLC_no (k : Int) (w : World) (h : decide (1 ≤ k ∧ k ≤ 3) = false) : Calls Tryd.prog 18 #[.int .i64 k] w fun e w' => e = .returned (.tuple #[.slice none 0 0, .bool false]) ∧ Below w.heap.size w w' := by
  have HG := hide h
  clear h
  go_enter Tryd.func18, Tryd.ntmps18
  go_wp2_with fail
  refine (l1In_any _ _ _ _).mono ?_
  rintro e w1 ⟨rfl, rfl⟩
  rw [HG.out]
  go_wp2
  go_returns
  exact ⟨rfl, Below.refl _ _⟩
set_option maxHeartbeats 3200000 in
theorem specLC_yes (k : Nat) (w : World) (h1 : 1 ≤ k) (h3 : k ≤ 3) : Calls Tryd.prog 18 #[.int .i64 (k : Int)] w fun e w' => ∃ v, e = .returned (.tuple #[v, .bool true]) ∧ w'.ownsRow w.heap.size 30 6 v (lcL k (k ^ 6)).length (cellsW (lcL k (k ^ 6))) ∧ Below w.heap.size w w' := by
  have hki1 : (1 : Int) ≤ (k : Int) := by omega
  have hki3 : (k : Int) ≤ 3 := by omega
  have HIN := hide (show decide (1 ≤ (k : Int) ∧ (k : Int) ≤ 3) = true from decide_eq_true ⟨hki1, hki3⟩)
  obtain ⟨hp0, hp7⟩ := pow6 h1 h3
  have HPW := hide (fun wx => clPower_any k 6 wx (by omega) (by omega))
  obtain ⟨N, hN⟩ : ∃ N, N = k ^ 6 := ⟨_, rfl⟩
  have hpw : pw k 6 = (N : Int) := by rw [hN]; rfl
  rw [hpw] at HPW
  rw [← hN] at hp0 hp7 ⊢
  have hGD := hide (goodK (k := k) (by omega) h3)
  have hMR := hide (made_rep 0 6 (List.mem_range.2 (by omega)))
  obtain ⟨i0, hi, hz0, hz1, hz2⟩ := info_parts info_die
  have HI := hide hi
  have HZ0 := hide hz0
  have HZ1 := hide hz1
  have HZ2 := hide hz2
  clear hi hz0 hz1 hz2
  obtain ⟨i1, hi, hz0, hz1, hz2⟩ := info_parts info_intI
  have HJ := hide hi
  have HY0 := hide hz0
  have HY1 := hide hz1
  have HY2 := hide hz2
  have hk0 : 0 < k := h1
  clear hi hz0 hz1 hz2 hN hpw h1 h3
  go_enter Tryd.func18, Tryd.ntmps18
  go_wp2_with fail
  refine (l1In_any _ _ _ _).mono ?_
  rintro e w1 ⟨rfl, rfl⟩
  rw [HIN.out]
  go_wp2
  go_loopw [4, 5] (fun mv nv wr => ∃ c : Nat, c ≤ N ∧ nv = .int .i64 (c : Int) ∧ wr.ownsRow w.heap.size 30 6 mv (lcL k c).length (cellsW (lcL k c)) ∧ Below w.heap.size w wr) (fun _ nv _ => N - (intOf nv).toNat)
  case atStart => exact ⟨0, Nat.zero_le _, rfl, ⟨rfl, .inl ⟨rfl, rfl⟩⟩, Below.refl _ _⟩
  case round =>
    rename World => wa
    obtain ⟨c, hc, rfl, O, q⟩ := hrel
    by_cases hlt : c < N
    · have hci : (c : Int) < (N : Int) := by omega
      have hc7 : (c : Int) ≤ 729 := by omega
      have HOO := hide O
      have Hq := hide q
      have hwa := q.size
      have HGD := hide (hGD.out c)
      have HSU := hide (lcL_succ k c)
      have hlen := lcL_len k c
      clear O q
      go_wp2_with (first
        | (go_at_call 39; (refine (HPW.out _).mono ?_); rintro e w1 ⟨rfl, rfl⟩)
        | (at_make; refine wpList_make_full _ rfl _ _ 45 rfl wa.heap.size 3 i1 (.int .i64 0) 1 Tryd.underlying45 HJ.out HY0.out HY1.out .i64 .i64 _ _ 6 rfl rfl (by omega) (by omega) (by rw [HY2.out]; omega) (by unfold maxLen; omega) (Nat.le_refl _) ?_; intro w2 O2 g2; rw [hMR.out] at O2; have q2 : Below wa.heap.size wa w2 := (Below.refl _ _).grown g2 (Nat.le_refl _) (fun j hj => by cases hj)))
      have H2 := hide (show w2.ownsRow wa.heap.size 3 1 (.slice (some ⟨wa.heap.size, 0, none⟩) 6 6) 6 (ints (digP k c 6)) from by rw [digP_top]; exact O2)
      have D2 := hide (own_to q2 HOO.out rfl)
      have HU4 := hide (show ∀ g, u4.ownBlock = some g → g ≠ wa.heap.size from fun g hg => by have := (HOO.out.lt g hg).2; omega)
      have Q2 := hide (below_to q2 Hq.out Hq.out.size rfl rfl rfl rfl)
      clear HOO Hq O2 q2 g2
      go_wp2
      go_loopw [7, 8] (fun rv iv wd => ∃ p : Nat, p ≤ 6 ∧ iv = .int .i64 ((p : Int) - 1) ∧ rv = .int .i64 ((c / k ^ (6 - p) : Nat) : Int) ∧ wd.ownsRow w.heap.size 30 6 u4 (lcL k c).length (cellsW (lcL k c)) ∧ (∀ g, u4.ownBlock = some g → g ≠ wa.heap.size) ∧ wd.ownsRow wa.heap.size 3 1 (.slice (some ⟨wa.heap.size, 0, none⟩) 6 6) 6 (ints (digP k c p)) ∧ Below w.heap.size w wd) (fun _ iv _ => (intOf iv + 1).toNat)
      case atStart => exact ⟨6, Nat.le_refl _, rfl, by rw [Nat.sub_self, Nat.pow_zero, Nat.div_one], D2.out, HU4.out, H2.out, Q2.out⟩
      case round =>
        rename World => wd
        obtain ⟨p, hp, rfl, rfl, D, hU, H, q⟩ := hrel
        clear D2 H2 Q2 HU4
        have HU4 := hide hU
        clear hU
        by_cases hp0 : 0 < p
        · obtain ⟨j, rfl⟩ : ∃ j, p = j + 1 := ⟨p - 1, by omega⟩
          have hpi : (((j + 1 : Nat) : Int) - 1) = (j : Int) := by omega
          rw [hpi]
          have hj6 : (j : Int) < 6 := by omega
          have hj0 : (0 : Int) ≤ (j : Int) := by omega
          have HR2 := hide (powK_div k c j (by omega))
          have hds := digP_set k c j (by omega)
          unfold digK at hds
          have hej : 5 - j = 6 - (j + 1) := by omega
          rw [hej] at hds
          obtain ⟨r, hr⟩ : ∃ r, r = c / k ^ (6 - (j + 1)) := ⟨_, rfl⟩
          have hr81 : r ≤ 729 := by rw [hr]; exact Nat.le_trans (Nat.div_le_self _ _) (by omega)
          rw [← hr] at HR2 hds ⊢
          have hr81i : (r : Int) ≤ 729 := by omega
          have hrem : Int.tmod (r : Int) (k : Int) = ((r % k : Nat) : Int) := (Int.ofNat_tmod r k).symm
          have hquo : Int.tdiv (r : Int) (k : Int) = ((r / k : Nat) : Int) := (Int.ofNat_tdiv r k).symm
          have hrem2 : (r : Int) % (k : Int) = ((r % k : Nat) : Int) := (Int.natCast_emod r k).symm
          have hquo2 : (r : Int) / (k : Int) = ((r / k : Nat) : Int) := (Int.natCast_ediv r k).symm
          have hxx : (digP k c (j + 1))[j]? = some ((digP k c (j + 1))[j]'(by rw [digP_len]; omega)) := List.getElem?_eq_getElem _
          generalize (digP k c (j + 1))[j]'(by rw [digP_len]; omega) = x at hxx
          have cX := ints_cell H j x hxx
          have fX := own_free H j
          have HH := hide (own_put H j (by omega) (.int .i64 ((r % k : Nat) : Int)))
          rw [ints_set, hds] at HH
          have hk := (Kept.refl (some wa.heap.size) wd).set j (.int .i64 ((r % k : Nat) : Int))
          have HD := hide (own_kept hk D (fun g hg e => HU4.out g hg (Option.some.inj e).symm))
          have HQ := hide (q.trans (hk.below (B := w.heap.size) (fun g e => by have : wa.heap.size = g := Option.some.inj e; omega)))
          have hm3 : r % k < k := Nat.mod_lt _ hk0
          have hd27 : r / k ≤ 729 := Nat.le_trans (Nat.div_le_self _ _) hr81
          clear D H q hxx hds hr hk
          obtain ⟨y, hy⟩ : ∃ y, y = r % k := ⟨_, rfl⟩
          obtain ⟨z, hz⟩ : ∃ z, z = r / k := ⟨_, rfl⟩
          rw [← hy] at hrem hrem2 HH HD HQ hm3
          rw [← hz] at hquo hquo2 HR2 hd27
          have hm3i : (y : Int) < 3 := by omega
          have hd27i : (z : Int) ≤ 729 := by omega
          clear hy hz
          go_wp2
          go_roundw
          case rel => exact ⟨j, by omega, by first | rfl | (rw [IntWalk.wrap64_in ((j : Int) - 1) (by omega)]), by rw [← HR2.out], HD.out, HU4.out, HH.out, HQ.out⟩
          case measure =>
            have hw3 := IntWalk.wrap64_in ((j : Int) - 1) (by omega)
            simp [intOf, hw3]
            try omega
        · obtain rfl : p = 0 := by omega
          have hz : (((0 : Nat) : Int) - 1) = -1 := rfl
          rw [hz]
          rw [digP_zero] at H
          obtain ⟨h0, h1, h2, h3, h4, h5⟩ := choiceK_cells k c
          have HDO := hide (diOf_any (dieK k c) wa.heap.size (cap := 6) wd (H.lt _ rfl).2 (ints_cell H 0 _ h0) (ints_cell H 1 _ h1) (ints_cell H 2 _ h2) (ints_cell H 3 _ h3) (ints_cell H 4 _ h4) (ints_cell H 5 _ h5))
          clear h0 h1 h2 h3 h4 h5 H
          have HDH := hide (fun wx => diWays_head (dieK k c) HGD.out wx)
          generalize dieK k c = d at HDO HGD HSU HDH
          obtain ⟨lb, hlb⟩ : ∃ lb, lb = lcB d := ⟨_, rfl⟩
          have heq := fun wx => eql_die (ldV d) d wx
          have hlb2 : decide (ldV d = d) = lb := hlb.symm
          rw [hlb2] at heq
          rw [← hlb] at HSU
          generalize ldV d = y at heq hlb2 HDH
          have HD := hide D
          have Hq := hide q
          clear D q hlb hlb2
          go_wp2_with fail
          refine HDO.out.mono ?_
          rintro e w3 ⟨rfl, hb3⟩
          have O3 := own_to hb3 HD.out rfl
          have q3 := below_to hb3 Hq.out Hq.out.size rfl rfl rfl rfl
          clear hb3 HD Hq HDO
          have HO4 := hide (O3.alloc (.cells #[.int .i64 d.t, .int .i64 d.n, .int .i64 d.e, .int .i64 d.s, .int .i64 d.w, .int .i64 d.b] 30))
          have q4 := q3.alloc q3.size (.cells #[.int .i64 d.t, .int .i64 d.n, .int .i64 d.e, .int .i64 d.s, .int .i64 d.w, .int .i64 d.b] 30)
          have X4 : IsD (w3.alloc (.cells #[.int .i64 d.t, .int .i64 d.n, .int .i64 d.e, .int .i64 d.s, .int .i64 d.w, .int .i64 d.b] 30)) w3.heap.size d 30 := IsD.new
          go_upto_region 15 with (fail)
          clear O3 q3
          generalize w3.alloc (.cells #[.int .i64 d.t, .int .i64 d.n, .int .i64 d.e, .int .i64 d.s, .int .i64 d.w, .int .i64 d.b] 30) = w4 at HO4 q4 X4 ⊢
          generalize w3.heap.size = b4 at X4 ⊢
          obtain ⟨lx, ⟨c0, c1, c2, c3, c4, c5⟩, -⟩ := X4.all
          go_cut [41] from 36 to 42 (fun tv wx => tv = .bool lb ∧ wx.ownsRow w.heap.size 30 6 u4 (lcL k c).length (cellsW (lcL k c)) ∧ IsD wx b4 d 30 ∧ Below w.heap.size w wx)
          case first =>
            go_region_with (go_at_call 37; (refine (HDH.out _).mono ?_); rintro e w5 ⟨g5, n5, cap5, rfl, hn5, ⟨r0, r1, r2, r3, r4, r5⟩, hb5⟩; have hn5i : (0 : Int) < (n5 : Int) := (by omega); have O5 := hide (own_to hb5 HO4.out rfl); have X5 := isD_to hb5 X4 rfl; have q5 := below_to hb5 q4 q4.size rfl rfl rfl rfl; obtain ⟨lx, ⟨c0, c1, c2, c3, c4, c5⟩, -⟩ := X5.all; clear hb5)
            all_goals (go_wp2_with fail)
            all_goals go_meet
            all_goals exact ⟨rfl, O5.out, X5, q5⟩
          case rest =>
            obtain ⟨rfl, O5, X5, q5⟩ := hcut
            clear c0 c1 c2 c3 c4 c5 lx X4 HO4 q4 HDH
            obtain ⟨lx, ⟨c0, c1, c2, c3, c4, c5⟩, -⟩ := X5.all
            have HO5 := hide O5
            have HQ5 := hide q5
            have hq5 := q5.size
            clear O5 X5 q5
            cases lb with
            | false =>
              have HE := hide (show lcL k (c + 1) = lcL k c from by rw [HSU.out]; simp)
              rw [← HE.out] at HO5
              clear HSU HE
              go_wp2
              go_roundw
              case rel => exact ⟨c + 1, by omega, by go_num, HO5.out, HQ5.out⟩
              case measure => simp [intOf] <;> omega
            | true =>
              have HE := hide (show lcL k (c + 1) = lcL k c ++ [d] from by rw [HSU.out, if_pos rfl])
              have HLE := hide (show (lcL k (c + 1)).length = (lcL k c).length + 1 from by rw [HE.out, List.length_append]; rfl)
              clear HSU
              rename World => w5
              go_wp2_with (at_builtin; refine wpList_append_own_at _ rfl _ _ 40 rfl w.heap.size 30 i0 (.agg #[.int .i64 0, .int .i64 0, .int .i64 0, .int .i64 0, .int .i64 0, .int .i64 0]) 6 48 Tryd.underlying40 HI.out HZ0.out HZ1.out HZ2.out rfl (by decide) _ _ _ rfl (HO5.out.alloc _) ⟨w5.heap.size, 0, none⟩ 1 1 (dcells d) rfl rfl (dcells_cell (IsD.new (w := w5) (d := d) (ty := 30))) (dcells_one d) (by unfold maxLen; omega) (by omega) (by simp; omega) ?_; intro v' w6 hown hgr hnil hblk)
              have HO6 := hide (show w6.ownsRow w.heap.size 30 6 v' (lcL k (c + 1)).length (cellsW (lcL k (c + 1))) from by
                rw [HLE.out, HE.out, cellsW_append, cellsW_one]
                exact hown)
              have HQ6 := hide ((HQ5.out.alloc HQ5.out.size (.cells #[.int .i64 d.t, .int .i64 d.n, .int .i64 d.e, .int .i64 d.s, .int .i64 d.w, .int .i64 d.b] 30)).grown hgr (by simp; omega) (fun j hj => (HO5.out.lt j hj).1))
              clear hown hgr hnil hblk HO5 HQ5
              go_wp2
              go_roundw
              case rel => exact ⟨c + 1, by omega, by go_num, HO6.out, HQ6.out⟩
              case measure => simp [intOf] <;> omega
    · obtain rfl : c = N := by omega
      have HO := hide O
      clear O
      go_wp2_with (go_at_call 39; (refine (HPW.out _).mono ?_); rintro e w1 ⟨rfl, rfl⟩)
      go_returns
      exact ⟨_, rfl, HO.out, q⟩
theorem specLC_any (k : Int) (w : World) : Calls Tryd.prog 18 #[.int .i64 k] w fun e w' => ∃ v, e = .returned (.tuple #[v, .bool (decide (1 ≤ k ∧ k ≤ 3))]) ∧ w'.ownsRow w.heap.size 30 6 v (lcA k).length (cellsW (lcA k)) ∧ Below w.heap.size w w' := by
  unfold lcA
  cases h : decide (1 ≤ k ∧ k ≤ 3)
  · refine (specLC_no k w h).mono ?_
    rintro e w' ⟨rfl, hb⟩
    exact ⟨_, rfl, ⟨rfl, .inl ⟨rfl, rfl⟩⟩, hb⟩
  · have h' : 1 ≤ k ∧ k ≤ 3 := of_decide_eq_true h
    obtain ⟨n, rfl⟩ : ∃ n : Nat, k = (n : Int) := ⟨k.toNat, by omega⟩
    exact specLC_yes n w (by omega) (by omega)
theorem implLC_any (k : Int) (w : World) : Calls Tryd.prog 19 #[.int .i64 k] w fun e w' => ∃ v, e = .returned (.tuple #[v, .bool (decide (1 ≤ k ∧ k ≤ 3))]) ∧ w'.ownsRow w.heap.size 30 6 v (lcA k).length (cellsW (lcA k)) ∧ Below w.heap.size w w' := by
  unfold lcA
  cases h : decide (1 ≤ k ∧ k ≤ 3)
  · refine (implLC_no k w h).mono ?_
    rintro e w' ⟨rfl, hb⟩
    exact ⟨_, rfl, ⟨rfl, .inl ⟨rfl, rfl⟩⟩, hb⟩
  · have h' : 1 ≤ k ∧ k ≤ 3 := of_decide_eq_true h
    obtain ⟨n, rfl⟩ : ∃ n : Nat, k = (n : Int) := ⟨k.toNat, by omega⟩
    exact implLC_yes n w (by omega) (by omega)
set_option maxHeartbeats 3200000 in
theorem walk_ListColorings (a0 : Int) (ha0 : (Lit.int .i64 a0).wf = true) (w : World) (_ : Glob w) : Calls Tryd.prog 6 #[.int .i64 a0] w fun e w' => e = .returned (.bool true) ∧ Below w.heap.size w w' := by
  have hlen := hide (show (lcA a0).length ≤ 100000 from lcA_len _)
  obtain ⟨Z, hZ⟩ : ∃ Z, Z = lcA a0 := ⟨_, rfl⟩
  have HZ := hide hZ
  clear hZ
  rw [← HZ.out] at hlen
  obtain ⟨ok, hok⟩ : ∃ ok, ok = decide (1 ≤ a0 ∧ a0 ≤ 3) := ⟨_, rfl⟩
  have HOK := hide hok
  clear hok
  have e1 : (ok != ok) = false := by simp
  obtain ⟨N, hN⟩ : ∃ N : Int, N = ((Z.length * 6 : Nat) : Int) := ⟨_, rfl⟩
  have n1 : ¬ (1 + N < 0) := by omega
  have n2 : ((1 + N) != (1 + N)) = false := by simp
  have HN := hide hN
  clear hN
  go_enter Tryd.func6, Tryd.ntmps6
  go_wp2_with fail
  refine (specLC_any a0 _).mono ?_
  rintro e w1 ⟨r0, rfl, O1, hb1⟩
  have q1 : Below w.heap.size w w1 := below_after (by go_grown) hb1 (by simp)
  rw [← HZ.out] at O1
  rw [← HOK.out]
  have HO1 := hide (O1)
  clear hb1  O1
  have hltO := hide (fun g hg => (HO1.out.lt g hg).2)
  have hsq : w.heap.size ≤ _ := q1.size
  go_wp2_with fail
  refine (implLC_any a0 _).mono ?_
  rintro e w2 ⟨r1, rfl, O2, hb2⟩
  have q2 := below_to hb2 q1 q1.size rfl rfl rfl rfl
  have HO2 := hide (own_to hb2 HO1.out rfl)
  have zs2 := hb2.size
  rw [← HZ.out] at O2
  rw [← HOK.out]
  have HG2 := hide (O2)
  clear hb2 HO1 q1 O2
  go_wp2_with fail
  refine (eqDieS_any r1 r0 Z.length _ _ Z _ (by have := hlen.out; omega) HG2.out HO2.out).mono ?_
  rintro e w3 ⟨rfl, hb3⟩
  have q3 := below_to hb3 q2 q2.size rfl rfl rfl rfl
  have HG3 := hide (own_to hb3 HG2.out rfl)
  have HO3 := hide (own_to hb3 HO2.out rfl)
  have zs3 := hb3.size
  clear hb3 HG2 HO2 q2 
  go_wp2_with fail
  refine (markDieS_any r1 Z.length _ Z 1 _ (by have := hlen.out; omega) (by omega) HG3.out).mono ?_
  rintro e w4 ⟨rfl, G4, hb4⟩
  rw [← HN.out]
  have q4 := q3.trans (hb4.mono hsq)
  have HO4 := hide (own_below hb4 HO3.out hltO.out)
  have HG4 := hide G4
  clear hb4 G4 q3 HO3 HG3
  go_wp2_with fail
  refine (heldDieS_any r1 Z.length _ 1 _ (by have := hlen.out; omega) (by omega) HG4.out).mono ?_
  rintro e w' ⟨rfl, rfl⟩
  rw [← HN.out]
  go_wp2_with fail
  refine (implLC_any a0 _).mono ?_
  rintro e w5 ⟨r2, rfl, O5, hb5⟩
  have q5 := below_to hb5 q4 q4.size rfl rfl rfl rfl
  have HG5 := hide (own_to hb5 HG4.out rfl)
  have HO5 := hide (own_to hb5 HO4.out rfl)
  have zs5 := hb5.size
  rw [← HZ.out] at O5
  rw [← HOK.out]
  have HH5 := hide (O5)
  clear hb5 HG4 HO4 q4 O5
  go_wp2_with fail
  refine (eqDieS_any r2 r0 Z.length _ _ Z _ (by have := hlen.out; omega) HH5.out HO5.out).mono ?_
  rintro e w6 ⟨rfl, hb6⟩
  have q6 := below_to hb6 q5 q5.size rfl rfl rfl rfl
  have HG6 := hide (own_to hb6 HG5.out rfl)
  have HH6 := hide (own_to hb6 HH5.out rfl)
  have HO6 := hide (own_to hb6 HO5.out rfl)
  have zs6 := hb6.size
  clear hb6 HG5 HH5 HO5 q5 
  go_wp2_with fail
  refine (heldDieS_any r1 Z.length _ 1 _ (by have := hlen.out; omega) (by omega) HG6.out).mono ?_
  rintro e w' ⟨rfl, rfl⟩
  rw [← HN.out]
  go_wp2
  go_returns
  exact ⟨rfl, q6⟩
end Go.Proofs.YtjikpkembcnfnaaDoor
