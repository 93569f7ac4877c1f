/- The walks of the law of IsCommonDie. -/
import Derived.Test.YtpngbdpjepddhaaDoorWalksCC
namespace Go.Proofs.YtpngbdpjepddhaaDoor
set_option maxRecDepth 100000
set_option linter.all false
open Go.RowKit Go.Joins Go.ChangeShapes Go.WideShapes

/-- The first place of a number, as slices.Index tells it. -/
theorem idx_first (d : D) (n : Int) : (∃ p, p < 6 ∧ atN d p = n ∧ (∀ q, q < p → atN d q ≠ n) ∧ Lib.idxOf ((flN d).take 6) n = ((p : Nat) : Int)) ∨ ((∀ p, p < 6 → atN d p ≠ n) ∧ Lib.idxOf ((flN d).take 6) n = -1) := by
  rw [List.take_of_length_le (show (flN d).length ≤ 6 from by simp [flN])]
  unfold Lib.idxOf flN
  simp only [Lib.idxFrom]
  by_cases h0 : d.t = n
  · exact .inl ⟨0, by omega, h0, fun q hq => absurd hq (by omega), by simp [h0]⟩
  by_cases h1 : d.n = n
  · exact .inl ⟨1, by omega, h1, fun q hq => by obtain rfl : q = 0 := by omega
                                                exact h0, by simp [h0, h1]⟩
  by_cases h2 : d.e = n
  · exact .inl ⟨2, by omega, h2, fun q hq => by rcases (by omega : q = 0 ∨ q = 1) with rfl | rfl
                                                · exact h0
                                                · exact h1, by simp [h0, h1, h2]⟩
  by_cases h3 : d.s = n
  · exact .inl ⟨3, by omega, h3, fun q hq => by rcases (by omega : q = 0 ∨ q = 1 ∨ q = 2) with rfl | rfl | rfl
                                                · exact h0
                                                · exact h1
                                                · exact h2, by simp [h0, h1, h2, h3]⟩
  by_cases h4 : d.w = n
  · exact .inl ⟨4, by omega, h4, fun q hq => by rcases (by omega : q = 0 ∨ q = 1 ∨ q = 2 ∨ q = 3) with rfl | rfl | rfl | rfl
                                                · exact h0
                                                · exact h1
                                                · exact h2
                                                · exact h3, by simp [h0, h1, h2, h3, h4]⟩
  by_cases h5 : d.b = n
  · exact .inl ⟨5, by omega, h5, fun q hq => by rcases (by omega : q = 0 ∨ q = 1 ∨ q = 2 ∨ q = 3 ∨ q = 4) with rfl | rfl | rfl | rfl | rfl
                                                · exact h0
                                                · exact h1
                                                · exact h2
                                                · exact h3
                                                · exact h4, by simp [h0, h1, h2, h3, h4, h5]⟩
  · refine .inr ⟨fun p hp => ?_, by simp [h0, h1, h2, h3, h4, h5]⟩
    rcases (by omega : p = 0 ∨ p = 1 ∨ p = 2 ∨ p = 3 ∨ p = 4 ∨ p = 5) with rfl | rfl | rfl | rfl | rfl | rfl
    · exact h0
    · exact h1
    · exact h2
    · exact h3
    · exact h4
    · exact h5
theorem comI_no {d : D} {n : Int} (h1 : 1 ≤ n) (h6 : n ≤ 6) (h : ¬ okI d n) : comS d = false := by
  cases e : comS d
  · rfl
  · exact absurd ((com_same d).1 e n h1 h6) h
theorem acN_le (p : Nat) : acN p ≤ 5 := by unfold acN; split <;> omega
theorem tab_at {w : World} (h : Tab w) (p : Nat) (hp : p ≤ 5) : w.cell? ⟨0, p, none⟩ = some (.int .i64 ((acN p : Nat) : Int)) := by
  obtain ⟨_, h0, h1, h2, h3, h4, h5⟩ := h
  rcases (by omega : p = 0 ∨ p = 1 ∨ p = 2 ∨ p = 3 ∨ p = 4 ∨ p = 5) with rfl | rfl | rfl | rfl | rfl | rfl
  · exact h0
  · exact h1
  · exact h2
  · exact h3
  · exact h4
  · exact h5

set_option maxHeartbeats 3200000 in
theorem implCD_any (d : D) (w : World) (hT : Tab w) : Calls Tryd.prog 10 #[D.v d] w fun e w' => e = .returned (.bool (comS d)) ∧ Below w.heap.size w w' := by
  have hTT := hide hT
  clear hT
  go_enter Tryd.func10, Tryd.ntmps10
  go_wp2_with fail
  refine (facesOf_any d _).mono ?_
  rintro e w2 ⟨rfl, hb2⟩
  have q2 : Below w.heap.size w w2 := below_after (by go_grown) hb2 (by simp)
  have F3 := IsD.new (w := w2) (d := d) (ty := 37)
  have q3 := q2.alloc q2.size (.cells #[.int .i64 d.t, .int .i64 d.n, .int .i64 d.e, .int .i64 d.s, .int .i64 d.w, .int .i64 d.b] 37)
  have T3 := hide (tab_to hTT.out q3 (Nat.le_refl _))
  clear hb2 q2
  go_upto_region 2 with (fail)
  generalize w2.heap.size = b at F3 ⊢
  generalize w2.alloc (.cells #[.int .i64 d.t, .int .i64 d.n, .int .i64 d.e, .int .i64 d.s, .int .i64 d.w, .int .i64 d.b] 37) = w3 at F3 q3 T3 ⊢
  have HF := hide F3
  clear F3
  have HC := hide (show ∀ j, j < (flN d).length → w3.cell? ⟨b, 0 + j, none⟩ = some (.int .i64 ((flN d).getD j 0)) from by
    intro j hj
    have hj5 : j ≤ 5 := by simp [flN] at hj; omega
    rw [Nat.zero_add, cells_at HF.out j hj5]
    have := flN_get d j hj5
    simp [List.getD, this])
  have HIX := hide (fun n => Tryd.slices_Index_int b 0 6 6 (flN d) n w3 (by simp [flN]) (by omega) HC.out)
  clear HC
  go_wp2
  go_loop [4, 5] (fun i _ => ∃ j : Nat, j ≤ 6 ∧ i = .int .i64 ((j : Int) + 1) ∧ ∀ m : Int, 1 ≤ m → m ≤ j → okI d m) (fun i _ => 7 - (intOf i).toNat)
  case atStart => exact ⟨0, by omega, rfl, fun m h1 h2 => absurd h1 (by omega)⟩
  case round =>
    obtain ⟨j, hj, rfl, hok⟩ := hrel
    have HOK := hide hok
    clear hok
    by_cases hlt : j < 6
    · have hj6 : (j : Int) + 1 ≤ 6 := by omega
      obtain ⟨n, hn⟩ : ∃ n : Int, n = (j : Int) + 1 := ⟨_, rfl⟩
      have hno := comI_no (d := d) (n := n) (by omega) (by omega)
      have HNO := hide hno
      clear hno
      rw [← hn] at hj6 ⊢
      have hn1 : 1 ≤ n := by omega
      have HN0 := hide hn
      clear hn
      rcases idx_first d n with ⟨p, hp, hpn, hfst, hix⟩ | ⟨hnone, hix⟩
      · have t0 := tab_at T3.out p (by omega)
        have f0 := cells_at HF.out (acN p) (acN_le p)
        have ha := acN_le p
        have w1q : IntKind.i64.wrap (7 - n) = 7 - n := IntWalk.i64_in _ (by omega)
        have w2q : IntKind.i64.wrap (n + 1) = n + 1 := IntWalk.i64_in _ (by omega)
        by_cases hs : atN d (acN p) = 7 - n
        · have HK := hide (show okI d n from ⟨p, hp, hpn, hfst, hs⟩)
          rw [hs] at f0
          generalize acN p = a at t0 f0 ha
          have hp6 : (p : Int) < 6 := by omega
          have ha6 : (a : Int) < 6 := by omega
          have hp0 : ¬ ((p : Int) < 0) := by omega
          have e1 : ((7 - n) != (7 - n)) = false := by simp
          have HXX := hide hix
          clear hs hpn hfst hix
          go_wp2_with fail
          refine (HIX.out n).mono ?_
          rintro e w4 ⟨rfl, rfl⟩
          rw [HXX.out]
          go_wp2
          go_round
          case rel => exact ⟨j + 1, by omega, by rw [HN0.out]; go_num, fun m h1 h2 => by
            have hn0 := HN0.out
            rcases (by omega : m ≤ j ∨ m = n) with h | rfl
            · exact HOK.out m h1 h
            · exact HK.out⟩
          case measure => simp [intOf] <;> omega
        · have HN := hide (HNO.out (by
            rintro ⟨q, hq, hqn, hqf, hqs⟩
            have : q = p := by
              rcases Nat.lt_trichotomy q p with h | h | h
              · exact absurd hqn (hfst q h)
              · exact h
              · exact absurd hpn (hqf p h)
            subst this
            exact hs hqs))
          generalize hy : atN d (acN p) = y at f0 hs
          clear hy
          generalize acN p = a at t0 f0 ha
          have hp6 : (p : Int) < 6 := by omega
          have ha6 : (a : Int) < 6 := by omega
          have hp0 : ¬ ((p : Int) < 0) := by omega
          have e1 : (y != (7 - n)) = true := by simpa using hs
          have HXX := hide hix
          clear hs hpn hfst hix
          go_wp2_with fail
          refine (HIX.out n).mono ?_
          rintro e w4 ⟨rfl, rfl⟩
          rw [HXX.out]
          go_wp2
          go_returns
          exact ⟨by rw [HN.out]; rfl, q3⟩
      · have HN := hide (HNO.out (by
          rintro ⟨q, hq, hqn, _⟩
          exact hnone q hq hqn))
        have HXX := hide hix
        clear hnone hix
        go_wp2_with fail
        refine (HIX.out n).mono ?_
        rintro e w4 ⟨rfl, rfl⟩
        rw [HXX.out]
        go_wp2
        go_returns
        exact ⟨by rw [HN.out]; rfl, q3⟩
    · obtain rfl : j = 6 := by omega
      have HY := hide (show comS d = true from (com_same d).2 (fun m h1 h2 => HOK.out m h1 (by omega)))
      go_wp2
      go_returns
      exact ⟨by rw [HY.out]; rfl, q3⟩

set_option maxHeartbeats 1600000 in
theorem walk_IsCommonDie (d : D) (hr : inR d) (w : World) (hT : Tab w) : Calls Tryd.prog 4 #[D.v d] w fun e w' => e = .returned (.bool true) ∧ Below w.heap.size w w' := by
  have HT := hide hT
  have HR := hide hr
  clear hT hr
  go_enter Tryd.func4, Tryd.ntmps4
  go_wp2_with fail
  refine (toDie_any d _).mono ?_
  rintro e w1 ⟨rfl, hb1⟩
  have I1 := isD_to hb1 (IsD.new (w := w) (d := d) (ty := 23)) rfl
  have q1 : Below w.heap.size w w1 := below_after (by go_grown) hb1 (by simp)
  clear hb1
  go_wp2_with fail
  refine (specCD_any d _ HR.out).mono ?_
  rintro e w2 ⟨rfl, hb2⟩
  have I2 := isD_to hb2 I1 rfl
  have q2 := below_to hb2 q1 q1.size rfl rfl rfl rfl
  generalize hg : comS d = g
  have HG := hide hg
  clear hb2 I1 q1 hg
  obtain ⟨l1, ⟨a0, a1, a2, a3, a4, a5⟩, -⟩ := I2.all
  go_wp2_with fail
  clear a0 a1 a2 a3 a4 a5 l1
  refine (toDie_any d _).mono ?_
  rintro e w3 ⟨rfl, hb3⟩
  have q3 := below_to hb3 q2 q2.size rfl rfl rfl rfl
  have T3 := hide (tab_to HT.out q3 (Nat.le_refl _))
  clear hb3 I2 q2
  go_wp2_with fail
  refine (implCD_any d _ T3.out).mono ?_
  rintro e w4 ⟨rfl, hb4⟩
  have q4 := below_to hb4 q3 q3.size rfl rfl rfl rfl
  rw [HG.out]
  have e1 : (g != g) = false := by simp
  go_wp2
  go_returns
  exact ⟨rfl, q4⟩
end Go.Proofs.YtpngbdpjepddhaaDoor
