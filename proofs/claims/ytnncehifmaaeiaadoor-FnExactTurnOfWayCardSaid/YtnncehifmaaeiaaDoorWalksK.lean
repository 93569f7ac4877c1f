/- The walks of the law of IsClosedWay. -/
import Derived.Test.YtnncehifmaaeiaaDoorWalksA
import Derived.Test.YtnncehifmaaeiaaDoorWords
import Derived.Test.YtnncehifmaaeiaaDoorNext
import Derived.Deep.QuietTactic
import Derived.BigQuiet
namespace Go.Proofs.YtnncehifmaaeiaaDoor
set_option maxRecDepth 100000
set_option linter.all false
open Go.RowKit

theorem count_as (s : ByteArray) (c : UInt8) (n : Nat) (h : s.data.toList.count c = n) (w : World) : Calls Tryd.prog 31 #[.string s, .string ⟨#[c]⟩] w fun e w' => e = .returned (.int .i64 (n : Int)) ∧ w = w' :=
  (Tryd.strings_Count_one s c w).mono fun e w' h2 => ⟨h2.1.trans (by rw [← h]; rfl), h2.2.symm⟩

theorem isClosed_any (s : ByteArray) (w : World) : Calls Tryd.prog 19 #[.string s] w fun e w' => e = .returned (.bool (closedB s.data.toList)) ∧ w = w' := by
  have HC := hide (show closedB s.data.toList = (decide (s.data.toList.count 110 = s.data.toList.count 115) && decide (s.data.toList.count 101 = s.data.toList.count 119)) from rfl)
  generalize ha : s.data.toList.count 110 = a at HC
  generalize hb : s.data.toList.count 115 = b at HC
  generalize hc : s.data.toList.count 101 = c at HC
  generalize hd : s.data.toList.count 119 = d at HC
  have HA := hide ha
  have HB := hide hb
  have HCC := hide hc
  have HD := hide hd
  clear ha hb hc hd
  by_cases h : a = b
  · subst h
    by_cases h2 : c = d
    · subst h2
      go_enter Tryd.func19, Tryd.ntmps19
      go_wp2_with (go_at_call 31; (first | (with_reducible refine (count_as s 110 _ HA.out _).mono ?_) | (with_reducible refine (count_as s 115 _ HB.out _).mono ?_) | (with_reducible refine (count_as s 101 _ HCC.out _).mono ?_) | (with_reducible refine (count_as s 119 _ HD.out _).mono ?_)); rintro e w' ⟨rfl, rfl⟩)
      go_returns
      exact ⟨ret_bool (by rw [HC.out]; simp), rfl⟩
    · have hq2 : ((c : Int) == (d : Int)) = false := beq_eq_false_iff_ne.2 (fun e => h2 (by omega))
      have H2 := hide h2
      clear h2
      go_enter Tryd.func19, Tryd.ntmps19
      go_wp2_with (go_at_call 31; (first | (with_reducible refine (count_as s 110 _ HA.out _).mono ?_) | (with_reducible refine (count_as s 115 _ HB.out _).mono ?_) | (with_reducible refine (count_as s 101 _ HCC.out _).mono ?_) | (with_reducible refine (count_as s 119 _ HD.out _).mono ?_)); rintro e w' ⟨rfl, rfl⟩)
      go_returns
      exact ⟨ret_bool (by rw [HC.out, decide_eq_false H2.out]; simp), rfl⟩
  · have hq : ((a : Int) == (b : Int)) = false := beq_eq_false_iff_ne.2 (fun e => h (by omega))
    have H2 := hide h
    clear h
    go_enter Tryd.func19, Tryd.ntmps19
    go_wp2_with (go_at_call 31; (first | (with_reducible refine (count_as s 110 _ HA.out _).mono ?_) | (with_reducible refine (count_as s 115 _ HB.out _).mono ?_) | (with_reducible refine (count_as s 101 _ HCC.out _).mono ?_) | (with_reducible refine (count_as s 119 _ HD.out _).mono ?_)); rintro e w' ⟨rfl, rfl⟩)
    go_returns
    exact ⟨ret_bool (by rw [HC.out, decide_eq_false H2.out]; simp), rfl⟩

set_option maxHeartbeats 800000 in
theorem boClosed_any (s : ByteArray) (w : World) (hw : isWord s.data.toList = true) : Calls Tryd.prog 15 #[.string s] w fun e w' => e = .returned (.bool (closedB s.data.toList)) ∧ w = w' := by
  have hlen : s.size ≤ 60 := by have := isWord_len hw; simpa using this
  have HW := hide hw
  clear hw
  have HC := hide (closedB_cnt s.data.toList)
  go_enter Tryd.func15, Tryd.ntmps15
  go_wp2
  go_loop [3, 4, 5] (fun x y i => ∃ k : Nat, k ≤ s.size ∧ i = .int .i64 k ∧ x = .int .i64 (cntX (s.data.toList.take k)) ∧ y = .int .i64 (cntY (s.data.toList.take k))) (fun _ _ i => s.size - (intOf i).toNat)
  case atStart => exact ⟨0, Nat.zero_le _, rfl, rfl, rfl⟩
  case round =>
    obtain ⟨k, hk, rfl, rfl, rfl⟩ := hrel
    by_cases hlt : k < s.size
    · have D1 := hide (dirS_one s k hlt)
      have hd := isWord_dir HW.out (k := k) (by simpa using hlt)
      have h1 := hide (show cntX (s.data.toList.take (k + 1)) = nextX (cntX (s.data.toList.take k)) (dirIx s[k].toNat) from by rw [take_snoc s k hlt]; exact cntX_snoc _ _ hd)
      have h2 := hide (show cntY (s.data.toList.take (k + 1)) = nextY (cntY (s.data.toList.take k)) (dirIx s[k].toNat) from by rw [take_snoc s k hlt]; exact cntY_snoc _ _ hd)
      have hb := cnt_le (s.data.toList.take k)
      have hl : (s.data.toList.take k).length ≤ k := List.length_take_le _ _
      have hbx : -100000 ≤ cntX (s.data.toList.take k) ∧ cntX (s.data.toList.take k) ≤ 100000 := by omega
      have hby : -100000 ≤ cntY (s.data.toList.take k) ∧ cntY (s.data.toList.take k) ≤ 100000 := by omega
      have HX := hide hbx
      have HY := hide hby
      clear hd hb hl hbx hby
      go_wp2_with (first
        | (go_at_call 26; refine (diDir_any _ _).mono ?_; rintro e w' ⟨rfl, rfl⟩; rw [D1.out])
        | (go_at_call 27; refine (boNext_any _ _ _ _ HX.out HY.out).mono ?_; rintro e w' ⟨rfl, rfl⟩; rw [← h1.out, ← h2.out]))
      go_round
      case rel => exact ⟨k + 1, by omega, by go_num, rfl, rfl⟩
      case measure => simp [intOf]; omega
    · have e : k = s.size := by omega
      subst e
      have ht : s.data.toList.take s.size = s.data.toList := List.take_of_length_le (by simp)
      rw [ht]
      clear ht hlt
      generalize hcx : cntX s.data.toList = x at HC
      generalize hcy : cntY s.data.toList = y at HC
      clear hcx hcy
      by_cases hx : x = 0
      · subst hx
        by_cases hy : y = 0
        · subst hy
          go_wp2
          go_returns
          exact ⟨ret_bool (by rw [HC.out]; rfl), rfl⟩
        · have ey : (y == 0) = false := by simpa using hy
          have H2 := hide hy
          clear hy
          go_wp2
          go_returns
          exact ⟨ret_bool (by rw [HC.out, decide_eq_false (fun h => H2.out h.2)]), rfl⟩
      · have ex : (x == 0) = false := by simpa using hx
        have H2 := hide hx
        clear hx
        go_wp2
        go_returns
        exact ⟨ret_bool (by rw [HC.out, decide_eq_false (fun h => H2.out h.1)]), rfl⟩


end Go.Proofs.YtnncehifmaaeiaaDoor
