/- countDigits. -/
import Derived.Test.YtbfclnigjijkbaaCntD
import Derived.Test.YtbfclnigjijkbaaBuf
namespace Go.Proofs.Ytbfclnigjijkbaa
set_option maxRecDepth 100000
set_option linter.all false
open Go.RowKit

theorem cnt_take (L : List UInt8) (k : Nat) (c : UInt8) (h : L[k]? = some c) : cntD (L.take (k + 1)) = cntD (L.take k) + (if isDig c then 1 else 0) := by
  obtain ⟨hk, he⟩ := List.getElem?_eq_some_iff.1 h
  unfold cntD
  rw [List.take_succ_eq_append_getElem hk, List.countP_append, he]
  simp [List.countP_cons]
theorem cnt_len (L : List UInt8) : cntD L ≤ L.length := List.countP_le_length
set_option maxHeartbeats 1600000 in
theorem countLabels_any (s : ByteArray) (w : World) (hs : s.size ≤ 1048576) : Calls Try.prog 34 #[.string s] w fun e w' => e = .returned (.int .i64 ((cntD s.data.toList : Nat) : Int)) ∧ w = w' := by
  have hlen : s.data.toList.length = s.size := by simp
  have HLN := hide hlen
  clear hlen
  go_enter Try.func34, Try.ntmps34
  go_wp2
  go_loop [7, 4, 3] (fun i _ n => ∃ k : Nat, k ≤ s.size ∧ i = .int .i64 (k : Int) ∧ n = .int .i64 ((cntD (s.data.toList.take k) : Nat) : Int)) (fun i _ _ => s.size - (intOf i).toNat)
  case atStart => exact ⟨0, Nat.zero_le _, rfl, rfl⟩
  case round =>
    obtain ⟨k, hk, rfl, rfl⟩ := hrel
    have hle : cntD (s.data.toList.take k) ≤ k := Nat.le_trans (cnt_len _) (by simp; omega)
    by_cases hlt : k < s.size
    · have hki : (k : Int) < (s.size : Int) := by omega
      have hc : s.data.toList[k]? = some s[k] := by rw [List.getElem?_eq_getElem (by simpa using hlt)]; rfl
      have HC := hide (cnt_take s.data.toList k s[k] hc)
      clear hc
      generalize hq : cntD (s.data.toList.take k) = q at hle HC
      have HQ := hide hq
      clear hq
      cases hd : isDig s[k]
      · have HD := hide hd
        clear hd
        go_wp2_with (go_at_call 41; refine (isLabel_any s[k] _).mono ?_; rintro e w2 ⟨rfl, rfl⟩; rw [HD.out])
        go_round
        case rel => exact ⟨k + 1, by omega, by go_num, by rw [HC.out, HD.out]; simp⟩
        case measure => simp [intOf]; omega
      · have HD := hide hd
        clear hd
        have w1q : IntKind.i64.wrap ((q : Int) + 1) = (q : Int) + 1 := IntWalk.i64_in _ (by omega)
        go_wp2_with (go_at_call 41; refine (isLabel_any s[k] _).mono ?_; rintro e w2 ⟨rfl, rfl⟩; rw [HD.out])
        go_round
        case rel => exact ⟨k + 1, by omega, by go_num, by rw [HC.out, HD.out]; simp⟩
        case measure => simp [intOf]; omega
    · obtain rfl : k = s.size := by omega
      have e1 : s.data.toList.take s.size = s.data.toList := List.take_of_length_le (by rw [HLN.out]; exact Nat.le_refl _)
      rw [e1]
      clear e1
      generalize hq : cntD s.data.toList = q at hle ⊢
      have HQ := hide hq
      clear hq
      go_wp2
      go_returns
      exact ⟨by rw [HQ.out]; rfl, rfl⟩

end Go.Proofs.Ytbfclnigjijkbaa
