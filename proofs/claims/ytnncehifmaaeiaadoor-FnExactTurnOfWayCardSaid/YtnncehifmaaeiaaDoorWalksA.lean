/- The walks of the laws of IsDie, MirrorDie, IsRolls, TurnDie. -/
import Derived.Test.YtnncehifmaaeiaaDoorGood
import Derived.Test.YtnncehifmaaeiaaDoorFaces
import Derived.Test.YtnncehifmaaeiaaDoorWord
namespace Go.Proofs.YtnncehifmaaeiaaDoor
set_option maxRecDepth 100000
set_option linter.all false
open Go.RowKit

set_option maxHeartbeats 400000 in
theorem diWord_any (s : ByteArray) (w : World) (hs : s.size ≤ maxLen) :
    Calls Tryd.prog 14 #[.string s] w fun e w' => e = .returned (.bool (isWord s.data.toList)) ∧ w = w' := by
  unfold maxLen at hs
  by_cases h60 : s.size ≤ 60
  · go_enter Tryd.func14, Tryd.ntmps14
    go_wp2
    go_loop [3] (fun i => ∃ k : Nat, k ≤ s.size ∧ i = .int .i64 k ∧ dirs (s.data.toList.take k) = true) (fun i => s.size - (intOf i).toNat)
    case atStart => exact ⟨0, Nat.zero_le _, rfl, rfl⟩
    case round =>
      obtain ⟨k, hk, rfl, hd⟩ := hrel
      have HD := hide hd
      clear hd
      by_cases hlt : k < s.size
      · have D1 := hide (dirS_one s k hlt)
        go_wp2_with (go_at_call 26; refine (diDir_any _ _).mono ?_; rintro e w' ⟨rfl, rfl⟩; rw [D1.out])
        · have hc : dirIx s[k].toNat < 0 := by assumption
          go_ret
          exact ⟨ret_bool (dirs_no s k hlt hc).symm, rfl⟩
        · have hc : 0 ≤ dirIx s[k].toNat := by assumption
          go_round
          case rel => exact ⟨k + 1, by omega, by go_num, dirs_snoc s k hlt HD.out hc⟩
          case measure => simp [intOf]; omega
      · go_wp2
        go_ret
        have e : k = s.size := by omega
        subst e
        exact ⟨ret_bool (dirs_yes s h60 HD.out).symm, rfl⟩
  · go_enter Tryd.func14, Tryd.ntmps14
    go_wp2
    go_ret
    have e : isWord s.data.toList = false := by
      unfold isWord
      rw [decide_eq_false (by simpa using h60)]
      rfl
    exact ⟨ret_bool e.symm, rfl⟩

end Go.Proofs.YtnncehifmaaeiaaDoor
