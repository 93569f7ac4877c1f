/- countDigits. The program's signs of sixes: isStrangeInSix; IndexFunc, ContainsFunc over a row of signs. Condition: at most 1048576 signs. -/
import Derived.Test.YtkknjokacinlaaaDoorBoard
import Derived.Test.YtkknjokacinlaaaDoorBuf
import Derived.Test.YtkknjokacinlaaaDoorNet
namespace Go.Proofs.YtkknjokacinlaaaDoor
set_option maxRecDepth 100000
set_option linter.all false
open Go.RowKit

theorem cnt_take (L : List UInt8) (k : Nat) (c : UInt8) (h : L[k]? = some c) : cntD (L.take (k + 1)) = cntD (L.take k) + (if isDig c then 1 else 0) := by
  obtain ⟨hk, he⟩ := List.getElem?_eq_some_iff.1 h
  unfold cntD
  rw [List.take_succ_eq_append_getElem hk, List.countP_append, he]
  simp [List.countP_cons]
theorem cnt_len (L : List UInt8) : cntD L ≤ L.length := List.countP_le_length
set_option maxHeartbeats 1600000 in
theorem countLabels_any (s : ByteArray) (w : World) (hs : s.size ≤ 1048576) : Calls Tryd.prog 26 #[.string s] w fun e w' => e = .returned (.int .i64 ((cntD s.data.toList : Nat) : Int)) ∧ w = w' := by
  have hlen : s.data.toList.length = s.size := by simp
  have HLN := hide hlen
  clear hlen
  go_enter Tryd.func26, Tryd.ntmps26
  go_wp2
  go_loop [7, 4, 3] (fun i _ n => ∃ k : Nat, k ≤ s.size ∧ i = .int .i64 (k : Int) ∧ n = .int .i64 ((cntD (s.data.toList.take k) : Nat) : Int)) (fun i _ _ => s.size - (intOf i).toNat)
  case atStart => exact ⟨0, Nat.zero_le _, rfl, rfl⟩
  case round =>
    obtain ⟨k, hk, rfl, rfl⟩ := hrel
    have hle : cntD (s.data.toList.take k) ≤ k := Nat.le_trans (cnt_len _) (by simp; omega)
    by_cases hlt : k < s.size
    · have hki : (k : Int) < (s.size : Int) := by omega
      have hc : s.data.toList[k]? = some s[k] := by rw [List.getElem?_eq_getElem (by simpa using hlt)]; rfl
      have HC := hide (cnt_take s.data.toList k s[k] hc)
      clear hc
      generalize hq : cntD (s.data.toList.take k) = q at hle HC
      have HQ := hide hq
      clear hq
      cases hd : isDig s[k]
      · have HD := hide hd
        clear hd
        go_wp2_with (go_at_call 38; refine (isLabel_any s[k] _).mono ?_; rintro e w2 ⟨rfl, rfl⟩; rw [HD.out])
        go_round
        case rel => exact ⟨k + 1, by omega, by go_num, by rw [HC.out, HD.out]; simp⟩
        case measure => simp [intOf]; omega
      · have HD := hide hd
        clear hd
        have w1q : IntKind.i64.wrap ((q : Int) + 1) = (q : Int) + 1 := IntWalk.i64_in _ (by omega)
        go_wp2_with (go_at_call 38; refine (isLabel_any s[k] _).mono ?_; rintro e w2 ⟨rfl, rfl⟩; rw [HD.out])
        go_round
        case rel => exact ⟨k + 1, by omega, by go_num, by rw [HC.out, HD.out]; simp⟩
        case measure => simp [intOf]; omega
    · obtain rfl : k = s.size := by omega
      have e1 : s.data.toList.take s.size = s.data.toList := List.take_of_length_le (by rw [HLN.out]; exact Nat.le_refl _)
      rw [e1]
      clear e1
      generalize hq : cntD s.data.toList = q at hle ⊢
      have HQ := hide hq
      clear hq
      go_wp2
      go_returns
      exact ⟨by rw [HQ.out]; rfl, rfl⟩

end Go.Proofs.YtkknjokacinlaaaDoor
namespace Go.Proofs.YtkknjokacinlaaaDoor
set_option maxRecDepth 100000
set_option linter.all false
open Go.RowKit

def strB (c : UInt8) : Bool := !okN c
theorem okN_int (c : UInt8) : okN c = (decide ((c.toNat : Int) = 46) || isDig c) := by unfold okN; rw [u8_eq]; rfl
/-- The row r lies in block g from p on. -/
def SignsAt (w : World) (g p : Nat) (r : List UInt8) : Prop := ∀ (j : Nat) (c : UInt8), r[j]? = some c → w.cell? ⟨g, p + j, none⟩ = some (.int .u8 (c.toNat : Int))
/-- The first place at which p holds, or -1. -/
def idxP (p : UInt8 → Bool) (r : List UInt8) : Int := if r.any p = true then ((r.findIdx p : Nat) : Int) else -1
theorem idxP_hit {p : UInt8 → Bool} {r : List UInt8} {k : Nat} {c : UInt8} (hk : r[k]? = some c) (hp : p c = true) (hno : ∀ (j : Nat) (d : UInt8), j < k → r[j]? = some d → p d = false) : idxP p r = (k : Int) := by
  obtain ⟨hl, he⟩ := List.getElem?_eq_some_iff.1 hk
  unfold idxP
  rw [if_pos (List.any_eq_true.2 ⟨c, List.mem_of_getElem? hk, hp⟩)]
  have : r.findIdx p = k := by
    rw [List.findIdx_eq hl]
    refine ⟨by rw [he]; exact hp, fun j hj => ?_⟩
    have := hno j (r[j]'(by omega)) hj (List.getElem?_eq_getElem _)
    exact this
  rw [this]
theorem idxP_none {p : UInt8 → Bool} {r : List UInt8} (hno : ∀ (j : Nat) (d : UInt8), r[j]? = some d → p d = false) : idxP p r = -1 := by
  unfold idxP
  rw [if_neg]
  intro h
  obtain ⟨c, hc, hp⟩ := List.any_eq_true.1 h
  obtain ⟨j, hj⟩ := List.mem_iff_getElem?.1 hc
  rw [hno j c hj] at hp
  cases hp
theorem idxP_any (p : UInt8 → Bool) (r : List UInt8) : decide (0 ≤ idxP p r) = r.any p := by
  unfold idxP
  split
  · rename_i h; rw [h]; simp
  · rename_i h
    have : r.any p = false := by simpa using h
    rw [this]; rfl
theorem idxP_le (p : UInt8 → Bool) (r : List UInt8) : -1 ≤ idxP p r ∧ idxP p r < (r.length : Int) + 1 := by
  have := List.findIdx_le_length (xs := r) (p := p)
  unfold idxP
  split <;> omega

end Go.Proofs.YtkknjokacinlaaaDoor
