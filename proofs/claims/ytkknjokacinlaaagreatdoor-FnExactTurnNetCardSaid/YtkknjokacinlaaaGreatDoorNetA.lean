/- countDigits. The program's signs of sixes: isStrangeInSix; IndexFunc, ContainsFunc over a row of signs. Condition: at most 1048576 signs. -/
import Derived.Test.YtkknjokacinlaaaGreatDoorBoard
import Derived.Test.YtkknjokacinlaaaGreatDoorBuf
import Derived.Test.YtkknjokacinlaaaGreatDoorNet
namespace Go.Proofs.YtkknjokacinlaaaGreatDoor
set_option maxRecDepth 100000
set_option linter.all false
open Go.RowKit

theorem cnt_take (L : List UInt8) (k : Nat) (c : UInt8) (h : L[k]? = some c) : cntD (L.take (k + 1)) = cntD (L.take k) + (if isDig c then 1 else 0) := by
  obtain ⟨hk, he⟩ := List.getElem?_eq_some_iff.1 h
  unfold cntD
  rw [List.take_succ_eq_append_getElem hk, List.countP_append, he]
  simp [List.countP_cons]
theorem cnt_len (L : List UInt8) : cntD L ≤ L.length := List.countP_le_length
set_option maxHeartbeats 1600000 in
theorem countLabels_any (s : ByteArray) (w : World) (hs : s.size ≤ 1048576) : Calls Tryz.prog 34 #[.string s] w fun e w' => e = .returned (.int .i64 ((cntD s.data.toList : Nat) : Int)) ∧ w = w' := by
  have hlen : s.data.toList.length = s.size := by simp
  have HLN := hide hlen
  clear hlen
  go_enter Tryz.func34, Tryz.ntmps34
  go_wp2
  go_loop [7, 4, 3] (fun i _ n => ∃ k : Nat, k ≤ s.size ∧ i = .int .i64 (k : Int) ∧ n = .int .i64 ((cntD (s.data.toList.take k) : Nat) : Int)) (fun i _ _ => s.size - (intOf i).toNat)
  case atStart => exact ⟨0, Nat.zero_le _, rfl, rfl⟩
  case round =>
    obtain ⟨k, hk, rfl, rfl⟩ := hrel
    have hle : cntD (s.data.toList.take k) ≤ k := Nat.le_trans (cnt_len _) (by simp; omega)
    by_cases hlt : k < s.size
    · have hki : (k : Int) < (s.size : Int) := by omega
      have hc : s.data.toList[k]? = some s[k] := by rw [List.getElem?_eq_getElem (by simpa using hlt)]; rfl
      have HC := hide (cnt_take s.data.toList k s[k] hc)
      clear hc
      generalize hq : cntD (s.data.toList.take k) = q at hle HC
      have HQ := hide hq
      clear hq
      cases hd : isDig s[k]
      · have HD := hide hd
        clear hd
        go_wp2_with (go_at_call 45; refine (isLabel_any s[k] _).mono ?_; rintro e w2 ⟨rfl, rfl⟩; rw [HD.out])
        go_round
        case rel => exact ⟨k + 1, by omega, by go_num, by rw [HC.out, HD.out]; simp⟩
        case measure => simp [intOf]; omega
      · have HD := hide hd
        clear hd
        have w1q : IntKind.i64.wrap ((q : Int) + 1) = (q : Int) + 1 := IntWalk.i64_in _ (by omega)
        go_wp2_with (go_at_call 45; refine (isLabel_any s[k] _).mono ?_; rintro e w2 ⟨rfl, rfl⟩; rw [HD.out])
        go_round
        case rel => exact ⟨k + 1, by omega, by go_num, by rw [HC.out, HD.out]; simp⟩
        case measure => simp [intOf]; omega
    · obtain rfl : k = s.size := by omega
      have e1 : s.data.toList.take s.size = s.data.toList := List.take_of_length_le (by rw [HLN.out]; exact Nat.le_refl _)
      rw [e1]
      clear e1
      generalize hq : cntD s.data.toList = q at hle ⊢
      have HQ := hide hq
      clear hq
      go_wp2
      go_returns
      exact ⟨by rw [HQ.out]; rfl, rfl⟩

end Go.Proofs.YtkknjokacinlaaaGreatDoor
namespace Go.Proofs.YtkknjokacinlaaaGreatDoor
set_option maxRecDepth 100000
set_option linter.all false
open Go.RowKit

def strB (c : UInt8) : Bool := !okN c
theorem okN_int (c : UInt8) : okN c = (decide ((c.toNat : Int) = 46) || isDig c) := by unfold okN; rw [u8_eq]; rfl
theorem strange_any (c : UInt8) (w : World) : Calls Tryz.prog 47 #[.int .u8 (c.toNat : Int)] w fun e w' => e = .returned (.bool (strB c)) ∧ w = w' := by
  have HD := hide (show strB c = !(decide ((c.toNat : Int) = 46) || isDig c) from by unfold strB; rw [okN_int])
  by_cases h : (c.toNat : Int) = 46
  · obtain ⟨r1, r2⟩ := byte_eq h
    have HY := hide (show strB c = false from by rw [HD.out, decide_eq_true h]; rfl)
    clear h
    go_enter Tryz.func47, Tryz.ntmps47
    go_wp2
    go_returns
    exact ⟨ret_bool HY.out.symm, rfl⟩
  · obtain ⟨r1, r2⟩ := byte_ne h
    have HY := hide (show strB c = !isDig c from by rw [HD.out, decide_eq_false h]; rfl)
    clear h HD
    go_enter Tryz.func47, Tryz.ntmps47
    go_wp2_with (go_at_call 45; refine (isLabel_any c _).mono ?_; rintro e w2 ⟨rfl, rfl⟩)
    go_returns
    exact ⟨ret_bool HY.out.symm, rfl⟩

/-- The row r lies in block g from p on. -/
def SignsAt (w : World) (g p : Nat) (r : List UInt8) : Prop := ∀ (j : Nat) (c : UInt8), r[j]? = some c → w.cell? ⟨g, p + j, none⟩ = some (.int .u8 (c.toNat : Int))
/-- The first place at which p holds, or -1. -/
def idxP (p : UInt8 → Bool) (r : List UInt8) : Int := if r.any p = true then ((r.findIdx p : Nat) : Int) else -1
theorem idxP_hit {p : UInt8 → Bool} {r : List UInt8} {k : Nat} {c : UInt8} (hk : r[k]? = some c) (hp : p c = true) (hno : ∀ (j : Nat) (d : UInt8), j < k → r[j]? = some d → p d = false) : idxP p r = (k : Int) := by
  obtain ⟨hl, he⟩ := List.getElem?_eq_some_iff.1 hk
  unfold idxP
  rw [if_pos (List.any_eq_true.2 ⟨c, List.mem_of_getElem? hk, hp⟩)]
  have : r.findIdx p = k := by
    rw [List.findIdx_eq hl]
    refine ⟨by rw [he]; exact hp, fun j hj => ?_⟩
    have := hno j (r[j]'(by omega)) hj (List.getElem?_eq_getElem _)
    exact this
  rw [this]
theorem idxP_none {p : UInt8 → Bool} {r : List UInt8} (hno : ∀ (j : Nat) (d : UInt8), r[j]? = some d → p d = false) : idxP p r = -1 := by
  unfold idxP
  rw [if_neg]
  intro h
  obtain ⟨c, hc, hp⟩ := List.any_eq_true.1 h
  obtain ⟨j, hj⟩ := List.mem_iff_getElem?.1 hc
  rw [hno j c hj] at hp
  cases hp
theorem idxP_any (p : UInt8 → Bool) (r : List UInt8) : decide (0 ≤ idxP p r) = r.any p := by
  unfold idxP
  split
  · rename_i h; rw [h]; simp
  · rename_i h
    have : r.any p = false := by simpa using h
    rw [this]; rfl
theorem idxP_le (p : UInt8 → Bool) (r : List UInt8) : -1 ≤ idxP p r ∧ idxP p r < (r.length : Int) + 1 := by
  have := List.findIdx_le_length (xs := r) (p := p)
  unfold idxP
  split <;> omega

set_option maxHeartbeats 1600000 in
theorem idxDig_any (g p cap : Nat) (r : List UInt8) (w : World) (hr : r.length ≤ 1048576) (hS : SignsAt w g p r) : Calls Tryz.prog 50 #[.slice (some ⟨g, p, none⟩) r.length cap, .func (.func 45) #[] #[]] w fun e w' => e = .returned (.int .i64 (idxP isDig r)) ∧ w = w' := by
  obtain ⟨n, hn⟩ : ∃ n, n = r.length := ⟨_, rfl⟩
  rw [← hn] at hr ⊢
  have HN := hide hn
  have HS := hide hS
  clear hn hS
  go_enter Tryz.func50, Tryz.ntmps50
  go_wp2
  go_loop [8, 5] (fun i _ => ∃ k : Nat, k ≤ n ∧ i = .int .i64 (k : Int) ∧ Hid (∀ j d, j < k → r[j]? = some d → isDig d = false)) (fun i _ => n - (intOf i).toNat)
  case atStart => exact ⟨0, Nat.zero_le _, rfl, fun j d h => by omega⟩
  case round =>
    obtain ⟨k, hk, rfl, hno⟩ := hrel
    by_cases hlt : k < n
    · have hki : (k : Int) < (n : Int) := by omega
      obtain ⟨c, hc⟩ : ∃ c, r[k]? = some c := ⟨_, List.getElem?_eq_getElem (by rw [← HN.out]; exact hlt)⟩
      have c0 := HS.out k c hc
      have HC := hide hc
      clear hc
      cases hd : isDig c
      · have HD := hide hd
        clear hd
        go_wp2_with (go_at_call 45; refine (isLabel_any c _).mono ?_; rintro e w2 ⟨rfl, rfl⟩; rw [HD.out])
        go_round
        case rel =>
          refine ⟨k + 1, by omega, by go_num, fun j d hj he => ?_⟩
          by_cases hjk : j < k
          · exact hno j d hjk he
          · obtain rfl : j = k := by omega
            rw [HC.out] at he
            rw [← Option.some.inj he]
            exact HD.out
        case measure => simp [intOf]; omega
      · have HD := hide hd
        clear hd
        go_wp2_with (go_at_call 45; refine (isLabel_any c _).mono ?_; rintro e w2 ⟨rfl, rfl⟩; rw [HD.out])
        go_returns
        exact ⟨ret_int (idxP_hit HC.out HD.out hno.out).symm, rfl⟩
    · obtain rfl : k = n := by omega
      go_wp2
      go_returns
      exact ⟨ret_int (idxP_none (fun j d he => hno.out j d (by rw [HN.out]; exact (List.getElem?_eq_some_iff.1 he).1) he)).symm, rfl⟩
theorem hasDig_any (g p cap : Nat) (r : List UInt8) (w : World) (hr : r.length ≤ 1048576) (hS : SignsAt w g p r) : Calls Tryz.prog 46 #[.slice (some ⟨g, p, none⟩) r.length cap, .func (.func 45) #[] #[]] w fun e w' => e = .returned (.bool (r.any isDig)) ∧ w = w' := by
  have HA := hide (idxP_any isDig r)
  have hle := idxP_le isDig r
  go_enter Tryz.func46, Tryz.ntmps46
  go_wp2_with (go_at_call 50; refine (idxDig_any g p cap r _ hr hS).mono ?_; rintro e w2 ⟨rfl, rfl⟩)
  go_returns
  exact ⟨ret_bool HA.out, rfl⟩

set_option maxHeartbeats 1600000 in
theorem idxStr_any (g p cap : Nat) (r : List UInt8) (w : World) (hr : r.length ≤ 1048576) (hS : SignsAt w g p r) : Calls Tryz.prog 50 #[.slice (some ⟨g, p, none⟩) r.length cap, .func (.func 47) #[] #[]] w fun e w' => e = .returned (.int .i64 (idxP strB r)) ∧ w = w' := by
  obtain ⟨n, hn⟩ : ∃ n, n = r.length := ⟨_, rfl⟩
  rw [← hn] at hr ⊢
  have HN := hide hn
  have HS := hide hS
  clear hn hS
  go_enter Tryz.func50, Tryz.ntmps50
  go_wp2
  go_loop [8, 5] (fun i _ => ∃ k : Nat, k ≤ n ∧ i = .int .i64 (k : Int) ∧ Hid (∀ j d, j < k → r[j]? = some d → strB d = false)) (fun i _ => n - (intOf i).toNat)
  case atStart => exact ⟨0, Nat.zero_le _, rfl, fun j d h => by omega⟩
  case round =>
    obtain ⟨k, hk, rfl, hno⟩ := hrel
    by_cases hlt : k < n
    · have hki : (k : Int) < (n : Int) := by omega
      obtain ⟨c, hc⟩ : ∃ c, r[k]? = some c := ⟨_, List.getElem?_eq_getElem (by rw [← HN.out]; exact hlt)⟩
      have c0 := HS.out k c hc
      have HC := hide hc
      clear hc
      cases hd : strB c
      · have HD := hide hd
        clear hd
        go_wp2_with (go_at_call 47; refine (strange_any c _).mono ?_; rintro e w2 ⟨rfl, rfl⟩; rw [HD.out])
        go_round
        case rel =>
          refine ⟨k + 1, by omega, by go_num, fun j d hj he => ?_⟩
          by_cases hjk : j < k
          · exact hno j d hjk he
          · obtain rfl : j = k := by omega
            rw [HC.out] at he
            rw [← Option.some.inj he]
            exact HD.out
        case measure => simp [intOf]; omega
      · have HD := hide hd
        clear hd
        go_wp2_with (go_at_call 47; refine (strange_any c _).mono ?_; rintro e w2 ⟨rfl, rfl⟩; rw [HD.out])
        go_returns
        exact ⟨ret_int (idxP_hit HC.out HD.out hno.out).symm, rfl⟩
    · obtain rfl : k = n := by omega
      go_wp2
      go_returns
      exact ⟨ret_int (idxP_none (fun j d he => hno.out j d (by rw [HN.out]; exact (List.getElem?_eq_some_iff.1 he).1) he)).symm, rfl⟩
theorem hasStr_any (g p cap : Nat) (r : List UInt8) (w : World) (hr : r.length ≤ 1048576) (hS : SignsAt w g p r) : Calls Tryz.prog 46 #[.slice (some ⟨g, p, none⟩) r.length cap, .func (.func 47) #[] #[]] w fun e w' => e = .returned (.bool (r.any strB)) ∧ w = w' := by
  have HA := hide (idxP_any strB r)
  have hle := idxP_le strB r
  go_enter Tryz.func46, Tryz.ntmps46
  go_wp2_with (go_at_call 50; refine (idxStr_any g p cap r _ hr hS).mono ?_; rintro e w2 ⟨rfl, rfl⟩)
  go_returns
  exact ⟨ret_bool HA.out, rfl⟩
end Go.Proofs.YtkknjokacinlaaaGreatDoor
