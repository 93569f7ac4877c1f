/- The walks of the laws of BackWord and TurnRolls. -/
import Derived.Test.YtphcaikggfmpaaaWalksK
import Derived.Laws.IdiomStrings
namespace Go.Proofs.Ytphcaikggfmpaaa
set_option maxRecDepth 100000
set_option linter.all false
open Go.RowKit

theorem diDirsL_any (w : World) : Calls Try.prog 45 #[] w fun e w' => e = .returned (.string ⟨#[110, 101, 115, 119]⟩) ∧ w = w' := by
  go_enter Try.func45, Try.ntmps45
  go_wp2
  go_ret
  exact ⟨rfl, rfl⟩
theorem dsl0 (wx : World) : (Instr.slice 9 (.string ⟨#[110, 101, 115, 119]⟩) (some (.int .i64 0)) (some (.int .i64 1)) none).run Try.prog wx = .ok (.string ⟨#[110]⟩) wx := by kernel_rfl
theorem dsl1 (wx : World) : (Instr.slice 9 (.string ⟨#[110, 101, 115, 119]⟩) (some (.int .i64 1)) (some (.int .i64 2)) none).run Try.prog wx = .ok (.string ⟨#[101]⟩) wx := by kernel_rfl
theorem dsl2 (wx : World) : (Instr.slice 9 (.string ⟨#[110, 101, 115, 119]⟩) (some (.int .i64 2)) (some (.int .i64 3)) none).run Try.prog wx = .ok (.string ⟨#[115]⟩) wx := by kernel_rfl
theorem dsl3 (wx : World) : (Instr.slice 9 (.string ⟨#[110, 101, 115, 119]⟩) (some (.int .i64 3)) (some (.int .i64 4)) none).run Try.prog wx = .ok (.string ⟨#[119]⟩) wx := by kernel_rfl
theorem idx_lit (c : UInt8) (n : Int) (h : dirIx c.toNat = n) (w : World) : Calls Try.prog 46 #[.string ⟨#[110, 101, 115, 119]⟩, .int .u8 c.toNat] w fun e w' => e = .returned (.int .i64 n) ∧ w = w' := by
  rw [← h]
  exact indexNesw_any c w
theorem info_u8 : (Try.prog.info? 5).map (fun i => (i.zero, i.size, i.bytes)) = some (some (.int .u8 0), 1, 1) := by kernel_rfl
/-- 'string(b)' of a row of bytes that the call owns. -/
theorem bytes_back {w : World} {base g n cap : Nat} {l : List UInt8} (h : w.ownsRow base 5 1 (.slice (some ⟨g, 0, none⟩) n cap) n (bytesV l)) (hn : l.length = n) :
    (convert 45 9 (.slice (some ⟨g, 0, none⟩) n cap)).run Try.prog w = .ok (.string ⟨l.toArray⟩) w := by
  subst hn
  refine run_convert_bytes_back w _ _ 5 _ cap l Try.underlying45 Try.underlying5 Try.underlying9 (fun j hj => ?_)
  exact h.cells rfl j _ (by simp [bytesV, List.getElem?_eq_getElem hj])

theorem opposite_any (c : UInt8) (w : World) (hc : 0 ≤ dirIx c.toNat) : Calls Try.prog 40 #[.int .u8 (c.toNat : Int)] w fun e w' => e = .returned (.int .u8 ((oppC c).toNat : Int)) ∧ w = w' := by
  rcases dir_cases c hc with rfl | rfl | rfl | rfl <;> clear hc
  all_goals
    go_enter Try.func40, Try.ntmps40
    go_wp2
    go_returns
    exact ⟨rfl, rfl⟩

set_option maxHeartbeats 1600000 in
theorem diBack_any (s : ByteArray) (w : World) (hw : isWord s.data.toList = true) : Calls Try.prog 39 #[.string s] w fun e w' => e = .returned (.string ⟨(backW s.data.toList).toArray⟩) ∧ w = w' := by
  have hlen : s.size ≤ 60 := by have := isWord_len hw; simpa using this
  have HW := hide hw
  clear hw
  go_enter Try.func39, Try.ntmps39
  go_wp2
  go_loop [3, 4] (fun o i => ∃ (k : Nat) (t : Int), k ≤ s.size ∧ t + 1 = (k : Int) ∧ i = .int .i64 t ∧ o = .string ⟨(backW (s.data.toList.drop k)).toArray⟩) (fun _ i => (intOf i + 1).toNat)
  case atStart => exact ⟨s.size, _, Nat.le_refl _, by omega, rfl, by rw [List.drop_of_length_le (by simp)]; rfl⟩
  case round =>
    obtain ⟨k, t, hk, ht, rfl, rfl⟩ := hrel
    by_cases hk0 : k = 0
    · subst hk0
      obtain rfl : t = -1 := by omega
      clear hk ht
      rw [List.drop_zero]
      go_wp2
      go_returns
      exact ⟨rfl, rfl⟩
    · obtain ⟨j, rfl⟩ : ∃ j, k = j + 1 := ⟨k - 1, by omega⟩
      obtain rfl : t = (j : Int) := by omega
      have hlt : j < s.size := by omega
      have hd := isWord_dir HW.out (k := j) (by simpa using hlt)
      have HS := hide (backW_step s.data.toList j (by simpa using hlt))
      have hol : (backW (s.data.toList.drop (j + 1))).length ≤ 60 := by rw [backW_len, List.length_drop]; simp; omega
      generalize ho : backW (s.data.toList.drop (j + 1)) = o at HS hol
      clear ho ht hk hk0
      have ha : ¬ 9223372036854775807 < o.length + 1 := by omega
      have hcc := dir_cases s[j] hd
      have e0 : s.data.toList[j]'(by simpa using hlt) = s[j] := rfl
      rcases hcc with hc | hc | hc | hc
      · have D1 := hide (show dirS (s.extract j (j + 1)).data.toList = 0 from by rw [dirS_one s j hlt, hc]; rfl)
        have HE := hide (show backW (s.data.toList.drop j) = o ++ [115] from by rw [HS.out, e0, hc]; rfl)
        have q := dsl2
        clear hc hd e0
        go_wp2_with (first
          | (go_at_call 30; refine (diDir_any _ _).mono ?_; rintro e w' ⟨rfl, rfl⟩; rw [D1.out])
          | (go_at_call 45; refine (diDirsL_any _).mono ?_; rintro e w' ⟨rfl, rfl⟩))
        go_round
        case rel => exact ⟨j, _, by omega, by omega, rfl, by rw [HE.out, ← str_snoc]⟩
        case measure => simp [intOf] <;> omega
      · have D1 := hide (show dirS (s.extract j (j + 1)).data.toList = 1 from by rw [dirS_one s j hlt, hc]; rfl)
        have HE := hide (show backW (s.data.toList.drop j) = o ++ [119] from by rw [HS.out, e0, hc]; rfl)
        have q := dsl3
        clear hc hd e0
        go_wp2_with (first
          | (go_at_call 30; refine (diDir_any _ _).mono ?_; rintro e w' ⟨rfl, rfl⟩; rw [D1.out])
          | (go_at_call 45; refine (diDirsL_any _).mono ?_; rintro e w' ⟨rfl, rfl⟩))
        go_round
        case rel => exact ⟨j, _, by omega, by omega, rfl, by rw [HE.out, ← str_snoc]⟩
        case measure => simp [intOf] <;> omega
      · have D1 := hide (show dirS (s.extract j (j + 1)).data.toList = 2 from by rw [dirS_one s j hlt, hc]; rfl)
        have HE := hide (show backW (s.data.toList.drop j) = o ++ [110] from by rw [HS.out, e0, hc]; rfl)
        have q := dsl0
        clear hc hd e0
        go_wp2_with (first
          | (go_at_call 30; refine (diDir_any _ _).mono ?_; rintro e w' ⟨rfl, rfl⟩; rw [D1.out])
          | (go_at_call 45; refine (diDirsL_any _).mono ?_; rintro e w' ⟨rfl, rfl⟩))
        go_round
        case rel => exact ⟨j, _, by omega, by omega, rfl, by rw [HE.out, ← str_snoc]⟩
        case measure => simp [intOf] <;> omega
      · have D1 := hide (show dirS (s.extract j (j + 1)).data.toList = 3 from by rw [dirS_one s j hlt, hc]; rfl)
        have HE := hide (show backW (s.data.toList.drop j) = o ++ [101] from by rw [HS.out, e0, hc]; rfl)
        have q := dsl1
        clear hc hd e0
        go_wp2_with (first
          | (go_at_call 30; refine (diDir_any _ _).mono ?_; rintro e w' ⟨rfl, rfl⟩; rw [D1.out])
          | (go_at_call 45; refine (diDirsL_any _).mono ?_; rintro e w' ⟨rfl, rfl⟩))
        go_round
        case rel => exact ⟨j, _, by omega, by omega, rfl, by rw [HE.out, ← str_snoc]⟩
        case measure => simp [intOf] <;> omega

set_option maxHeartbeats 800000 in
theorem specBack_no (v : ByteArray) (w : World) (hv : v.size ≤ maxLen) (h : isWord v.data.toList = false) : Calls Try.prog 19 #[.string v] w fun e w' => e = .returned (.tuple #[.string ⟨#[]⟩, .bool false]) ∧ Below w.heap.size w w' := by
  have H := hide h
  clear h
  go_enter Try.func19, Try.ntmps19
  go_wp2_with fail
  refine (diWord_any v _ hv).mono ?_
  rintro e w1 ⟨rfl, rfl⟩
  rw [H.out]
  go_wp2
  go_returns
  exact ⟨rfl, Below.refl _ _⟩

set_option maxHeartbeats 800000 in
theorem implBack_no (v : ByteArray) (w : World) (hv : v.size ≤ maxLen) (h : isWord v.data.toList = false) : Calls Try.prog 20 #[.string v] w fun e w' => e = .returned (.tuple #[.string ⟨#[]⟩, .bool false]) ∧ Below w.heap.size w w' := by
  have H := hide h
  clear h
  go_enter Try.func20, Try.ntmps20
  go_wp2_with fail
  refine (isRolls_any v _ hv).mono ?_
  rintro e w1 ⟨rfl, rfl⟩
  rw [H.out]
  go_wp2
  go_returns
  exact ⟨rfl, Below.refl _ _⟩

set_option maxHeartbeats 800000 in
theorem specBack_yes (v : ByteArray) (w : World) (hv : v.size ≤ maxLen) (h : isWord v.data.toList = true) : Calls Try.prog 19 #[.string v] w fun e w' => e = .returned (.tuple #[.string ⟨(backW v.data.toList).toArray⟩, .bool true]) ∧ Below w.heap.size w w' := by
  have H := hide h
  clear h
  generalize hx : (⟨(backW v.data.toList).toArray⟩ : ByteArray) = x
  have HX := hide hx
  clear hx
  go_enter Try.func19, Try.ntmps19
  go_wp2_with fail
  refine (diWord_any v _ hv).mono ?_
  rintro e w1 ⟨rfl, rfl⟩
  rw [H.out]
  go_wp2_with fail
  refine (diBack_any v _ H.out).mono ?_
  rintro e w1 ⟨rfl, rfl⟩
  rw [HX.out]
  go_wp2
  go_returns
  exact ⟨rfl, Below.refl _ _⟩

/-- What the program's undone word rests on in the round. -/
def BackI (w wr : World) (v : Value) (n : Nat) (l : List UInt8) : Prop := v = .slice (some ⟨w.heap.size, 0, none⟩) l.length n ∧ wr.ownsRow w.heap.size 5 1 (.slice (some ⟨w.heap.size, 0, none⟩) l.length n) l.length (bytesV l) ∧ Below w.heap.size w wr

set_option maxHeartbeats 1600000 in
theorem implBack_yes (v : ByteArray) (w : World) (hv : v.size ≤ maxLen) (h : isWord v.data.toList = true) : Calls Try.prog 20 #[.string v] w fun e w' => e = .returned (.tuple #[.string ⟨(backW v.data.toList).toArray⟩, .bool true]) ∧ Below w.heap.size w w' := by
  have hlen : v.size ≤ 60 := by have := isWord_len h; simpa using this
  obtain ⟨i0, hi, hz0, hz1, hz2⟩ := info_parts info_u8
  have HI := hide hi
  have HZ0 := hide hz0
  have HZ1 := hide hz1
  have HZ2 := hide hz2
  clear hi hz0 hz1 hz2
  have H := hide h
  clear h
  go_enter Try.func20, Try.ntmps20
  go_wp2_with fail
  refine (isRolls_any v _ hv).mono ?_
  rintro e w1 ⟨rfl, rfl⟩
  rw [H.out]
  go_wp2_with (at_make; refine wpList_make_own _ rfl _ _ 45 rfl w.heap.size 5 i0 (.int .u8 0) 1 Try.underlying45 HI.out HZ0.out HZ1.out .i64 .i64 _ v.size rfl rfl (by omega) (by rw [HZ2.out]; omega) (by unfold maxLen; omega) (Nat.le_refl _) ?_; intro w0 hown0 hgrow0)
  have hb0 : Below w.heap.size w w0 := (Below.refl _ _).grown hgrow0 (Nat.le_refl _) (fun k hk => by cases hk)
  clear hgrow0
  go_loopw [4, 5] (fun o i wr => ∃ (k : Nat) (t : Int), k ≤ v.size ∧ t + 1 = (k : Int) ∧ i = .int .i64 t ∧ BackI w wr o v.size (backW (v.data.toList.drop k))) (fun _ i _ => (intOf i + 1).toNat)
  case atStart =>
    refine ⟨v.size, _, Nat.le_refl _, by omega, rfl, ?_⟩
    rw [List.drop_of_length_le (by simp)]
    exact ⟨rfl, hown0, hb0⟩
  case round =>
    obtain ⟨k, t, hk, ht, rfl, hI⟩ := hrel
    have hol : (backW (v.data.toList.drop k)).length + k ≤ v.size := by rw [backW_len, List.length_drop]; simp; omega
    by_cases hk0 : k = 0
    · subst hk0
      obtain rfl : t = -1 := by omega
      clear hk ht
      rw [List.drop_zero] at hI
      clear hol
      generalize hL : backW v.data.toList = L at hI
      have HL := hide hL
      clear hL
      obtain ⟨rfl, hown, hb⟩ := hI
      have hcv := bytes_back hown rfl
      clear hown hown0 hb0
      go_wp2
      go_returns
      exact ⟨by rw [HL.out]; rfl, hb⟩
    · obtain ⟨j, rfl⟩ : ∃ j, k = j + 1 := ⟨k - 1, by omega⟩
      obtain rfl : t = (j : Int) := by omega
      have hlt : j < v.size := by omega
      have hd := hide (isWord_dir H.out (k := j) (by simpa using hlt))
      have HS := hide (backW_step v.data.toList j (by simpa using hlt))
      generalize ho : backW (v.data.toList.drop (j + 1)) = o at HS hol hI
      clear ho ht hk hk0 hown0 hb0
      obtain ⟨rfl, hown, hb⟩ := hI
      have hroom : o.length + 1 ≤ v.size := by omega
      have hsz := hb.size
      go_wp2_with (first
        | (go_at_call 40; refine (opposite_any v[j] _ hd.out).mono ?_; rintro e w' ⟨rfl, rfl⟩)
        | (at_builtin; refine wpList_append_fits _ rfl _ _ 45 rfl w.heap.size 5 i0 1 Try.underlying45 HI.out HZ1.out w.heap.size o.length v.size _ rfl (hown.alloc _) ⟨wr.heap.size, 0, none⟩ 1 1 [.int .u8 ((oppC v[j]).toNat : Int)] rfl rfl ?c1 ?c2 hroom ?_))
      case c1 =>
        intro j u hj
        match j, hj with
        | 0, hj => simp at hj; subst hj; simp [Addr.add, World.cell?_alloc_mark]
      case c2 => intro u hu; simp at hu; subst hu; rfl
      · intro w3 hown3 hg3
        have hb3 : Below w.heap.size w w3 := (hb.alloc hsz _).grown hg3 (by simp; omega) (fun k hk => by cases hk; exact Nat.le_refl _)
        have I3 := hide (show BackI w w3 (.slice (some ⟨w.heap.size, 0, none⟩) (o.length + 1) v.size) v.size (backW (v.data.toList.drop j)) from by
          rw [HS.out]
          refine ⟨by simp, ?_, hb3⟩
          rw [List.length_append, bytesV_snoc]
          exact hown3)
        clear hown3 hg3 hb3 hown hb
        go_wp2
        go_roundw
        case rel => exact ⟨j, _, by omega, by omega, rfl, I3.out⟩
        case measure => simp [intOf] <;> omega

/-- What both say. -/
def bkS (l : List UInt8) : ByteArray := if isWord l = true then ⟨(backW l).toArray⟩ else ⟨#[]⟩
theorem specBack_any (v : ByteArray) (w : World) (hv : v.size ≤ maxLen) : Calls Try.prog 19 #[.string v] w fun e w' => e = .returned (.tuple #[.string (bkS v.data.toList), .bool (isWord v.data.toList)]) ∧ Below w.heap.size w w' := by
  cases h : isWord v.data.toList
  · simpa [h, bkS] using specBack_no v w hv h
  · have := specBack_yes v w hv h
    unfold bkS
    rw [if_pos h]
    exact this
theorem implBack_any (v : ByteArray) (w : World) (hv : v.size ≤ maxLen) : Calls Try.prog 20 #[.string v] w fun e w' => e = .returned (.tuple #[.string (bkS v.data.toList), .bool (isWord v.data.toList)]) ∧ Below w.heap.size w w' := by
  cases h : isWord v.data.toList
  · simpa [h, bkS] using implBack_no v w hv h
  · have := implBack_yes v w hv h
    unfold bkS
    rw [if_pos h]
    exact this

set_option maxHeartbeats 800000 in
theorem walk_BackWord (v : ByteArray) (hv : v.size ≤ maxLen) (w : World) : Calls Try.prog 6 #[.string v] w fun e w' => e = .returned (.bool true) ∧ Below w.heap.size w w' := by
  by_cases h1 : v.size ≤ 1048576
  · go_enter Try.func6, Try.ntmps6
    go_wp2_with fail
    refine (specBack_any v _ hv).mono ?_
    rintro e w1 ⟨rfl, hb1⟩
    generalize hx : bkS v.data.toList = x
    generalize hg : isWord v.data.toList = g
    have HX := hide hx
    have HG := hide hg
    clear hx hg
    go_wp2_with fail
    refine (implBack_any v _ hv).mono ?_
    rintro e w2 ⟨rfl, hb2⟩
    rw [HX.out, HG.out]
    have e1 : (x.toList != x.toList) = false := by simp
    have e2 : (g != g) = false := by simp
    go_wp2
    go_returns
    exact ⟨rfl, below_after hb1 hb2 hb1.size⟩
  · go_enter Try.func6, Try.ntmps6
    go_wp2
    go_returns
    exact ⟨rfl, Below.refl _ _⟩

set_option maxHeartbeats 800000 in
theorem specTurn_no (v : ByteArray) (w : World) (hv : v.size ≤ maxLen) (h : isWord v.data.toList = false) : Calls Try.prog 27 #[.string v] w fun e w' => e = .returned (.tuple #[.string ⟨#[]⟩, .bool false]) ∧ Below w.heap.size w w' := by
  have H := hide h
  clear h
  go_enter Try.func27, Try.ntmps27
  go_wp2_with fail
  refine (diWord_any v _ hv).mono ?_
  rintro e w1 ⟨rfl, rfl⟩
  rw [H.out]
  go_wp2
  go_returns
  exact ⟨rfl, Below.refl _ _⟩

set_option maxHeartbeats 800000 in
theorem implTurn_no (v : ByteArray) (w : World) (hv : v.size ≤ maxLen) (h : isWord v.data.toList = false) : Calls Try.prog 28 #[.string v] w fun e w' => e = .returned (.tuple #[.string ⟨#[]⟩, .bool false]) ∧ Below w.heap.size w w' := by
  have H := hide h
  clear h
  go_enter Try.func28, Try.ntmps28
  go_wp2_with fail
  refine (isRolls_any v _ hv).mono ?_
  rintro e w1 ⟨rfl, rfl⟩
  rw [H.out]
  go_wp2
  go_returns
  exact ⟨rfl, Below.refl _ _⟩

set_option maxHeartbeats 1600000 in
theorem specTurn_yes (s : ByteArray) (w : World) (hs : s.size ≤ maxLen) (hw : isWord s.data.toList = true) : Calls Try.prog 27 #[.string s] w fun e w' => e = .returned (.tuple #[.string ⟨(turnW s.data.toList).toArray⟩, .bool true]) ∧ Below w.heap.size w w' := by
  have hlen : s.size ≤ 60 := by have := isWord_len hw; simpa using this
  have HW := hide hw
  clear hw
  go_enter Try.func27, Try.ntmps27
  go_wp2_with fail
  refine (diWord_any s _ hs).mono ?_
  rintro e w1 ⟨rfl, rfl⟩
  rw [HW.out]
  go_wp2
  go_loop [4, 5] (fun o i => ∃ k : Nat, k ≤ s.size ∧ i = .int .i64 (k : Int) ∧ o = .string ⟨(turnW (s.data.toList.take k)).toArray⟩) (fun _ i => s.size - (intOf i).toNat)
  case atStart => exact ⟨0, Nat.zero_le _, rfl, rfl⟩
  case round =>
    obtain ⟨k, hk, rfl, rfl⟩ := hrel
    by_cases hlt : k < s.size
    · have hd := isWord_dir HW.out (k := k) (by simpa using hlt)
      have HS := hide (turnW_step s.data.toList k (by simpa using hlt))
      have hol : (turnW (s.data.toList.take k)).length ≤ 60 := by rw [turnW_len, List.length_take]; omega
      generalize ho : turnW (s.data.toList.take k) = o at HS hol
      clear ho
      have ha : ¬ 9223372036854775807 < o.length + 1 := by omega
      have hcc := dir_cases s[k] hd
      have e0 : s.data.toList[k]'(by simpa using hlt) = s[k] := rfl
      rcases hcc with hc | hc | hc | hc
      · have D1 := hide (show dirS (s.extract k (k + 1)).data.toList = 0 from by rw [dirS_one s k hlt, hc]; rfl)
        have HE := hide (show turnW (s.data.toList.take (k + 1)) = o ++ [101] from by rw [HS.out, e0, hc]; rfl)
        have q := dsl1
        clear hc hd e0
        go_wp2_with (first
          | (go_at_call 30; refine (diDir_any _ _).mono ?_; rintro e w' ⟨rfl, rfl⟩; rw [D1.out])
          | (go_at_call 45; refine (diDirsL_any _).mono ?_; rintro e w' ⟨rfl, rfl⟩))
        go_round
        case rel => exact ⟨k + 1, by omega, by go_num, by rw [HE.out, ← str_snoc]⟩
        case measure => simp [intOf] <;> omega
      · have D1 := hide (show dirS (s.extract k (k + 1)).data.toList = 1 from by rw [dirS_one s k hlt, hc]; rfl)
        have HE := hide (show turnW (s.data.toList.take (k + 1)) = o ++ [115] from by rw [HS.out, e0, hc]; rfl)
        have q := dsl2
        clear hc hd e0
        go_wp2_with (first
          | (go_at_call 30; refine (diDir_any _ _).mono ?_; rintro e w' ⟨rfl, rfl⟩; rw [D1.out])
          | (go_at_call 45; refine (diDirsL_any _).mono ?_; rintro e w' ⟨rfl, rfl⟩))
        go_round
        case rel => exact ⟨k + 1, by omega, by go_num, by rw [HE.out, ← str_snoc]⟩
        case measure => simp [intOf] <;> omega
      · have D1 := hide (show dirS (s.extract k (k + 1)).data.toList = 2 from by rw [dirS_one s k hlt, hc]; rfl)
        have HE := hide (show turnW (s.data.toList.take (k + 1)) = o ++ [119] from by rw [HS.out, e0, hc]; rfl)
        have q := dsl3
        clear hc hd e0
        go_wp2_with (first
          | (go_at_call 30; refine (diDir_any _ _).mono ?_; rintro e w' ⟨rfl, rfl⟩; rw [D1.out])
          | (go_at_call 45; refine (diDirsL_any _).mono ?_; rintro e w' ⟨rfl, rfl⟩))
        go_round
        case rel => exact ⟨k + 1, by omega, by go_num, by rw [HE.out, ← str_snoc]⟩
        case measure => simp [intOf] <;> omega
      · have D1 := hide (show dirS (s.extract k (k + 1)).data.toList = 3 from by rw [dirS_one s k hlt, hc]; rfl)
        have HE := hide (show turnW (s.data.toList.take (k + 1)) = o ++ [110] from by rw [HS.out, e0, hc]; rfl)
        have q := dsl0
        clear hc hd e0
        go_wp2_with (first
          | (go_at_call 30; refine (diDir_any _ _).mono ?_; rintro e w' ⟨rfl, rfl⟩; rw [D1.out])
          | (go_at_call 45; refine (diDirsL_any _).mono ?_; rintro e w' ⟨rfl, rfl⟩))
        go_round
        case rel => exact ⟨k + 1, by omega, by go_num, by rw [HE.out, ← str_snoc]⟩
        case measure => simp [intOf] <;> omega
    · have e : k = s.size := by omega
      subst e
      have ht : s.data.toList.take s.size = s.data.toList := List.take_of_length_le (by simp)
      rw [ht]
      clear ht hlt
      go_wp2
      go_returns
      exact ⟨rfl, Below.refl _ _⟩

/-- What the program's turned word rests on in the round: k bytes turned, the rest as they were. -/
def TurnI (w wr : World) (v : Value) (cap k : Nat) (l : List UInt8) : Prop := v = .slice (some ⟨w.heap.size, 0, none⟩) l.length cap ∧ (∃ cs : Array Value, wr.heap[w.heap.size]? = some (.cells cs 5 (cs.size, cs.size + 1)) ∧ ∀ j (hj : j < l.length), cs[j]? = some (.int .u8 ((if j < k then turnC l[j] else l[j]).toNat : Int))) ∧ Below w.heap.size w wr
theorem TurnI.cell {w wr : World} {v : Value} {cap k j : Nat} {l : List UInt8} (h : TurnI w wr v cap k l) (hj : j < l.length) : wr.cell? ⟨w.heap.size, j, none⟩ = some (.int .u8 ((if j < k then turnC (l[j]'hj) else l[j]'hj).toNat : Int)) ∧ wr.frozen? ⟨w.heap.size, j, none⟩ = false := by
  obtain ⟨_, ⟨cs, h1, h2⟩, _⟩ := h
  have hc := h2 j hj
  have hlt : j < cs.size := (Array.getElem?_eq_some_iff.1 hc).1
  constructor
  · simp [World.cell?, h1, hc]
  · simp [World.frozen?, h1]; omega
theorem TurnI.step {w wr : World} {v : Value} {cap k : Nat} {l : List UInt8} (h : TurnI w wr v cap k l) (hk : k < l.length) : TurnI w (wr.setCell ⟨w.heap.size, k, none⟩ (.int .u8 ((turnC (l[k]'hk)).toNat : Int))) v cap (k + 1) l := by
  obtain ⟨h0, ⟨cs, h1, h2⟩, h3⟩ := h
  have hks : k < cs.size := (Array.getElem?_eq_some_iff.1 (h2 k hk)).1
  refine ⟨h0, ⟨cs.set k (.int .u8 ((turnC (l[k]'hk)).toNat : Int)) hks, ?_, ?_⟩, h3.setCell (Nat.le_refl _) _⟩
  · have := cells_set h1 k hks (.int .u8 ((turnC (l[k]'hk)).toNat : Int))
    simpa using this
  · intro j hj
    rw [Array.getElem?_set]
    by_cases e : k = j
    · subst e
      rw [if_pos rfl, if_pos (by omega)]
    · rw [if_neg e, h2 j hj]
      by_cases hjk : j < k
      · rw [if_pos hjk, if_pos (by omega)]
      · rw [if_neg hjk, if_neg (by omega)]
theorem TurnI.done {w wr : World} {v : Value} {cap : Nat} {l : List UInt8} (h : TurnI w wr v cap l.length l) : (convert 45 9 (.slice (some ⟨w.heap.size, 0, none⟩) l.length cap)).run Try.prog wr = .ok (.string ⟨(turnW l).toArray⟩) wr := by
  have := run_convert_bytes_back (P := Try.prog) wr 45 9 5 ⟨w.heap.size, 0, none⟩ cap (turnW l) Try.underlying45 Try.underlying5 Try.underlying9 (fun j hj => by
    have hj' : j < l.length := by rwa [turnW_len] at hj
    have := (h.cell hj').1
    rw [if_pos hj'] at this
    rw [show ((⟨w.heap.size, 0, none⟩ : Addr).add j) = ⟨w.heap.size, j, none⟩ from by unfold Addr.add; split <;> simp_all, this]
    simp [turnW])
  rwa [turnW_len] at this

set_option maxHeartbeats 1600000 in
theorem implTurn_yes (v : ByteArray) (w : World) (hv : v.size ≤ maxLen) (h : isWord v.data.toList = true) : Calls Try.prog 28 #[.string v] w fun e w' => e = .returned (.tuple #[.string ⟨(turnW v.data.toList).toArray⟩, .bool true]) ∧ Below w.heap.size w w' := by
  have hlen : v.size ≤ 60 := by have := isWord_len h; simpa using this
  have H := hide h
  clear h
  have hcv := run_bytes_of_string (P := Try.prog) w 9 45 5 v Try.underlying9 Try.underlying45 Try.underlying5
  have hcap := grownCap_ge w v.size 0 5
  generalize hcp : grownCap w v.size 0 5 = cap at hcv hcap
  have h0 := hide (show TurnI w (w.alloc (.cells (bytesRow v cap) 5 ((bytesRow v cap).size, (bytesRow v cap).size + 1))).drew (.slice (some ⟨w.heap.size, 0, none⟩) v.size cap) cap 0 v.data.toList from by
    refine ⟨by simp, ⟨bytesRow v cap, ?_, ?_⟩, ((Below.refl _ _).alloc (Nat.le_refl _) _).drew⟩
    · show (w.heap.push _)[w.heap.size]? = _
      simp
    · intro j hj
      rw [if_neg (by omega), bytesRow_at v cap j (by simpa using hj)]
      rfl)
  clear hcp
  go_enter Try.func28, Try.ntmps28
  go_wp2_with fail
  refine (isRolls_any v _ hv).mono ?_
  rintro e w1 ⟨rfl, rfl⟩
  rw [H.out]
  go_wp2
  generalize (w.alloc (.cells (bytesRow v cap) 5 ((bytesRow v cap).size, (bytesRow v cap).size + 1))).drew = w2 at h0 ⊢
  clear hcv
  go_loopw [14, 5, 6] (fun i _ _ wr => ∃ k : Nat, k ≤ v.size ∧ i = .int .i64 (k : Int) ∧ TurnI w wr (.slice (some ⟨w.heap.size, 0, none⟩) v.size cap) cap k v.data.toList) (fun i _ _ _ => v.size - (intOf i).toNat)
  case atStart => exact ⟨0, Nat.zero_le _, rfl, h0.out⟩
  case round =>
    obtain ⟨k, hk, rfl, hI⟩ := hrel
    clear h0
    by_cases hlt : k < v.size
    · have hlt' : k < v.data.toList.length := by simpa using hlt
      obtain ⟨c0, f0⟩ := hI.cell hlt'
      have hS := hide (hI.step hlt')
      rw [if_neg (by omega)] at c0
      have hd := isWord_dir H.out hlt'
      have hcc := dir_cases v.data.toList[k] hd
      have hb := hI.2.2.size
      clear hd hI
      rcases hcc with hc | hc | hc | hc
      · rw [hc] at c0 hS
        clear hc
        go_wp2_with (go_at_call 46; refine (idx_lit 110 0 rfl _).mono ?_; rintro e w' ⟨rfl, rfl⟩)
        go_roundw
        case rel => exact ⟨k + 1, by omega, by go_num, hS.out⟩
        case measure => simp [intOf] <;> omega
      · rw [hc] at c0 hS
        clear hc
        go_wp2_with (go_at_call 46; refine (idx_lit 101 1 rfl _).mono ?_; rintro e w' ⟨rfl, rfl⟩)
        go_roundw
        case rel => exact ⟨k + 1, by omega, by go_num, hS.out⟩
        case measure => simp [intOf] <;> omega
      · rw [hc] at c0 hS
        clear hc
        go_wp2_with (go_at_call 46; refine (idx_lit 115 2 rfl _).mono ?_; rintro e w' ⟨rfl, rfl⟩)
        go_roundw
        case rel => exact ⟨k + 1, by omega, by go_num, hS.out⟩
        case measure => simp [intOf] <;> omega
      · rw [hc] at c0 hS
        clear hc
        go_wp2_with (go_at_call 46; refine (idx_lit 119 3 rfl _).mono ?_; rintro e w' ⟨rfl, rfl⟩)
        go_roundw
        case rel => exact ⟨k + 1, by omega, by go_num, hS.out⟩
        case measure => simp [intOf] <;> omega
    · have e : k = v.size := by omega
      subst e
      have hcv : (convert 45 9 (.slice (some ⟨w.heap.size, 0, none⟩) v.size cap)).run Try.prog wr = .ok (.string ⟨(turnW v.data.toList).toArray⟩) wr := by
        have := TurnI.done (l := v.data.toList) (by simpa using hI)
        simpa using this
      have hb := hI.2.2
      clear hI hlt
      go_wp2
      go_returns
      exact ⟨rfl, hb⟩

/-- What both say. -/
def tuS (l : List UInt8) : ByteArray := if isWord l = true then ⟨(turnW l).toArray⟩ else ⟨#[]⟩
theorem specTurn_any (v : ByteArray) (w : World) (hv : v.size ≤ maxLen) : Calls Try.prog 27 #[.string v] w fun e w' => e = .returned (.tuple #[.string (tuS v.data.toList), .bool (isWord v.data.toList)]) ∧ Below w.heap.size w w' := by
  cases h : isWord v.data.toList
  · simpa [h, tuS] using specTurn_no v w hv h
  · have := specTurn_yes v w hv h
    unfold tuS
    rw [if_pos h]
    exact this
theorem implTurn_any (v : ByteArray) (w : World) (hv : v.size ≤ maxLen) : Calls Try.prog 28 #[.string v] w fun e w' => e = .returned (.tuple #[.string (tuS v.data.toList), .bool (isWord v.data.toList)]) ∧ Below w.heap.size w w' := by
  cases h : isWord v.data.toList
  · simpa [h, tuS] using implTurn_no v w hv h
  · have := implTurn_yes v w hv h
    unfold tuS
    rw [if_pos h]
    exact this

set_option maxHeartbeats 800000 in
theorem walk_TurnRolls (v : ByteArray) (hv : v.size ≤ maxLen) (w : World) : Calls Try.prog 10 #[.string v] w fun e w' => e = .returned (.bool true) ∧ Below w.heap.size w w' := by
  by_cases h1 : v.size ≤ 1048576
  · go_enter Try.func10, Try.ntmps10
    go_wp2_with fail
    refine (specTurn_any v _ hv).mono ?_
    rintro e w1 ⟨rfl, hb1⟩
    generalize hx : tuS v.data.toList = x
    generalize hg : isWord v.data.toList = g
    have HX := hide hx
    have HG := hide hg
    clear hx hg
    go_wp2_with fail
    refine (implTurn_any v _ hv).mono ?_
    rintro e w2 ⟨rfl, hb2⟩
    rw [HX.out, HG.out]
    have e1 : (x.toList != x.toList) = false := by simp
    have e2 : (g != g) = false := by simp
    go_wp2
    go_returns
    exact ⟨rfl, below_after hb1 hb2 hb1.size⟩
  · go_enter Try.func10, Try.ntmps10
    go_wp2
    go_returns
    exact ⟨rfl, Below.refl _ _⟩
end Go.Proofs.Ytphcaikggfmpaaa
