/- Plans undone: the contracts of BackPlan in the program and in the model, and the walk of its law. -/
import Derived.Test.YtdndegonpdakkaaPlan
import Derived.Test.YtdndegonpdakkaaWalksL
import Derived.Test.YtdndegonpdakkaaOwnK
import Derived.Deep.QuietTactic
import Derived.BigQuiet
import Derived.IntWalk
import Derived.Deep.Cut
namespace Go.Proofs.Ytdndegonpdakkaa
set_option maxRecDepth 100000
set_option linter.all false
open Go.RowKit

/-- A plan undone: its moves backwards, with the opposite directions. -/
def bkP : List UInt8 → List UInt8
  | a :: b :: l => bkP l ++ [a, oppC b]
  | _ => []
theorem bkP_step (s : ByteArray) (p : Nat) (h : p + 1 < s.size) : bkP (s.data.toList.drop p) = bkP (s.data.toList.drop (p + 2)) ++ [s[p], oppC s[p + 1]] := by
  have h1 : p + 1 < s.data.toList.length := by simpa using h
  rw [List.drop_eq_getElem_cons (show p < s.data.toList.length by omega), List.drop_eq_getElem_cons h1]
  rfl
theorem bkP_len : ∀ (n : Nat) (l : List UInt8), l.length ≤ n → (bkP l).length ≤ l.length := by
  intro n
  induction n with
  | zero =>
    intro l h
    match l, h with
    | [], _ => simp [bkP]
  | succ n ih =>
    intro l h
    match l, h with
    | [], _ => simp [bkP]
    | [a], _ => simp [bkP]
    | a :: b :: l, h =>
      have := ih l (by simp at h; omega)
      simp [bkP]
      omega
theorem isPl_len {l : List UInt8} (h : isPl l = true) : l.length ≤ 120 ∧ ∃ m, l.length = 2 * m ∧ ∀ j, j < m → plAt l j = true := by
  unfold isPl at h
  simp only [Bool.and_eq_true, decide_eq_true_eq] at h
  exact ⟨h.1.2, l.length / 2, by omega, fun j hj => plK_at h.2 hj⟩
theorem plAt_dir {s : ByteArray} {j : Nat} (h : plAt s.data.toList j = true) (hp : 2 * j + 1 < s.size) : 0 ≤ dirIx s[2 * j + 1].toNat := by
  unfold plAt at h
  rw [getD_at s (2 * j + 1) hp] at h
  simpa using (Bool.and_eq_true_iff.1 h).2
theorem diBack_at (s : ByteArray) (p : Nat) (h : p < s.size) (hd : 0 ≤ dirIx s[p].toNat) (w : World) : Calls Try.prog 12 #[.string (s.extract p (p + 1))] w fun e w' => e = .returned (.string ⟨#[oppC s[p]]⟩) ∧ w = w' := by
  have h1 := ext_one s p h
  have := diBack_any (s.extract p (p + 1)) w (by rw [h1]; simp [isWord, hd])
  rw [h1] at this
  exact this
theorem str_two (l : List UInt8) (a b : UInt8) : (⟨l.toArray⟩ : ByteArray) ++ (⟨#[a]⟩ ++ ⟨#[b]⟩) = ⟨(l ++ [a, b]).toArray⟩ := by
  apply ByteArray.ext
  simp
theorem below_nP {B : Nat} {a b : World} {n : Nat} (h : Below B a b) : Below B a (b.drewN n) := ⟨h.os, h.tape, h.output, h.size, h.block⟩
theorem ext_lit (s : ByteArray) (p : Nat) (h : p < s.size) : s.extract p (p + 1) = ⟨#[s[p]]⟩ := by
  apply ByteArray.ext
  apply Array.ext'
  rw [ext_one s p h]

set_option maxHeartbeats 1600000 in
theorem specBackPl_yes (s : ByteArray) (w : World) (hs : s.size ≤ maxLen) (hw : isPl s.data.toList = true) : Calls Try.prog 7 #[.string s] w fun e w' => e = .returned (.tuple #[.string ⟨(bkP s.data.toList).toArray⟩, .bool true]) ∧ Below w.heap.size w w' := by
  obtain ⟨h120, m, hm, hj⟩ := isPl_len hw
  have hm' : s.size = 2 * m := by simpa using hm
  have hmle : 2 * m ≤ s.size := by omega
  have hmge : s.size ≤ 2 * m := by omega
  have h120' : s.size ≤ 120 := by simpa using h120
  have HJ := hide hj
  have HW := hide hw
  clear hm' hm h120 hj hw
  go_enter Try.func7, Try.ntmps7
  go_wp2_with fail
  refine (myPlan_any s _ hs).mono ?_
  rintro e w1 ⟨rfl, rfl⟩
  rw [HW.out]
  go_wp2
  go_loopw [4, 5] (fun o i wr => ∃ (k : Nat) (t : Int), k ≤ m ∧ t + 2 ≤ 2 * (k : Int) ∧ 2 * (k : Int) ≤ t + 2 ∧ i = .int .i64 t ∧ o = .string ⟨(bkP (s.data.toList.drop (2 * k))).toArray⟩ ∧ Below w.heap.size w wr) (fun _ i _ => (intOf i + 2).toNat)
  case atStart => exact ⟨m, _, Nat.le_refl _, by omega, by omega, rfl, by rw [List.drop_of_length_le (by simp; omega)]; rfl, Below.refl _ _⟩
  case round =>
    obtain ⟨k, t, hk, ht, ht', rfl, rfl, hb⟩ := hrel
    by_cases hk0 : k = 0
    · subst hk0
      obtain rfl : t = -2 := by omega
      clear hk ht ht'
      rw [Nat.mul_zero, List.drop_zero]
      go_wp2
      go_returns
      exact ⟨rfl, hb⟩
    · obtain ⟨j, rfl⟩ : ∃ j, k = j + 1 := ⟨k - 1, by omega⟩
      obtain ⟨p, hp⟩ : ∃ p, p = 2 * j := ⟨_, rfl⟩
      obtain rfl : t = (p : Int) := by omega
      have hlt : p + 1 < s.size := by omega
      have hd := hide (show 0 ≤ dirIx s[p + 1].toNat from by
        subst hp
        exact plAt_dir (HJ.out j (by omega)) (by omega))
      have hpj := hide hp
      have HS := hide (bkP_step s p hlt)
      have hol : (bkP (s.data.toList.drop (p + 2))).length ≤ 120 := by
        have := bkP_len _ (s.data.toList.drop (p + 2)) (Nat.le_refl _)
        simp at this
        omega
      rw [show 2 * (j + 1) = p + 2 by omega]
      generalize ho : bkP (s.data.toList.drop (p + 2)) = o at HS hol ⊢
      clear ho hk hk0 hp
      have ha : ¬ 9223372036854775807 < o.length + 2 := by omega
      have hx := hide (ext_lit s p (by omega))
      have C1 := hide (fun wx => diBack_at s (p + 1) hlt hd.out wx)
      have hp0 : 0 ≤ (p : Int) := by omega
      have i1 : IntKind.i64.wrap ((p : Int) + 1) = ((p + 1 : Nat) : Int) := by have := IntWalk.i64_in ((p : Int) + 1) (by omega); omega
      have i2 : IntKind.i64.wrap ((p : Int) + 2) = ((p + 2 : Nat) : Int) := by have := IntWalk.i64_in ((p : Int) + 2) (by omega); omega
      go_upto_region 7 with (fail)
      go_quiet ((go_at_call 12; refine Calls.quiet_of_same ((C1.out _).mono fun e w' hp => ⟨hp.1, hp.2.symm⟩)))
      go_wp2
      go_roundw
      case rel =>
        have := hpj.out
        exact ⟨j, _, by omega, by omega, by omega, rfl, by rw [show 2 * j = p by omega, HS.out, ← str_two, hx.out], below_nP hb⟩
      case measure => simp [intOf] <;> omega

set_option maxHeartbeats 800000 in
theorem specBackPl_no (v : ByteArray) (w : World) (hv : v.size ≤ maxLen) (h : isPl v.data.toList = false) : Calls Try.prog 7 #[.string v] w fun e w' => e = .returned (.tuple #[.string ⟨#[]⟩, .bool false]) ∧ w = w' := by
  have H := hide h
  clear h
  go_enter Try.func7, Try.ntmps7
  go_wp2_with fail
  refine (myPlan_any v _ hv).mono ?_
  rintro e w1 ⟨rfl, rfl⟩
  rw [H.out]
  go_wp2
  go_returns
  exact ⟨rfl, rfl⟩
set_option maxHeartbeats 800000 in
theorem implBackPl_no (v : ByteArray) (w : World) (hv : v.size ≤ maxLen) (h : isPl v.data.toList = false) : Calls Try.prog 8 #[.string v] w fun e w' => e = .returned (.tuple #[.string ⟨#[]⟩, .bool false]) ∧ Below w.heap.size w w' := by
  have H := hide h
  clear h
  go_enter Try.func8, Try.ntmps8
  go_wp2_with fail
  refine (isPlan_any v _ hv).mono ?_
  rintro e w1 ⟨rfl, rfl⟩
  rw [H.out]
  go_wp2
  go_returns
  exact ⟨rfl, Below.refl _ _⟩

theorem cell_two_new (w : World) (u u2 : Value) (t : TypeId) : ∀ (k : Nat) (x : Value), [u, u2][k]? = some x → (w.alloc (.cells #[u, u2] t)).cell? ((⟨w.heap.size, 0, none⟩ : Addr).add k) = some x := by
  intro k x h
  match k, h with
  | 0, h =>
    simp at h
    subst h
    rw [show ((⟨w.heap.size, 0, none⟩ : Addr).add 0) = ⟨w.heap.size, 0, none⟩ from rfl, World.cell?_alloc_mark]
    rfl
  | 1, h =>
    simp at h
    subst h
    rw [show ((⟨w.heap.size, 0, none⟩ : Addr).add 1) = ⟨w.heap.size, 1, none⟩ from rfl, World.cell?_alloc_mark]
    rfl
/-- What the program's undone plan rests on in the round. -/
def BackG (w wr : World) (v : Value) (l : List UInt8) : Prop := ∃ g cap, v = .slice (some ⟨g, 0, none⟩) l.length cap ∧ wr.ownsRow w.heap.size 5 1 (.slice (some ⟨g, 0, none⟩) l.length cap) l.length (bytesV l) ∧ Below w.heap.size w wr
set_option maxHeartbeats 1600000 in
theorem implBackPl_yes (v : ByteArray) (w : World) (hv : v.size ≤ maxLen) (h : isPl v.data.toList = true) : Calls Try.prog 8 #[.string v] w fun e w' => e = .returned (.tuple #[.string ⟨(bkP v.data.toList).toArray⟩, .bool true]) ∧ Below w.heap.size w w' := by
  obtain ⟨h120, m, hm, hj⟩ := isPl_len h
  have hm' : v.size = 2 * m := by simpa using hm
  have hmle : 2 * m ≤ v.size := by omega
  have hmge : v.size ≤ 2 * m := by omega
  have h120' : v.size ≤ 120 := by simpa using h120
  have HJ := hide hj
  obtain ⟨i0, hi, hz0, hz1, hz2⟩ := info_parts info_u8
  have HI := hide hi
  have HZ0 := hide hz0
  have HZ1 := hide hz1
  have HZ2 := hide hz2
  clear hi hz0 hz1 hz2
  have H := hide h
  clear h hm' hm h120 hj
  go_enter Try.func8, Try.ntmps8
  go_wp2_with fail
  refine (isPlan_any v _ hv).mono ?_
  rintro e w1 ⟨rfl, rfl⟩
  rw [H.out]
  go_wp2_with (at_make; refine wpList_make_own _ rfl _ _ 27 rfl w.heap.size 5 i0 (.int .u8 0) 1 Try.underlying27 HI.out HZ0.out HZ1.out .i64 .i64 _ v.size rfl rfl (by omega) (by rw [HZ2.out]; omega) (by unfold maxLen; omega) (Nat.le_refl _) ?_; intro w0 hown0 hgrow0)
  have hb0 : Below w.heap.size w w0 := (Below.refl _ _).grown hgrow0 (Nat.le_refl _) (fun k hk => by cases hk)
  clear hgrow0
  go_loopw [4, 5] (fun o i wr => ∃ (k : Nat) (t : Int), k ≤ m ∧ t + 2 ≤ 2 * (k : Int) ∧ 2 * (k : Int) ≤ t + 2 ∧ i = .int .i64 t ∧ BackG w wr o (bkP (v.data.toList.drop (2 * k)))) (fun _ i _ => (intOf i + 2).toNat)
  case atStart =>
    refine ⟨m, _, Nat.le_refl _, by omega, by omega, rfl, ?_⟩
    rw [List.drop_of_length_le (by simp; omega)]
    exact ⟨_, _, rfl, hown0, hb0⟩
  case round =>
    obtain ⟨k, t, hk, ht, ht', rfl, hI⟩ := hrel
    by_cases hk0 : k = 0
    · subst hk0
      obtain rfl : t = -2 := by omega
      clear hk ht ht'
      rw [Nat.mul_zero, List.drop_zero] at hI
      generalize hL : bkP v.data.toList = L at hI
      have HL := hide hL
      clear hL
      obtain ⟨gq, cq, rfl, hown, hb⟩ := hI
      have hcv := bytes_back hown rfl
      clear hown hown0 hb0
      go_wp2
      go_returns
      exact ⟨by rw [HL.out]; rfl, hb⟩
    · obtain ⟨j, rfl⟩ : ∃ j, k = j + 1 := ⟨k - 1, by omega⟩
      obtain ⟨p, hp⟩ : ∃ p, p = 2 * j := ⟨_, rfl⟩
      obtain rfl : t = (p : Int) := by omega
      have hlt : p + 1 < v.size := by omega
      have hd := hide (show 0 ≤ dirIx v[p + 1].toNat from by
        subst hp
        exact plAt_dir (HJ.out j (by omega)) (by omega))
      have hpj := hide hp
      have HS := hide (bkP_step v p hlt)
      have hol : (bkP (v.data.toList.drop (p + 2))).length + (p + 2) ≤ v.size := by
        have := bkP_len _ (v.data.toList.drop (p + 2)) (Nat.le_refl _)
        simp at this
        omega
      rw [show 2 * (j + 1) = p + 2 by omega] at hI
      generalize ho : bkP (v.data.toList.drop (p + 2)) = o at HS hol hI
      clear ho hk hk0 hp hown0 hb0
      obtain ⟨gq, cq, rfl, hown, hb⟩ := hI
      have hroom : o.length + 2 ≤ v.size := by omega
      have hsz := hb.size
      have hlp : p < v.size := by omega
      have hp0 : 0 ≤ (p : Int) := by omega
      have i1 : IntKind.i64.wrap ((p : Int) + 1) = ((p + 1 : Nat) : Int) := by have := IntWalk.i64_in ((p : Int) + 1) (by omega); omega
      have HOP := hide (fun wx => opposite_any v[p + 1] wx hd.out)
      have b1 : 0 ≤ (p : Int) + 1 := by omega
      have b2 : (p : Int) + 1 < (v.size : Int) := by omega
      have HCELL := hide (cell_two_new wr (.int .u8 (v[p].toNat : Int)) (.int .u8 ((oppC v[p + 1]).toNat : Int)) 5)
      have H1C := hide (show ∀ u ∈ [Value.int .u8 (v[p].toNat : Int), .int .u8 ((oppC v[p + 1]).toNat : Int)], u.oneCell' = true from by
        intro u hu
        simp only [List.mem_cons, List.not_mem_nil, or_false] at hu
        rcases hu with rfl | rfl <;> rfl)
      have hgl := (hown.lt gq rfl).1
      have HO := hide hown
      have HB := hide hb
      clear hown hb hgl
      go_upto_region 7 with (fail)
      go_region_law (first
        | (refine step_append_ownR rfl (.tmp 19) (.tmp 28) 27 rfl w.heap.size 5 i0 (.int .u8 0) 1 1 Try.underlying27 HI.out HZ0.out HZ1.out HZ2.out rfl (by decide) _ _ _ (by simp [Act.eval]) (own_drewR (HO.out.alloc _)) ⟨wr.heap.size, 0, none⟩ 2 2 [.int .u8 (v[p].toNat : Int), .int .u8 ((oppC v[p + 1]).toNat : Int)] (by simp [Act.eval]) rfl HCELL.out H1C.out (by unfold maxLen; omega) (by omega) (by show w.heap.size ≤ (World.alloc _ _).heap.size; simp; omega) ?_; intro v' w4 hown4 hg4; obtain ⟨gq4, cq4, rfl, hq1, hq2⟩ := own_form hown4 (by omega))
        | (go_simp; refine (HOP.out _).mono ?_; rintro e w' ⟨rfl, rfl⟩; dsimp only))
      all_goals
        have I4 := hide (show BackG w w4 (.slice (some ⟨gq4, 0, none⟩) (o.length + 2) cq4) (bkP (v.data.toList.drop p)) from by
          rw [HS.out]
          have hb4 : Below w.heap.size w w4 := (HB.out.alloc hsz _).drew.grown hg4 (by show w.heap.size ≤ (World.alloc _ _).heap.size; simp; omega) (fun k hk => (HO.out.lt k hk).1)
          refine ⟨gq4, cq4, by simp, ?_, hb4⟩
          have : bytesV (o ++ [v[p], oppC v[p + 1]]) = bytesV o ++ [.int .u8 (v[p].toNat : Int), .int .u8 ((oppC v[p + 1]).toNat : Int)] := by simp [bytesV]
          rw [this, List.length_append]
          exact hown4)
        clear hown4 hg4 hq1 hq2
        go_wp2
        go_roundw
        case rel =>
          have := hpj.out
          exact ⟨j, _, by omega, by omega, by omega, rfl, by rw [show 2 * j = p by omega]; exact I4.out⟩
        case measure => simp [intOf] <;> omega

/-- What both say. -/
def bkpS (l : List UInt8) : ByteArray := if isPl l = true then ⟨(bkP l).toArray⟩ else ⟨#[]⟩
theorem specBackPl_any (v : ByteArray) (w : World) (hv : v.size ≤ maxLen) : Calls Try.prog 7 #[.string v] w fun e w' => e = .returned (.tuple #[.string (bkpS v.data.toList), .bool (isPl v.data.toList)]) ∧ Below w.heap.size w w' := by
  cases h : isPl v.data.toList
  · have := specBackPl_no v w hv h
    unfold bkpS
    rw [if_neg (by simp [h])]
    exact this.mono fun e w' ⟨h1, h2⟩ => ⟨h1, h2 ▸ Below.refl _ _⟩
  · have := specBackPl_yes v w hv h
    unfold bkpS
    rw [if_pos h]
    exact this
theorem implBackPl_any (v : ByteArray) (w : World) (hv : v.size ≤ maxLen) : Calls Try.prog 8 #[.string v] w fun e w' => e = .returned (.tuple #[.string (bkpS v.data.toList), .bool (isPl v.data.toList)]) ∧ Below w.heap.size w w' := by
  cases h : isPl v.data.toList
  · simpa [h, bkpS] using implBackPl_no v w hv h
  · have := implBackPl_yes v w hv h
    unfold bkpS
    rw [if_pos h]
    exact this

set_option maxHeartbeats 800000 in
theorem walk_BackPlan (v : ByteArray) (hv : v.size ≤ maxLen) (w : World) : Calls Try.prog 4 #[.string v] w fun e w' => e = .returned (.bool true) ∧ Below w.heap.size w w' := by
  by_cases h1 : v.size ≤ 1048576
  · go_enter Try.func4, Try.ntmps4
    go_wp2_with fail
    refine (specBackPl_any v _ hv).mono ?_
    rintro e w1 ⟨rfl, hb1⟩
    generalize hx : bkpS v.data.toList = x
    generalize hg : isPl v.data.toList = g
    have HX := hide hx
    have HG := hide hg
    clear hx hg
    go_wp2_with fail
    refine (implBackPl_any v _ hv).mono ?_
    rintro e w2 ⟨rfl, hb2⟩
    rw [HX.out, HG.out]
    have e1 : (x.toList != x.toList) = false := by simp
    have e2 : (g != g) = false := by simp
    go_wp2
    go_returns
    exact ⟨rfl, below_after hb1 hb2 hb1.size⟩
  · go_enter Try.func4, Try.ntmps4
    go_wp2
    go_returns
    exact ⟨rfl, Below.refl _ _⟩
end Go.Proofs.Ytdndegonpdakkaa
