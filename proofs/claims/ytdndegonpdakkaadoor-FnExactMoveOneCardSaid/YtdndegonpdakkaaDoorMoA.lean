/- One move: MoveOne of the model and of the program. -/
import Derived.Test.YtdndegonpdakkaaDoorMdA
namespace Go.Proofs.YtdndegonpdakkaaDoor
set_option maxRecDepth 100000
set_option linter.all false
open Go.RowKit

/-- What MoveOne answers: the dice behind the move, or none. -/
def moC (l : List UInt8) (L : List St) (k : Int) (dl : List UInt8) : Bool := adB l L && decide (0 ≤ k ∧ k ≤ (L.length : Int) - 1) && decide (0 ≤ dirS dl)
def moR (l : List UInt8) (L : List St) (k : Int) (dl : List UInt8) : Option (List St) := if moC l L k dl = true then mvL l L k.toNat (dirS dl) else none
theorem moR_no {l : List UInt8} {L : List St} {k : Int} {dl : List UInt8} (h : moC l L k dl = false) : moR l L k dl = none := by
  unfold moR
  rw [h, if_neg (by decide)]
theorem moR_yes {l : List UInt8} {L : List St} {k : Int} {dl : List UInt8} (h : moC l L k dl = true) : moR l L k dl = mvL l L k.toNat (dirS dl) := by
  unfold moR
  rw [h, if_pos rfl]
theorem moR_len {l : List UInt8} {L : List St} {k : Int} {dl : List UInt8} : ((moR l L k dl).getD []).length ≤ 3 := by
  cases h : moC l L k dl with
  | false => rw [moR_no h]; exact Nat.zero_le _
  | true =>
    rw [moR_yes h]
    have h2 : tog l L = true := by
      unfold moC adB at h
      simp only [Bool.and_eq_true] at h
      exact h.1.1.2
    cases hr : mvL l L k.toNat (dirS dl) with
    | none => exact Nat.zero_le _
    | some M =>
      have := mvL_len hr
      have := (tog_facts h2).2.1
      show M.length ≤ 3
      omega
theorem dirS_is {dl : List UInt8} (h : 0 ≤ dirS dl) : ∃ c, dl = [c] ∧ 0 ≤ dirIx c.toNat := by
  have h0 := h
  unfold dirS at h
  have : ∃ c, dl = [c] := by
    split at h
    · exact ⟨_, ‹_›⟩
    · split at h
      · exact ⟨_, ‹_›⟩
      · split at h
        · exact ⟨_, ‹_›⟩
        · split at h
          · exact ⟨_, ‹_›⟩
          · omega
  obtain ⟨c, rfl⟩ := this
  exact ⟨c, rfl, by rw [← dirS_sing]; exact h0⟩
/-- A move is a plan of one. -/
theorem mo_md (l : List UInt8) (L : List St) (k : Nat) (hk : k < 3) (dl : List UInt8) (h : 0 ≤ dirS dl) (a : UInt8) (ha : a.toNat = 48 + k) : mdR l L (a :: dl) = moR l L (k : Int) dl := by
  obtain ⟨c, rfl, hc⟩ := dirS_is h
  have hp : isPl [a, c] = true := by
    have h1 : plAt [a, c] 0 = true := by
      show (ixOk a && decide (0 ≤ dirIx c.toNat)) = true
      rw [decide_eq_true hc, Bool.and_true]
      unfold ixOk
      exact decide_eq_true (by omega)
    rw [isPl_all (m := 1) rfl (by simp)]
    unfold plK
    simp [h1]
  cases hA : adB l L with
  | false =>
    rw [mdR_no (by rw [hA]; rfl), moR_no (by unfold moC; rw [hA]; rfl)]
  | true =>
    rw [mdR_yes hA hp]
    have e : runL l L [a, c] ([a, c].length / 2) = mvL l L k (dirIx c.toNat) := by
      rw [show [a, c].length / 2 = 0 + 1 from by simp, runL_succ (k := 0) (M := L) rfl]
      show mvL l L (a.toNat - 48) (dirIx c.toNat) = _
      rw [ha, Nat.add_sub_cancel_left]
    rw [e]
    by_cases hkn : k < L.length
    · rw [moR_yes (by unfold moC; rw [hA, decide_eq_true (show (0 : Int) ≤ (k : Int) ∧ (k : Int) ≤ (L.length : Int) - 1 by omega), decide_eq_true h]; rfl), dirS_sing]
      rfl
    · rw [moR_no (by unfold moC; rw [decide_eq_false (show ¬ ((0 : Int) ≤ (k : Int) ∧ (k : Int) ≤ (L.length : Int) - 1) by omega)]; simp)]
      unfold mvL
      rw [List.getElem?_eq_none (by omega)]
theorem myMove_post (l : List UInt8) (W H m : Nat) (hg : GridOk l W H m) (g cap gd c2 : Nat) (L : List St) (n : Nat) (hN : n = L.length) (hn3 : n ≤ 3) (k : Nat) (hk : k < n) (hL : ∀ (i : Nat) (u : St), L[i]? = some u → nearS u) (d : Int) (w : World) (hA : BytesAt w g (splitP l).flatten) (hD : StAt w gd 0 L) : Calls Tryd.prog 42 #[gridV W H m g cap, .slice (some ⟨gd, 0, none⟩) n c2, .int .i64 (k : Int), .int .i64 d] w (MdPost (mvL l L k d) w) := by
  refine (myMove_any l W H m hg g cap gd c2 L n hN hn3 k hk hL d w hA hD).mono ?_
  rintro e w' ⟨v, he, hsome, hnone, hb⟩
  cases hr : mvL l L k d with
  | none =>
    rw [hr] at he
    exact mdPost_none rfl (by rw [he, hnone hr]; rfl) hb
  | some M =>
    rw [hr] at he
    exact mdPost_some rfl he (by rw [mvL_len hr]; exact hN) (hsome M hr) hb
set_option maxHeartbeats 800000 in
theorem specMO_bad (s : ByteArray) (u : Value) (k : Int) (v : ByteArray) (w : World) (hs : s.size ≤ 1048576) (h : isBd s.data.toList = false) : Calls Tryd.prog 21 #[.string s, u, .int .i64 k, .string v] w fun e w' => e = .returned (.tuple #[.slice none 0 0, .bool false]) ∧ Below w.heap.size w w' := by
  have H := hide h
  clear h
  go_enter Tryd.func21, Tryd.ntmps21
  go_wp2_with fail
  refine (myAsked_bad s u _ hs H.out).mono ?_
  rintro e w1 ⟨rfl, hb1⟩
  have q1 := hb1.alloc hb1.size (.cells #[.int .i64 0, .int .i64 0, .slice none 0 0] 50)
  go_wp2
  go_returns
  exact ⟨rfl, q1⟩

set_option maxHeartbeats 1600000 in
theorem specMO_off (s : ByteArray) (gd : Nat) (L : List St) (n : Nat) (hN : n = L.length) (k : Int) (hk : (Lit.int .i64 k).wf = true) (v : ByteArray) (w : World) (hs : s.size ≤ 1048576) (hD : StAt w gd 0 L) (h : isBd s.data.toList = true) (h2 : tog s.data.toList L = false) : Calls Tryd.prog 21 #[.string s, .slice (some ⟨gd, 0, none⟩) n n, .int .i64 k, .string v] w (fun e w' => e = .returned (.tuple #[.slice none 0 0, .bool false]) ∧ Below w.heap.size w w') := by
  have H := hide h
  have H2 := hide h2
  have HN := hide hN
  have HD := hide hD
  clear h h2 hN hD
  go_enter Tryd.func21, Tryd.ntmps21
  go_wp2_with fail
  refine (myAsked_in s gd L n HN.out _ hs HD.out H.out).mono ?_
  rintro e w1 ⟨W, Hh, m, g, cap, hG, rfl, hA, hb1⟩
  rw [H2.out]
  have q1 := hb1.alloc hb1.size (.cells #[.int .i64 (W : Int), .int .i64 (Hh : Int), .slice (some ⟨g, 0, none⟩) m cap] 50)
  clear hG hA hb1
  go_wp2
  go_returns
  exact ⟨rfl, q1⟩
set_option maxHeartbeats 1600000 in
theorem specMO_out (s : ByteArray) (gd : Nat) (L : List St) (n : Nat) (hN : n = L.length) (k : Int) (hk : (Lit.int .i64 k).wf = true) (v : ByteArray) (w : World) (hs : s.size ≤ 1048576) (hD : StAt w gd 0 L) (h : isBd s.data.toList = true) (h2 : tog s.data.toList L = true) (h3 : ¬ ((0 : Int) ≤ k ∧ k ≤ (n : Int) - 1)) : Calls Tryd.prog 21 #[.string s, .slice (some ⟨gd, 0, none⟩) n n, .int .i64 k, .string v] w (fun e w' => e = .returned (.tuple #[.slice none 0 0, .bool false]) ∧ Below w.heap.size w w') := by
  obtain ⟨n1, n3, hall⟩ := tog_facts h2
  have hnn1 : 1 ≤ n := by omega
  have hnn3 : n ≤ 3 := by omega
  have i1n : IntKind.i64.wrap ((n : Int) - 1) = (n : Int) - 1 := IntWalk.i64_in _ (by omega)
  clear hall n1 n3
  have HK := hide (decide_eq_false h3)
  clear h3
  have H := hide h
  have H2 := hide h2
  have HN := hide hN
  have HD := hide hD
  clear h h2 hN hD
  go_enter Tryd.func21, Tryd.ntmps21
  go_wp2_with fail
  refine (myAsked_in s gd L n HN.out _ hs HD.out H.out).mono ?_
  rintro e w1 ⟨W, Hh, m, g, cap, hG, rfl, hA, hb1⟩
  rw [H2.out]
  have q1 := hb1.alloc hb1.size (.cells #[.int .i64 (W : Int), .int .i64 (Hh : Int), .slice (some ⟨g, 0, none⟩) m cap] 50)
  clear hG hA hb1
  go_wp2_with fail
  refine (l1In_any k 0 ((n : Int) - 1) _).mono ?_
  rintro e w2 ⟨rfl, rfl⟩
  rw [HK.out]
  go_wp2
  go_returns
  exact ⟨rfl, q1⟩
set_option maxHeartbeats 1600000 in
theorem specMO_dir (s : ByteArray) (gd : Nat) (L : List St) (n : Nat) (hN : n = L.length) (k : Int) (hk : (Lit.int .i64 k).wf = true) (v : ByteArray) (w : World) (hs : s.size ≤ 1048576) (hD : StAt w gd 0 L) (h : isBd s.data.toList = true) (h2 : tog s.data.toList L = true) (h3 : (0 : Int) ≤ k ∧ k ≤ (n : Int) - 1) (h4 : ¬ 0 ≤ dirS v.data.toList) : Calls Tryd.prog 21 #[.string s, .slice (some ⟨gd, 0, none⟩) n n, .int .i64 k, .string v] w (fun e w' => e = .returned (.tuple #[.slice none 0 0, .bool false]) ∧ Below w.heap.size w w') := by
  obtain ⟨n1, n3, hall⟩ := tog_facts h2
  have hnn1 : 1 ≤ n := by omega
  have hnn3 : n ≤ 3 := by omega
  have i1n : IntKind.i64.wrap ((n : Int) - 1) = (n : Int) - 1 := IntWalk.i64_in _ (by omega)
  clear hall n1 n3
  have HK := hide (decide_eq_true h3)
  clear h3
  obtain ⟨dd, hdd⟩ : ∃ dd, dd = dirS v.data.toList := ⟨_, rfl⟩
  have hneg : dd < 0 := by omega
  have HDD := hide hdd
  clear hdd h4
  have H := hide h
  have H2 := hide h2
  have HN := hide hN
  have HD := hide hD
  clear h h2 hN hD
  go_enter Tryd.func21, Tryd.ntmps21
  go_wp2_with fail
  refine (myAsked_in s gd L n HN.out _ hs HD.out H.out).mono ?_
  rintro e w1 ⟨W, Hh, m, g, cap, hG, rfl, hA, hb1⟩
  rw [H2.out]
  have q1 := hb1.alloc hb1.size (.cells #[.int .i64 (W : Int), .int .i64 (Hh : Int), .slice (some ⟨g, 0, none⟩) m cap] 50)
  clear hG hA hb1
  go_wp2_with fail
  refine (l1In_any k 0 ((n : Int) - 1) _).mono ?_
  rintro e w2 ⟨rfl, rfl⟩
  rw [HK.out]
  go_wp2_with fail
  refine (diDir_any v _).mono ?_
  rintro e w3 ⟨rfl, rfl⟩
  rw [← HDD.out]
  go_wp2
  go_returns
  exact ⟨rfl, q1⟩
set_option maxHeartbeats 1600000 in
theorem specMO_run (s : ByteArray) (gd : Nat) (L : List St) (n : Nat) (hN : n = L.length) (k : Int) (hk : (Lit.int .i64 k).wf = true) (v : ByteArray) (w : World) (hs : s.size ≤ 1048576) (hD : StAt w gd 0 L) (h : isBd s.data.toList = true) (h2 : tog s.data.toList L = true) (h3 : (0 : Int) ≤ k ∧ k ≤ (n : Int) - 1) (h4 : 0 ≤ dirS v.data.toList) : Calls Tryd.prog 21 #[.string s, .slice (some ⟨gd, 0, none⟩) n n, .int .i64 k, .string v] w (MdPost (mvL s.data.toList L k.toNat (dirS v.data.toList)) w) := by
  obtain ⟨n1, n3, hall⟩ := tog_facts h2
  have hnn1 : 1 ≤ n := by omega
  have hnn3 : n ≤ 3 := by omega
  have i1n : IntKind.i64.wrap ((n : Int) - 1) = (n : Int) - 1 := IntWalk.i64_in _ (by omega)
  have HNE := hide (fun (i : Nat) (u : St) (hi : L[i]? = some u) => show nearS u from floor_near h (Bool.and_eq_true_iff.1 (hall i u hi).1).1)
  clear hall n1 n3
  have HK := hide (decide_eq_true h3)
  obtain ⟨kk, rfl⟩ : ∃ kk : Nat, k = (kk : Int) := ⟨k.toNat, by omega⟩
  have hkn : kk < n := by omega
  clear h3
  rw [Int.toNat_natCast]
  obtain ⟨dd, hdd⟩ : ∃ dd, dd = dirS v.data.toList := ⟨_, rfl⟩
  have hneg : ¬ dd < 0 := by omega
  have HDD := hide hdd
  rw [← hdd]
  clear hdd h4
  have H := hide h
  have H2 := hide h2
  have HN := hide hN
  have HD := hide hD
  clear h h2 hN hD
  go_enter Tryd.func21, Tryd.ntmps21
  go_wp2_with fail
  refine (myAsked_in s gd L n HN.out _ hs HD.out H.out).mono ?_
  rintro e w1 ⟨W, Hh, m, g, cap, hG, rfl, hA, hb1⟩
  rw [H2.out]
  have HG := hide hG
  have G1 := IsG.new (w := w1) (x := (W : Int)) (y := (Hh : Int)) (v := .slice (some ⟨g, 0, none⟩) m cap)
  have q1 := hb1.alloc hb1.size (.cells #[.int .i64 (W : Int), .int .i64 (Hh : Int), .slice (some ⟨g, 0, none⟩) m cap] 50)
  have A1 : BytesAt (w1.alloc (.cells #[.int .i64 (W : Int), .int .i64 (Hh : Int), .slice (some ⟨g, 0, none⟩) m cap] 50)) g (splitP s.data.toList).flatten := bytesAt_to (w0 := w1) ((Below.refl _ _).alloc (Nat.le_refl _) _) hA rfl
  have D1 := stAt_to (w0 := w) q1 HD.out rfl
  clear hb1 hA hG
  go_wp2_with fail
  refine (l1In_any (kk : Int) 0 ((n : Int) - 1) _).mono ?_
  rintro e w2 ⟨rfl, rfl⟩
  rw [HK.out]
  go_wp2_with fail
  refine (diDir_any v _).mono ?_
  rintro e w3 ⟨rfl, rfl⟩
  rw [← HDD.out]
  obtain ⟨B, hB⟩ : ∃ B, B = w1.heap.size := ⟨_, rfl⟩
  rw [← hB] at G1
  rw [← hB]
  generalize w1.alloc (.cells #[.int .i64 (W : Int), .int .i64 (Hh : Int), .slice (some ⟨g, 0, none⟩) m cap] 50) = W1 at G1 q1 A1 D1 ⊢
  clear hB
  have hsz := q1.size
  obtain ⟨_, ⟨d0, d1, d2⟩, -⟩ := G1.all
  have HG1 := hide G1
  have HA1 := hide (show BytesAt W1.drew g (splitP s.data.toList).flatten from A1)
  have HD1 := hide (show StAt W1.drew gd 0 L from D1)
  have HQ1 := hide q1
  clear G1 A1 D1 q1
  go_upto_region 4 with (fail)
  refine wp_region_held_drew (S := (fun w' => w'.cell? ⟨B, 0, none⟩ = some (.int .i64 (W : Int)) ∧ w'.cell? ⟨B, 1, none⟩ = some (.int .i64 (Hh : Int)) ∧ w'.cell? ⟨B, 2, none⟩ = some (.slice (some ⟨g, 0, none⟩) m cap))) (by kernel_rfl) (by refine ⟨?_, ?_, ?_⟩ <;> assumption) (fun hHeld => ?_)
  refine takeD (i := 0) (v := ?_) 33 rfl rfl (by kernel_rfl) (by kernel_rfl) (by kernel_rfl) (fun _ _ _ h => h) (Or.inl ⟨by rfl, ?_⟩) (by assumption) ?_
  rotate_left 1
  · (intro w hSw; (try dsimp only at hSw); go_simp; (try with_reducible rfl))
  try simp only [Act.put, List.setIfInBounds_toArray, List.set_cons_zero, List.set_cons_succ]
  refine takeD (i := 1) (v := ?_) 34 rfl rfl (by kernel_rfl) (by kernel_rfl) (by kernel_rfl) (fun _ _ _ h => h) (Or.inl ⟨by rfl, ?_⟩) (by assumption) ?_
  rotate_left 1
  · (intro w hSw; (try dsimp only at hSw); go_simp; (try with_reducible rfl))
  try simp only [Act.put, List.setIfInBounds_toArray, List.set_cons_zero, List.set_cons_succ]
  refine takeD (i := 2) (v := ?_) 35 rfl rfl (by kernel_rfl) (by kernel_rfl) (by kernel_rfl) (fun _ _ _ h => h) (Or.inl ⟨by rfl, ?_⟩) (by assumption) ?_
  rotate_left 1
  · (intro w hSw; (try dsimp only at hSw); go_simp; (try with_reducible rfl))
  try simp only [Act.put, List.setIfInBounds_toArray, List.set_cons_zero, List.set_cons_succ]
  refine takeD (i := 3) (v := ?_) 36 rfl rfl (by kernel_rfl) (by kernel_rfl) (by kernel_rfl) (fun _ _ _ h => h) (Or.inl ⟨by rfl, ?_⟩) (by assumption) ?_
  rotate_left 1
  · (intro w hSw; (try dsimp only at hSw); go_simp; (try with_reducible rfl))
  try simp only [Act.put, List.setIfInBounds_toArray, List.set_cons_zero, List.set_cons_succ]
  refine wpAnyH_ready (rs := [4]) (by kernel_rfl) (by simp) ?_
  refine AllReadyH.cons (o := _) rfl (fun K hK => ?_) AllReadyH.nil
  go_simp
  go_at_call 51
  (with_reducible refine (diDir_any v _).mono ?_)
  rintro e w3 ⟨rfl, rfl⟩
  rw [← HDD.out]
  dsimp only
  refine hK.out _ _ (by refine ⟨?_, ?_, ?_⟩ <;> assumption) (fun hHeld_1 => ?_)
  clear hK
  try simp only [Act.put, List.setIfInBounds_toArray, List.set_cons_zero, List.set_cons_succ]
  refine wpAnyH_ready (rs := [5]) (by kernel_rfl) (by simp) ?_
  refine AllReadyH.cons (o := _) rfl (fun K hK => ?_) AllReadyH.nil
  go_simp
  go_at_call 42
  (with_reducible refine (myMove_post s.data.toList W Hh m HG.out g cap gd n L n HN.out hnn3 kk hkn HNE.out dd _ HA1.out HD1.out).mono ?_)
  rintro e w4 ⟨vv, rfl, hO, hb4⟩
  have HO := hide (own_mono hO hsz)
  have HQ := hide (below_to hb4 HQ1.out HQ1.out.size rfl rfl rfl rfl)
  have HG4 := hide (isG_to hb4 HG1.out rfl)
  clear hb4 hO
  obtain ⟨_, ⟨x0, x1, x2⟩, -⟩ := HG4.out.all
  dsimp only
  refine hK.out _ _ (by refine ⟨?_, ?_, ?_⟩ <;> assumption) (fun hHeld_2 => ?_)
  clear hK
  try simp only [Act.put, List.setIfInBounds_toArray, List.set_cons_zero, List.set_cons_succ]
  refine takeD (i := 6) (v := ?_) 39 rfl rfl (by kernel_rfl) (by kernel_rfl) (by kernel_rfl) (fun _ _ _ h => h) (Or.inl ⟨by rfl, ?_⟩) (by assumption) ?_
  rotate_left 1
  · (intro w hSw; (try dsimp only at hSw); go_simp; (try with_reducible rfl))
  try simp only [Act.put, List.setIfInBounds_toArray, List.set_cons_zero, List.set_cons_succ]
  refine takeD (i := 7) (v := ?_) 40 rfl rfl (by kernel_rfl) (by kernel_rfl) (by kernel_rfl) (fun _ _ _ h => h) (Or.inl ⟨by rfl, ?_⟩) (by assumption) ?_
  rotate_left 1
  · (intro w hSw; (try dsimp only at hSw); go_simp; (try with_reducible rfl))
  try simp only [Act.put, List.setIfInBounds_toArray, List.set_cons_zero, List.set_cons_succ]
  refine takeD (i := 8) (v := ?_) 8 rfl rfl (by kernel_rfl) (by kernel_rfl) (by kernel_rfl) (fun _ _ _ h => h) (Or.inl ⟨by rfl, ?_⟩) (by assumption) ?_
  rotate_left 1
  · (intro w hSw; (try dsimp only at hSw); go_simp; (try with_reducible rfl))
  try simp only [Act.put, List.setIfInBounds_toArray, List.set_cons_zero, List.set_cons_succ]
  refine takeD (i := 9) (v := ?_) 9 rfl rfl (by kernel_rfl) (by kernel_rfl) (by kernel_rfl) (fun _ _ _ h => h) (Or.inl ⟨by rfl, ?_⟩) (by assumption) ?_
  rotate_left 1
  · (intro w hSw; (try dsimp only at hSw); go_simp; (try with_reducible rfl))
  try simp only [Act.put, List.setIfInBounds_toArray, List.set_cons_zero, List.set_cons_succ]
  refine wpAnyH_done (by kernel_rfl) ?_ _
  go_wp2
  go_returns
  exact ⟨_, rfl, HO.out, HQ.out⟩
theorem specMO_any (s : ByteArray) (gd : Nat) (L : List St) (n : Nat) (hN : n = L.length) (k : Int) (hk : (Lit.int .i64 k).wf = true) (v : ByteArray) (w : World) (hs : s.size ≤ 1048576) (hD : StAt w gd 0 L) : Calls Tryd.prog 21 #[.string s, .slice (some ⟨gd, 0, none⟩) n n, .int .i64 k, .string v] w (MdPost (moR s.data.toList L k v.data.toList) w) := by
  cases h : isBd s.data.toList with
  | false =>
    refine (specMO_bad s _ k v w hs h).mono ?_
    rintro e w' ⟨he, hb⟩
    exact mdPost_none (moR_no (by unfold moC; rw [adB_no h]; rfl)) he hb
  | true =>
    cases h2 : tog s.data.toList L with
    | false =>
      refine (specMO_off s gd L n hN k hk v w hs hD h h2).mono ?_
      rintro e w' ⟨he, hb⟩
      exact mdPost_none (moR_no (by unfold moC; rw [adB_off h2]; rfl)) he hb
    | true =>
      by_cases h3 : (0 : Int) ≤ k ∧ k ≤ (n : Int) - 1
      · by_cases h4 : 0 ≤ dirS v.data.toList
        · rw [moR_yes (by unfold moC; rw [adB_on h h2, ← hN, decide_eq_true h3, decide_eq_true h4]; rfl)]
          exact specMO_run s gd L n hN k hk v w hs hD h h2 h3 h4
        · refine (specMO_dir s gd L n hN k hk v w hs hD h h2 h3 h4).mono ?_
          rintro e w' ⟨he, hb⟩
          exact mdPost_none (moR_no (by unfold moC; rw [decide_eq_false h4]; simp)) he hb
      · refine (specMO_out s gd L n hN k hk v w hs hD h h2 h3).mono ?_
        rintro e w' ⟨he, hb⟩
        exact mdPost_none (moR_no (by unfold moC; rw [← hN, decide_eq_false h3]; simp)) he hb

set_option maxHeartbeats 800000 in
theorem implMO_low (s : ByteArray) (u : Value) (k : Int) (v : ByteArray) (w : World) (h : k < 0) : Calls Tryd.prog 22 #[.string s, u, .int .i64 k, .string v] w fun e w' => e = .returned (.tuple #[.slice none 0 0, .bool false]) ∧ Below w.heap.size w w' := by
  go_enter Tryd.func22, Tryd.ntmps22
  go_wp2
  go_returns
  exact ⟨rfl, Below.refl _ _⟩
set_option maxHeartbeats 800000 in
theorem implMO_high (s : ByteArray) (u : Value) (k : Int) (v : ByteArray) (w : World) (h : ¬ k < 0) (h2 : 3 ≤ k) : Calls Tryd.prog 22 #[.string s, u, .int .i64 k, .string v] w fun e w' => e = .returned (.tuple #[.slice none 0 0, .bool false]) ∧ Below w.heap.size w w' := by
  go_enter Tryd.func22, Tryd.ntmps22
  go_wp2
  go_returns
  exact ⟨rfl, Below.refl _ _⟩
set_option maxHeartbeats 800000 in
theorem implMO_dir (s : ByteArray) (u : Value) (k : Int) (v : ByteArray) (w : World) (hv : v.size ≤ maxLen) (h : ¬ k < 0) (h2 : ¬ 3 ≤ k) (h3 : ¬ 0 ≤ dirS v.data.toList) : Calls Tryd.prog 22 #[.string s, u, .int .i64 k, .string v] w fun e w' => e = .returned (.tuple #[.slice none 0 0, .bool false]) ∧ Below w.heap.size w w' := by
  have H3 := hide (decide_eq_false h3)
  clear h3
  go_enter Tryd.func22, Tryd.ntmps22
  go_wp2_with fail
  refine (isDirection_any v _ hv).mono ?_
  rintro e w2 ⟨rfl, rfl⟩
  rw [H3.out]
  go_wp2
  go_returns
  exact ⟨rfl, Below.refl _ _⟩
theorem ext_ix (kk : Nat) (h : kk < 3) : (({ data := #[48, 49, 50] } : ByteArray).extract kk (kk + 1)) = ⟨#[UInt8.ofNat (48 + kk)]⟩ := by
  match kk, h with
  | 0, _ => decide +kernel
  | 1, _ => decide +kernel
  | 2, _ => decide +kernel
set_option maxHeartbeats 1600000 in
theorem implMO_run (s : ByteArray) (gd : Nat) (L : List St) (n : Nat) (hN : n = L.length) (kk : Nat) (hk : kk < 3) (v : ByteArray) (w : World) (hs : s.size ≤ 1048576) (hv : v.size ≤ maxLen) (hg : Glob w) (hD : StAt w gd 0 L) (h3 : 0 ≤ dirS v.data.toList) : Calls Tryd.prog 22 #[.string s, .slice (some ⟨gd, 0, none⟩) n n, .int .i64 (kk : Int), .string v] w (MdPost (moR s.data.toList L (kk : Int) v.data.toList) w) := by
  have hd1 : v.size = 1 := by
    obtain ⟨c, hc, _⟩ := dirS_is h3
    have := congrArg List.length hc
    rw [Array.length_toList] at this
    exact this
  have HP := hide (show mdR s.data.toList L ((⟨#[UInt8.ofNat (48 + kk)]⟩ : ByteArray) ++ v).data.toList = moR s.data.toList L (kk : Int) v.data.toList from by
    have e : ((⟨#[UInt8.ofNat (48 + kk)]⟩ : ByteArray) ++ v).data.toList = UInt8.ofNat (48 + kk) :: v.data.toList := by
      rw [ByteArray.data_append]
      simp
    rw [e]
    refine mo_md _ _ kk hk _ h3 _ ?_
    rw [UInt8.toNat_ofNat']
    omega)
  have HS := hide (show ((⟨#[UInt8.ofNat (48 + kk)]⟩ : ByteArray) ++ v).size ≤ maxLen from by
    rw [ByteArray.size_append, hd1]
    show 1 + 1 ≤ maxLen
    unfold maxLen
    omega)
  have HX := hide (ext_ix kk hk)
  have HD := hide hD
  have HG := hide hg
  have HN := hide hN
  have H3 := hide (decide_eq_true h3)
  have i1 : IntKind.i64.wrap ((kk : Int) + 1) = ((kk + 1 : Nat) : Int) := by have := IntWalk.i64_in ((kk : Int) + 1) (by omega); omega
  have k0 : ¬ (kk : Int) < 0 := by omega
  have k3 : ¬ 3 ≤ (kk : Int) := by omega
  have b1 : (kk : Int) + 1 ≤ 3 := by omega
  have b2 : (0 : Int) ≤ (kk : Int) + 1 := by omega
  have b3 : (kk : Int) ≤ (kk : Int) + 1 := by omega
  have t1 : ((kk : Int) + 1).toNat = kk + 1 := by omega
  clear hD hg hN h3
  go_enter Tryd.func22, Tryd.ntmps22
  go_wp2_with fail
  refine (isDirection_any v _ hv).mono ?_
  rintro e w2 ⟨rfl, rfl⟩
  rw [H3.out]
  go_wp2_with fail
  rw [HX.out]
  refine (implMD_any s gd L n HN.out _ _ hs HS.out HG.out HD.out).mono ?_
  rw [HP.out]
  rintro e w3 ⟨vv, rfl, hO, hb⟩
  go_wp2
  go_returns
  exact ⟨_, rfl, hO, hb⟩
theorem implMO_any (s : ByteArray) (gd : Nat) (L : List St) (n : Nat) (hN : n = L.length) (k : Int) (v : ByteArray) (w : World) (hs : s.size ≤ 1048576) (hv : v.size ≤ maxLen) (hg : Glob w) (hD : StAt w gd 0 L) : Calls Tryd.prog 22 #[.string s, .slice (some ⟨gd, 0, none⟩) n n, .int .i64 k, .string v] w (MdPost (moR s.data.toList L k v.data.toList) w) := by
  by_cases h1 : k < 0
  · refine (implMO_low s _ k v w h1).mono ?_
    rintro e w' ⟨he, hb⟩
    exact mdPost_none (moR_no (by unfold moC; rw [decide_eq_false (show ¬ ((0 : Int) ≤ k ∧ k ≤ (L.length : Int) - 1) by omega)]; simp)) he hb
  · by_cases h2 : 3 ≤ k
    · refine (implMO_high s _ k v w h1 h2).mono ?_
      rintro e w' ⟨he, hb⟩
      refine mdPost_none (moR_no ?_) he hb
      cases h3 : tog s.data.toList L with
      | false => unfold moC; rw [adB_off h3]; rfl
      | true =>
        have := (tog_facts h3).2.1
        unfold moC
        rw [decide_eq_false (show ¬ ((0 : Int) ≤ k ∧ k ≤ (L.length : Int) - 1) by omega)]
        simp
    · by_cases h3 : 0 ≤ dirS v.data.toList
      · obtain ⟨kk, rfl⟩ : ∃ kk : Nat, k = (kk : Int) := ⟨k.toNat, by omega⟩
        exact implMO_run s gd L n hN kk (by omega) v w hs hv hg hD h3
      · refine (implMO_dir s _ k v w hv h1 h2 h3).mono ?_
        rintro e w' ⟨he, hb⟩
        exact mdPost_none (moR_no (by unfold moC; rw [decide_eq_false h3]; simp)) he hb
end Go.Proofs.YtdndegonpdakkaaDoor
