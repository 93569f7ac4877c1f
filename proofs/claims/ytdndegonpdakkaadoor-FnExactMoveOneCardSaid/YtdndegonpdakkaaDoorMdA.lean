/- Plans run: the model's MoveDice. Plans run: the program's MoveDice. Plans run: MoveDice of the model and of the program, all cases. -/
import Derived.Test.YtdndegonpdakkaaDoorMyMv
import Derived.Test.YtdndegonpdakkaaDoorSumD
import Derived.Lib.SliceRun
import Derived.Deep.WholeRow
namespace Go.Proofs.YtdndegonpdakkaaDoor
set_option maxRecDepth 100000
set_option linter.all false
open Go.RowKit
attribute [local go_sem ↓] Go.wp_at_zero Go.wp_at_succ

/-- The dice behind the first k moves of a plan, if they can be made. -/
def runL (l : List UInt8) (L : List St) (pl : List UInt8) : Nat → Option (List St)
  | 0 => some L
  | k + 1 => (runL l L pl k).bind fun M => mvL l M ((pl.getD (2 * k) 0).toNat - 48) (dirIx (pl.getD (2 * k + 1) 0).toNat)
theorem runL_none {l : List UInt8} {L : List St} {pl : List UInt8} {j : Nat} (h : runL l L pl j = none) : ∀ m, j ≤ m → runL l L pl m = none := by
  intro m
  induction m with
  | zero =>
    intro hj
    obtain rfl : j = 0 := by omega
    exact h
  | succ m ih =>
    intro hj
    by_cases e : j = m + 1
    · subst e; exact h
    · show (runL l L pl m).bind _ = none
      rw [ih (by omega)]
      rfl
theorem runL_facts {l : List UInt8} (hb : isBd l = true) {L : List St} (hL : ∀ (i : Nat) (u : St), L[i]? = some u → nearS u) {pl : List UInt8} : ∀ {k : Nat} {M : List St}, runL l L pl k = some M → M.length = L.length ∧ ∀ (i : Nat) (u : St), M[i]? = some u → nearS u := by
  intro k
  induction k with
  | zero => intro M h; obtain rfl := Option.some.inj h; exact ⟨rfl, hL⟩
  | succ k ih =>
    intro M h
    have h2 : (runL l L pl k).bind (fun M => mvL l M ((pl.getD (2 * k) 0).toNat - 48) (dirIx (pl.getD (2 * k + 1) 0).toNat)) = some M := h
    cases h3 : runL l L pl k with
    | none => rw [h3] at h2; cases h2
    | some N =>
      rw [h3] at h2
      obtain ⟨a, b⟩ := ih h3
      exact ⟨(mvL_len h2).trans a, mvL_near hb b h2⟩
theorem runL_succ {l : List UInt8} {L M : List St} {pl : List UInt8} {k : Nat} (h : runL l L pl k = some M) : runL l L pl (k + 1) = mvL l M ((pl.getD (2 * k) 0).toNat - 48) (dirIx (pl.getD (2 * k + 1) 0).toNat) := by
  show (runL l L pl k).bind _ = _
  rw [h]
  rfl
theorem plAt_ix {s : ByteArray} {j : Nat} (h : plAt s.data.toList j = true) (hp : 2 * j + 1 < s.size) : 48 ≤ (s[2 * j]'(by omega)).toNat ∧ (s[2 * j]'(by omega)).toNat ≤ 50 := by
  unfold plAt at h
  rw [getD_at s (2 * j) (by omega)] at h
  have := (Bool.and_eq_true_iff.1 h).1
  simpa [ixOk] using this
theorem plAt_dir2 {s : ByteArray} {j : Nat} (h : plAt s.data.toList j = true) (hp : 2 * j + 1 < s.size) : 0 ≤ dirIx s[2 * j + 1].toNat := by
  unfold plAt at h
  rw [getD_at s (2 * j + 1) hp] at h
  simpa using (Bool.and_eq_true_iff.1 h).2
theorem isPl_len2 {l : List UInt8} (h : isPl l = true) : l.length ≤ 120 ∧ l.length = 2 * (l.length / 2) ∧ ∀ j, j < l.length / 2 → plAt l j = true := by
  unfold isPl at h
  simp only [Bool.and_eq_true, decide_eq_true_eq] at h
  exact ⟨h.1.2, by omega, fun j hj => plK_at h.2 hj⟩
theorem own_none (w : World) (B : Nat) (e : TypeId) (z : Nat) : w.ownsRow B e z (.slice none 0 0) 0 [] := ⟨by simp, .inl ⟨rfl, rfl⟩⟩

/-- What a run hands back: its dice, or none. -/
def MdPost (r : Option (List St)) (w : World) (e : Ending) (w' : World) : Prop := ∃ v, e = .returned (.tuple #[v, .bool r.isSome]) ∧ w'.ownsRow w.heap.size 57 8 v (r.getD []).length (cellsS (r.getD [])) ∧ Below w.heap.size w w'
theorem mdPost_none {w w' : World} {e : Ending} {r : Option (List St)} (hr : r = none) (he : e = .returned (.tuple #[.slice none 0 0, .bool false])) (hb : Below w.heap.size w w') : MdPost r w e w' := by
  subst hr
  exact ⟨_, he, own_none _ _ _ _, hb⟩
theorem mdPost_some {w w' : World} {e : Ending} {r : Option (List St)} {M : List St} {v : Value} {n : Nat} (hr : r = some M) (he : e = .returned (.tuple #[v, .bool true])) (hn : n = M.length) (ho : w'.ownsRow w.heap.size 57 8 v n (cellsS M)) (hb : Below w.heap.size w w') : MdPost r w e w' := by
  subst hr
  subst hn
  exact ⟨_, he, ho, hb⟩

set_option maxHeartbeats 800000 in
theorem specMD_bad (s : ByteArray) (u : Value) (v : ByteArray) (w : World) (hs : s.size ≤ 1048576) (h : isBd s.data.toList = false) : Calls Tryd.prog 24 #[.string s, u, .string v] w fun e w' => e = .returned (.tuple #[.slice none 0 0, .bool false]) ∧ Below w.heap.size w w' := by
  have H := hide h
  clear h
  go_enter Tryd.func24, Tryd.ntmps24
  go_wp2_with fail
  refine (myAsked_bad s u _ hs H.out).mono ?_
  rintro e w1 ⟨rfl, hb1⟩
  have q1 := hb1.alloc hb1.size (.cells #[.int .i64 0, .int .i64 0, .slice none 0 0] 50)
  go_wp2
  go_returns
  exact ⟨rfl, q1⟩
set_option maxHeartbeats 800000 in
theorem specMD_off (s : ByteArray) (gd : Nat) (L : List St) (n : Nat) (hN : n = L.length) (v : ByteArray) (w : World) (hs : s.size ≤ 1048576) (hD : StAt w gd 0 L) (h : isBd s.data.toList = true) (h2 : tog s.data.toList L = false) : Calls Tryd.prog 24 #[.string s, .slice (some ⟨gd, 0, none⟩) n n, .string v] w fun e w' => e = .returned (.tuple #[.slice none 0 0, .bool false]) ∧ Below w.heap.size w w' := by
  have H := hide h
  have H2 := hide h2
  have HN := hide hN
  have HD := hide hD
  clear h h2 hN hD
  go_enter Tryd.func24, Tryd.ntmps24
  go_wp2_with fail
  refine (myAsked_in s gd L n HN.out _ hs HD.out H.out).mono ?_
  rintro e w1 ⟨W, Hh, m, g, cap, hG, rfl, hA, hb1⟩
  rw [H2.out]
  have q1 := hb1.alloc hb1.size (.cells #[.int .i64 (W : Int), .int .i64 (Hh : Int), .slice (some ⟨g, 0, none⟩) m cap] 50)
  clear hG hA hb1
  go_wp2
  go_returns
  exact ⟨rfl, q1⟩
set_option maxHeartbeats 800000 in
theorem specMD_plan (s : ByteArray) (gd : Nat) (L : List St) (n : Nat) (hN : n = L.length) (v : ByteArray) (w : World) (hs : s.size ≤ 1048576) (hv : v.size ≤ maxLen) (hD : StAt w gd 0 L) (h : isBd s.data.toList = true) (h2 : tog s.data.toList L = true) (h3 : isPl v.data.toList = false) : Calls Tryd.prog 24 #[.string s, .slice (some ⟨gd, 0, none⟩) n n, .string v] w fun e w' => e = .returned (.tuple #[.slice none 0 0, .bool false]) ∧ Below w.heap.size w w' := by
  have H := hide h
  have H2 := hide h2
  have H3 := hide h3
  have HN := hide hN
  have HD := hide hD
  clear h h2 h3 hN hD
  go_enter Tryd.func24, Tryd.ntmps24
  go_wp2_with fail
  refine (myAsked_in s gd L n HN.out _ hs HD.out H.out).mono ?_
  rintro e w1 ⟨W, Hh, m, g, cap, hG, rfl, hA, hb1⟩
  rw [H2.out]
  have q1 := hb1.alloc hb1.size (.cells #[.int .i64 (W : Int), .int .i64 (Hh : Int), .slice (some ⟨g, 0, none⟩) m cap] 50)
  clear hG hA hb1
  go_wp2_with fail
  refine (myPlan_any v _ hv).mono ?_
  rintro e w2 ⟨rfl, rfl⟩
  rw [H3.out]
  go_wp2
  go_returns
  exact ⟨rfl, q1⟩
/-- What holds at the loop's head of the model's MoveDice: the grid's box, the board, the dice now. -/
def MdI (w wr : World) (B W H m g cap : Nat) (F : List UInt8) (v : Value) (n : Nat) (M : List St) : Prop := IsG wr B (W : Int) (H : Int) (.slice (some ⟨g, 0, none⟩) m cap) ∧ BytesAt wr g F ∧ wr.ownsRow w.heap.size 57 8 v n (cellsS M) ∧ Below w.heap.size w wr
theorem mdI_to {w wr w0 w1 : World} {B W H m g cap n : Nat} {F : List UInt8} {v : Value} {M : List St} (hb : Below w0.heap.size w0 w1) (h : MdI w wr B W H m g cap F v n M) (e : w0.heap = wr.heap) (e2 : w0.os = wr.os) (e3 : w0.tape = wr.tape) (e4 : w0.output = wr.output) : MdI w w1 B W H m g cap F v n M :=
  ⟨isG_to hb h.1 e, bytesAt_to hb h.2.1 e, own_to hb h.2.2.1 e, below_to hb h.2.2.2 h.2.2.2.size e e2 e3 e4⟩

set_option maxHeartbeats 4000000 in
theorem specMD_run (s : ByteArray) (gd : Nat) (L : List St) (n : Nat) (hN : n = L.length) (v : ByteArray) (w : World) (hs : s.size ≤ 1048576) (hv : v.size ≤ maxLen) (hD : StAt w gd 0 L) (h : isBd s.data.toList = true) (h2 : tog s.data.toList L = true) (h3 : isPl v.data.toList = true) : Calls Tryd.prog 24 #[.string s, .slice (some ⟨gd, 0, none⟩) n n, .string v] w (MdPost (runL s.data.toList L v.data.toList (v.size / 2)) w) := by
  obtain ⟨n1, n3, hall⟩ := tog_facts h2
  have hnear : ∀ (i : Nat) (u : St), L[i]? = some u → nearS u := fun i u hi => floor_near h (Bool.and_eq_true_iff.1 (hall i u hi).1).1
  have HF := hide (fun (k : Nat) (M : List St) (hk : runL s.data.toList L v.data.toList k = some M) => runL_facts h hnear hk)
  obtain ⟨m0, hm0⟩ : ∃ m0, m0 = v.size / 2 := ⟨_, rfl⟩
  have hpl := isPl_len2 h3
  have hv2 : v.size = 2 * m0 := by have := hpl.2.1; simp at this; omega
  have hv120 : v.size ≤ 120 := by have := hpl.1; simpa using this
  have HPL := hide (show ∀ j, j < m0 → plAt v.data.toList j = true from fun j hj => hpl.2.2 j (by simp; omega))
  have HM0 := hide hm0
  rw [← hm0]
  have hle : 2 * m0 ≤ v.size := by omega
  have hge : v.size ≤ 2 * m0 := by omega
  clear hm0 hpl hv2 hnear hall
  have hnn1 : 1 ≤ n := by omega
  have hnn3 : n ≤ 3 := by omega
  have H := hide h
  have H2 := hide h2
  have H3 := hide h3
  have HN := hide hN
  have HD := hide hD
  clear h h2 h3 hN hD n1 n3
  obtain ⟨i0, hi, hz0, hz1, hz2⟩ := info_parts info_state
  have HI := hide hi
  have HZ0 := hide hz0
  have HZ1 := hide hz1
  have HZ2 := hide hz2
  clear hi hz0 hz1 hz2
  have hl8 := hide (show (cellsS L).length = n * 8 from by rw [cellsS_len, HN.out])
  go_enter Tryd.func24, Tryd.ntmps24
  go_wp2_with fail
  refine (myAsked_in s gd L n HN.out _ hs HD.out H.out).mono ?_
  rintro e w1 ⟨W, Hh, m, g, cap, hG, rfl, hA, hb1⟩
  rw [H2.out]
  have HG := hide hG
  have G1 := IsG.new (w := w1) (x := (W : Int)) (y := (Hh : Int)) (v := .slice (some ⟨g, 0, none⟩) m cap)
  have q1 := hb1.alloc hb1.size (.cells #[.int .i64 (W : Int), .int .i64 (Hh : Int), .slice (some ⟨g, 0, none⟩) m cap] 50)
  have A1 : BytesAt (w1.alloc (.cells #[.int .i64 (W : Int), .int .i64 (Hh : Int), .slice (some ⟨g, 0, none⟩) m cap] 50)) g (splitP s.data.toList).flatten := bytesAt_to (w0 := w1) ((Below.refl _ _).alloc (Nat.le_refl _) _) hA rfl
  have D1 := stAt_to (w0 := w) q1 HD.out rfl
  have hBw : w.heap.size ≤ w1.heap.size := hb1.size
  clear hb1 hA hG
  go_wp2_with fail
  refine (myPlan_any v _ hv).mono ?_
  rintro e w2 ⟨rfl, rfl⟩
  rw [H3.out]
  obtain ⟨B, hB⟩ : ∃ B, B = w1.heap.size := ⟨_, rfl⟩
  rw [← hB] at G1 hBw
  rw [← hB]
  generalize w1.alloc (.cells #[.int .i64 (W : Int), .int .i64 (Hh : Int), .slice (some ⟨g, 0, none⟩) m cap] 50) = W1 at G1 q1 A1 D1 ⊢
  clear hB
  have hsz1 := q1.size
  have HE := hide (show (W1.alloc (.cells #[] 57)).ownsRow w.heap.size 57 8 (.slice (some ⟨W1.heap.size, 0, none⟩) 0 0) 0 [] from World.ownsRow_made (base := w.heap.size) (e := 57) (size := 8) W1 #[] 0 hsz1 (by unfold maxLen; omega) rfl)
  have hbE : Below W1.heap.size W1 (W1.alloc (.cells #[] 57)) := (Below.refl _ _).alloc (Nat.le_refl _) _
  have HSRC := hide (stAt_src (stAt_to (w0 := W1) hbE D1 rfl))
  have HGE := hide (isG_to (w0 := W1) hbE G1 rfl)
  have HAE := hide (bytesAt_to (w0 := W1) hbE A1 rfl)
  have HQE := hide (q1.alloc q1.size (.cells #[] 57))
  have hBl := G1.lt
  have hgl := A1.lt
  clear hbE G1 q1 A1 D1
  go_wp2_with (at_builtin; refine wpList_append_own _ rfl _ _ 26 rfl w.heap.size 57 i0 (.agg #[.int .i64 0, .int .i64 0, .int .i64 0, .int .i64 0, .int .i64 0, .int .i64 0, .int .i64 0, .int .i64 0]) 8 64 Tryd.underlying26 HI.out HZ0.out HZ1.out HZ2.out rfl (by decide) _ 0 [] rfl HE.out ⟨gd, 0, none⟩ n n (cellsS L) rfl hl8.out HSRC.out (cellsS_one L) (by unfold maxLen; omega) (by omega) (by simp; omega) ?_; intro v5 w5 hown5 hg5 _)
  have HT := hide (show MdI w w5 B W Hh m g cap (splitP s.data.toList).flatten v5 n L from by
    have hne : ∀ j, j < W1.heap.size → some j ≠ (Value.slice (some ⟨W1.heap.size, 0, none⟩) 0 0).ownBlock := fun j hj e => by
      have : j = W1.heap.size := Option.some.inj e
      omega
    refine ⟨HGE.out.kept hg5 (hne B hBl), ?_, ?_, HQE.out.grown hg5 (by simp; omega) (fun j hj => by
      have : W1.heap.size = j := Option.some.inj hj
      omega)⟩
    · obtain ⟨cur, c1, c2⟩ := HAE.out
      exact ⟨cur, (hg5.block g (by simp; omega) (hne g hgl)).trans c1, c2⟩
    · simpa using hown5)
  clear hown5 hg5 HE
  go_wp2
  go_loopw [10, 11] (fun vv i wr => ∃ (k q : Nat) (u : Value) (M : List St), k ≤ m0 ∧ q ≤ 2 * k ∧ 2 * k ≤ q ∧ i = .int .i64 (q : Int) ∧ vv = u ∧ runL s.data.toList L v.data.toList k = some M ∧ MdI w wr B W Hh m g cap (splitP s.data.toList).flatten u n M) (fun _ i _ => v.size - (intOf i).toNat)
  case atStart => exact ⟨0, 0, _, L, Nat.zero_le _, Nat.le_refl _, Nat.le_refl _, rfl, rfl, rfl, HT.out⟩
  case round =>
    obtain ⟨k, q, u, M, hk, hq1, hq2, rfl, rfl, hrun, T⟩ := hrel
    clear HT
    obtain ⟨hMl, hMn⟩ := HF.out k M hrun
    have HMN := hide hMn
    have HML := hide (show n = M.length from by rw [hMl]; exact HN.out)
    have HRUN := hide hrun
    obtain ⟨g5, c5, rfl, hg5a, hg5b⟩ := own_form T.2.2.1 (by omega)
    clear hMl hMn hrun
    by_cases hlt : q < v.size
    · have hp1 : q + 1 < v.size := by omega
      have hpl := HPL.out k (by omega)
      have hqk : q = 2 * k := by omega
      have hix : 48 ≤ v[q].toNat ∧ v[q].toNat ≤ 50 := by
        subst hqk
        exact plAt_ix hpl hp1
      have HDI := hide (show 0 ≤ dirIx v[q + 1].toNat from by
        subst hqk
        exact plAt_dir2 hpl hp1)
      have HSU := hide (show runL s.data.toList L v.data.toList (k + 1) = mvL s.data.toList M (v[q].toNat - 48) (dirIx v[q + 1].toNat) from by
        rw [runL_succ HRUN.out, ← hqk, getD_at v q hlt, getD_at v (q + 1) hp1])
      clear hqk hpl
      obtain ⟨hi1, hi2⟩ := hix
      obtain ⟨kk, hkk⟩ : ∃ kk : Nat, v[q].toNat = 48 + kk := ⟨v[q].toNat - 48, by omega⟩
      have hkk3 : kk < 3 := by omega
      have HSU2 := hide (show runL s.data.toList L v.data.toList (k + 1) = mvL s.data.toList M kk (dirIx v[q + 1].toNat) from by rw [HSU.out, hkk, Nat.add_sub_cancel_left])
      have i0q : IntKind.u8.wrap ((v[q].toNat : Int) - 48) = (kk : Int) := by
        have : ((v[q].toNat : Int) - 48) = (kk : Int) := by omega
        rw [this]
        exact IntWalk.u8_in _ (by omega)
      have i0r : (v[q].toNat : Int) - 48 = (kk : Int) := by omega
      have hlo : 48 ≤ (v[q].toNat : Int) := by omega
      have HKK := hide hkk
      clear hkk hi1 hi2 HSU
      have hq0 : (0 : Int) ≤ (q : Int) := by omega
      have hqv : (q : Int) < (v.size : Int) := by omega
      have hqv1 : (q : Int) + 2 ≤ (v.size : Int) := by omega
      have HMD := hide T
      clear T
      by_cases hkn : kk < n
      · have hkn' : (kk : Int) < (n : Int) := by omega
        have i1q : IntKind.i64.wrap ((q : Int) + 1) = ((q + 1 : Nat) : Int) := by have := IntWalk.i64_in ((q : Int) + 1) (by omega); omega
        have i2q : IntKind.i64.wrap ((q : Int) + 2) = ((q + 2 : Nat) : Int) := by have := IntWalk.i64_in ((q : Int) + 2) (by omega); omega
        have b1q : (0 : Int) ≤ (q : Int) + 1 := by omega
        have b2q : (0 : Int) ≤ (q : Int) + 2 := by omega
        have t1q : ((q : Int) + 1).toNat = q + 1 := by omega
        have t2q : ((q : Int) + 2).toNat = q + 2 := by omega
        have C1 := hide (fun wx => diDir_at v (q + 1) hp1 wx)
        have hwr : w.heap.size ≤ wr.heap.size := HMD.out.2.2.2.size
        obtain ⟨_, ⟨d0, d1, d2⟩, -⟩ := HMD.out.1.all
        have HAd := hide (show BytesAt wr.drew g (splitP s.data.toList).flatten from HMD.out.2.1)
        have HDd := hide (show StAt wr.drew g5 0 M from stAt_own HMD.out.2.2.1 HML.out)
        go_upto_region 11 with (fail)
        cases hmv : mvL s.data.toList M kk (dirIx v[q + 1].toNat)
        · have HMV := hide hmv
          clear hmv
          refine wp_region_held_drew (S := (fun w' => w'.cell? ⟨B, 0, none⟩ = some (.int .i64 (W : Int)) ∧ w'.cell? ⟨B, 1, none⟩ = some (.int .i64 (Hh : Int)) ∧ w'.cell? ⟨B, 2, none⟩ = some (.slice (some ⟨g, 0, none⟩) m cap))) (by kernel_rfl) (by refine ⟨?_, ?_, ?_⟩ <;> assumption) (fun hHeld => ?_)
          refine takeD (i := 0) (v := ?_) 47 rfl rfl (by kernel_rfl) (by kernel_rfl) (by kernel_rfl) (fun _ _ _ h => h) (Or.inl ⟨by rfl, ?_⟩) (by assumption) ?_
          rotate_left 1
          · (intro w hSw; (try dsimp only at hSw); go_simp; (try with_reducible rfl))
          try simp only [Act.put, List.setIfInBounds_toArray, List.set_cons_zero, List.set_cons_succ]
          refine takeD (i := 1) (v := ?_) 48 rfl rfl (by kernel_rfl) (by kernel_rfl) (by kernel_rfl) (fun _ _ _ h => h) (Or.inl ⟨by rfl, ?_⟩) (by assumption) ?_
          rotate_left 1
          · (intro w hSw; (try dsimp only at hSw); go_simp; (try with_reducible rfl))
          try simp only [Act.put, List.setIfInBounds_toArray, List.set_cons_zero, List.set_cons_succ]
          refine takeD (i := 2) (v := ?_) 49 rfl rfl (by kernel_rfl) (by kernel_rfl) (by kernel_rfl) (fun _ _ _ h => h) (Or.inl ⟨by rfl, ?_⟩) (by assumption) ?_
          rotate_left 1
          · (intro w hSw; (try dsimp only at hSw); go_simp; (try with_reducible rfl))
          try simp only [Act.put, List.setIfInBounds_toArray, List.set_cons_zero, List.set_cons_succ]
          refine takeD (i := 3) (v := ?_) 50 rfl rfl (by kernel_rfl) (by kernel_rfl) (by kernel_rfl) (fun _ _ _ h => h) (Or.inl ⟨by rfl, ?_⟩) (by assumption) ?_
          rotate_left 1
          · (intro w hSw; (try dsimp only at hSw); go_simp; (try with_reducible rfl))
          try simp only [Act.put, List.setIfInBounds_toArray, List.set_cons_zero, List.set_cons_succ]
          refine takeD (i := 4) (v := ?_) 51 rfl rfl (by kernel_rfl) (by kernel_rfl) (by kernel_rfl) (fun _ _ _ h => h) (Or.inl ⟨by rfl, ?_⟩) (by assumption) ?_
          rotate_left 1
          · (intro w hSw; (try dsimp only at hSw); go_simp; (try with_reducible rfl))
          try simp only [Act.put, List.setIfInBounds_toArray, List.set_cons_zero, List.set_cons_succ]
          refine takeD (i := 5) (v := ?_) 52 rfl rfl (by kernel_rfl) (by kernel_rfl) (by kernel_rfl) (fun _ _ _ h => h) (Or.inl ⟨by rfl, ?_⟩) (by assumption) ?_
          rotate_left 1
          · (intro w hSw; (try dsimp only at hSw); go_simp; (try with_reducible rfl))
          try simp only [Act.put, List.setIfInBounds_toArray, List.set_cons_zero, List.set_cons_succ]
          refine takeD (i := 6) (v := ?_) 53 rfl rfl (by kernel_rfl) (by kernel_rfl) (by kernel_rfl) (fun _ _ _ h => h) (Or.inl ⟨by rfl, ?_⟩) (by assumption) ?_
          rotate_left 1
          · (intro w hSw; (try dsimp only at hSw); go_simp; (try with_reducible rfl))
          try simp only [Act.put, List.setIfInBounds_toArray, List.set_cons_zero, List.set_cons_succ]
          refine takeD (i := 7) (v := ?_) 54 rfl rfl (by kernel_rfl) (by kernel_rfl) (by kernel_rfl) (fun _ _ _ h => h) (Or.inl ⟨by rfl, ?_⟩) (by assumption) ?_
          rotate_left 1
          · (intro w hSw; (try dsimp only at hSw); go_simp; (try with_reducible rfl))
          try simp only [Act.put, List.setIfInBounds_toArray, List.set_cons_zero, List.set_cons_succ]
          refine takeD (i := 8) (v := ?_) 55 rfl rfl (by kernel_rfl) (by kernel_rfl) (by kernel_rfl) (fun _ _ _ h => h) (Or.inl ⟨by rfl, ?_⟩) (by assumption) ?_
          rotate_left 1
          · (intro w hSw; (try dsimp only at hSw); go_simp; (try with_reducible rfl))
          try simp only [Act.put, List.setIfInBounds_toArray, List.set_cons_zero, List.set_cons_succ]
          refine wpAnyH_ready (rs := [9]) (by kernel_rfl) (by simp) ?_
          refine AllReadyH.cons (o := _) rfl (fun K hK => ?_) AllReadyH.nil
          go_simp
          go_at_call 51
          (with_reducible refine (C1.out _).mono ?_)
          rintro e w3 ⟨rfl, rfl⟩
          dsimp only
          refine hK.out _ _ (by refine ⟨?_, ?_, ?_⟩ <;> assumption) (fun hHeld_1 => ?_)
          clear hK
          try simp only [Act.put, List.setIfInBounds_toArray, List.set_cons_zero, List.set_cons_succ]
          refine wpAnyH_ready (rs := [10]) (by kernel_rfl) (by simp) ?_
          refine AllReadyH.cons (o := _) rfl (fun K hK => ?_) AllReadyH.nil
          go_simp
          go_at_call 42
          (with_reducible refine (myMove_any s.data.toList W Hh m HG.out g cap g5 c5 M n HML.out hnn3 kk hkn HMN.out _ _ HAd.out HDd.out).mono ?_)
          rintro e w4 ⟨vv, rfl, hsome, hnone, hb4⟩
          rw [HMV.out]
          have HT4 := hide (mdI_to hb4 HMD.out rfl rfl rfl rfl)
          obtain rfl := hnone HMV.out
          clear hsome hnone hb4
          obtain ⟨_, ⟨x0, x1, x2⟩, -⟩ := HT4.out.1.all
          dsimp only
          refine hK.out _ _ (by refine ⟨?_, ?_, ?_⟩ <;> assumption) (fun hHeld_2 => ?_)
          clear hK
          try simp only [Act.put, List.setIfInBounds_toArray, List.set_cons_zero, List.set_cons_succ]
          refine takeD (i := 11) (v := ?_) 46 rfl rfl (by kernel_rfl) (by kernel_rfl) (by kernel_rfl) (fun _ _ _ h => h) (Or.inl ⟨by rfl, ?_⟩) (by assumption) ?_
          rotate_left 1
          · (intro w hSw; (try dsimp only at hSw); go_simp; (try with_reducible rfl))
          try simp only [Act.put, List.setIfInBounds_toArray, List.set_cons_zero, List.set_cons_succ]
          refine takeD (i := 12) (v := ?_) 58 rfl rfl (by kernel_rfl) (by kernel_rfl) (by kernel_rfl) (fun _ _ _ h => h) (Or.inl ⟨by rfl, ?_⟩) (by assumption) ?_
          rotate_left 1
          · (intro w hSw; (try dsimp only at hSw); go_simp; (try with_reducible rfl))
          try simp only [Act.put, List.setIfInBounds_toArray, List.set_cons_zero, List.set_cons_succ]
          refine takeD (i := 13) (v := ?_) 59 rfl rfl (by kernel_rfl) (by kernel_rfl) (by kernel_rfl) (fun _ _ _ h => h) (Or.inl ⟨by rfl, ?_⟩) (by assumption) ?_
          rotate_left 1
          · (intro w hSw; (try dsimp only at hSw); go_simp; (try with_reducible rfl))
          try simp only [Act.put, List.setIfInBounds_toArray, List.set_cons_zero, List.set_cons_succ]
          refine takeD (i := 14) (v := ?_) 13 rfl rfl (by kernel_rfl) (by kernel_rfl) (by kernel_rfl) (fun _ _ _ h => h) (Or.inl ⟨by rfl, ?_⟩) (by assumption) ?_
          rotate_left 1
          · (intro w hSw; (try dsimp only at hSw); go_simp; (try with_reducible rfl))
          try simp only [Act.put, List.setIfInBounds_toArray, List.set_cons_zero, List.set_cons_succ]
          refine takeD (i := 15) (v := ?_) 14 rfl rfl (by kernel_rfl) (by kernel_rfl) (by kernel_rfl) (fun _ _ _ h => h) (Or.inl ⟨by rfl, ?_⟩) (by assumption) ?_
          rotate_left 1
          · (intro w hSw; (try dsimp only at hSw); go_simp; (try with_reducible rfl))
          try simp only [Act.put, List.setIfInBounds_toArray, List.set_cons_zero, List.set_cons_succ]
          refine wpAnyH_done (by kernel_rfl) ?_ _
          clear i1q i2q b1q b2q t1q t2q
          have HNO := hide (runL_none (HSU2.out.trans HMV.out) m0 (by omega))
          have q9 := HT4.out.2.2.2
          go_wp2
          go_returns
          exact mdPost_none HNO.out rfl q9
        · have HMV := hide hmv
          clear hmv
          refine wp_region_held_drew (S := (fun w' => w'.cell? ⟨B, 0, none⟩ = some (.int .i64 (W : Int)) ∧ w'.cell? ⟨B, 1, none⟩ = some (.int .i64 (Hh : Int)) ∧ w'.cell? ⟨B, 2, none⟩ = some (.slice (some ⟨g, 0, none⟩) m cap))) (by kernel_rfl) (by refine ⟨?_, ?_, ?_⟩ <;> assumption) (fun hHeld => ?_)
          refine takeD (i := 0) (v := ?_) 47 rfl rfl (by kernel_rfl) (by kernel_rfl) (by kernel_rfl) (fun _ _ _ h => h) (Or.inl ⟨by rfl, ?_⟩) (by assumption) ?_
          rotate_left 1
          · (intro w hSw; (try dsimp only at hSw); go_simp; (try with_reducible rfl))
          try simp only [Act.put, List.setIfInBounds_toArray, List.set_cons_zero, List.set_cons_succ]
          refine takeD (i := 1) (v := ?_) 48 rfl rfl (by kernel_rfl) (by kernel_rfl) (by kernel_rfl) (fun _ _ _ h => h) (Or.inl ⟨by rfl, ?_⟩) (by assumption) ?_
          rotate_left 1
          · (intro w hSw; (try dsimp only at hSw); go_simp; (try with_reducible rfl))
          try simp only [Act.put, List.setIfInBounds_toArray, List.set_cons_zero, List.set_cons_succ]
          refine takeD (i := 2) (v := ?_) 49 rfl rfl (by kernel_rfl) (by kernel_rfl) (by kernel_rfl) (fun _ _ _ h => h) (Or.inl ⟨by rfl, ?_⟩) (by assumption) ?_
          rotate_left 1
          · (intro w hSw; (try dsimp only at hSw); go_simp; (try with_reducible rfl))
          try simp only [Act.put, List.setIfInBounds_toArray, List.set_cons_zero, List.set_cons_succ]
          refine takeD (i := 3) (v := ?_) 50 rfl rfl (by kernel_rfl) (by kernel_rfl) (by kernel_rfl) (fun _ _ _ h => h) (Or.inl ⟨by rfl, ?_⟩) (by assumption) ?_
          rotate_left 1
          · (intro w hSw; (try dsimp only at hSw); go_simp; (try with_reducible rfl))
          try simp only [Act.put, List.setIfInBounds_toArray, List.set_cons_zero, List.set_cons_succ]
          refine takeD (i := 4) (v := ?_) 51 rfl rfl (by kernel_rfl) (by kernel_rfl) (by kernel_rfl) (fun _ _ _ h => h) (Or.inl ⟨by rfl, ?_⟩) (by assumption) ?_
          rotate_left 1
          · (intro w hSw; (try dsimp only at hSw); go_simp; (try with_reducible rfl))
          try simp only [Act.put, List.setIfInBounds_toArray, List.set_cons_zero, List.set_cons_succ]
          refine takeD (i := 5) (v := ?_) 52 rfl rfl (by kernel_rfl) (by kernel_rfl) (by kernel_rfl) (fun _ _ _ h => h) (Or.inl ⟨by rfl, ?_⟩) (by assumption) ?_
          rotate_left 1
          · (intro w hSw; (try dsimp only at hSw); go_simp; (try with_reducible rfl))
          try simp only [Act.put, List.setIfInBounds_toArray, List.set_cons_zero, List.set_cons_succ]
          refine takeD (i := 6) (v := ?_) 53 rfl rfl (by kernel_rfl) (by kernel_rfl) (by kernel_rfl) (fun _ _ _ h => h) (Or.inl ⟨by rfl, ?_⟩) (by assumption) ?_
          rotate_left 1
          · (intro w hSw; (try dsimp only at hSw); go_simp; (try with_reducible rfl))
          try simp only [Act.put, List.setIfInBounds_toArray, List.set_cons_zero, List.set_cons_succ]
          refine takeD (i := 7) (v := ?_) 54 rfl rfl (by kernel_rfl) (by kernel_rfl) (by kernel_rfl) (fun _ _ _ h => h) (Or.inl ⟨by rfl, ?_⟩) (by assumption) ?_
          rotate_left 1
          · (intro w hSw; (try dsimp only at hSw); go_simp; (try with_reducible rfl))
          try simp only [Act.put, List.setIfInBounds_toArray, List.set_cons_zero, List.set_cons_succ]
          refine takeD (i := 8) (v := ?_) 55 rfl rfl (by kernel_rfl) (by kernel_rfl) (by kernel_rfl) (fun _ _ _ h => h) (Or.inl ⟨by rfl, ?_⟩) (by assumption) ?_
          rotate_left 1
          · (intro w hSw; (try dsimp only at hSw); go_simp; (try with_reducible rfl))
          try simp only [Act.put, List.setIfInBounds_toArray, List.set_cons_zero, List.set_cons_succ]
          refine wpAnyH_ready (rs := [9]) (by kernel_rfl) (by simp) ?_
          refine AllReadyH.cons (o := _) rfl (fun K hK => ?_) AllReadyH.nil
          go_simp
          go_at_call 51
          (with_reducible refine (C1.out _).mono ?_)
          rintro e w3 ⟨rfl, rfl⟩
          dsimp only
          refine hK.out _ _ (by refine ⟨?_, ?_, ?_⟩ <;> assumption) (fun hHeld_1 => ?_)
          clear hK
          try simp only [Act.put, List.setIfInBounds_toArray, List.set_cons_zero, List.set_cons_succ]
          refine wpAnyH_ready (rs := [10]) (by kernel_rfl) (by simp) ?_
          refine AllReadyH.cons (o := _) rfl (fun K hK => ?_) AllReadyH.nil
          go_simp
          go_at_call 42
          (with_reducible refine (myMove_any s.data.toList W Hh m HG.out g cap g5 c5 M n HML.out hnn3 kk hkn HMN.out _ _ HAd.out HDd.out).mono ?_)
          rintro e w4 ⟨vv, rfl, hsome, hnone, hb4⟩
          rw [HMV.out]
          have HT4 := hide (mdI_to hb4 HMD.out rfl rfl rfl rfl)
          have hO := hsome _ HMV.out
          have HO6 := hide (own_mono hO (show w.heap.size ≤ wr.drew.heap.size from hwr))
          obtain ⟨g6, c6, rfl, -, -⟩ := own_form hO (by omega)
          clear hsome hnone hO hb4
          obtain ⟨_, ⟨x0, x1, x2⟩, -⟩ := HT4.out.1.all
          dsimp only
          refine hK.out _ _ (by refine ⟨?_, ?_, ?_⟩ <;> assumption) (fun hHeld_2 => ?_)
          clear hK
          try simp only [Act.put, List.setIfInBounds_toArray, List.set_cons_zero, List.set_cons_succ]
          refine takeD (i := 11) (v := ?_) 46 rfl rfl (by kernel_rfl) (by kernel_rfl) (by kernel_rfl) (fun _ _ _ h => h) (Or.inl ⟨by rfl, ?_⟩) (by assumption) ?_
          rotate_left 1
          · (intro w hSw; (try dsimp only at hSw); go_simp; (try with_reducible rfl))
          try simp only [Act.put, List.setIfInBounds_toArray, List.set_cons_zero, List.set_cons_succ]
          refine takeD (i := 12) (v := ?_) 58 rfl rfl (by kernel_rfl) (by kernel_rfl) (by kernel_rfl) (fun _ _ _ h => h) (Or.inl ⟨by rfl, ?_⟩) (by assumption) ?_
          rotate_left 1
          · (intro w hSw; (try dsimp only at hSw); go_simp; (try with_reducible rfl))
          try simp only [Act.put, List.setIfInBounds_toArray, List.set_cons_zero, List.set_cons_succ]
          refine takeD (i := 13) (v := ?_) 59 rfl rfl (by kernel_rfl) (by kernel_rfl) (by kernel_rfl) (fun _ _ _ h => h) (Or.inl ⟨by rfl, ?_⟩) (by assumption) ?_
          rotate_left 1
          · (intro w hSw; (try dsimp only at hSw); go_simp; (try with_reducible rfl))
          try simp only [Act.put, List.setIfInBounds_toArray, List.set_cons_zero, List.set_cons_succ]
          refine takeD (i := 14) (v := ?_) 13 rfl rfl (by kernel_rfl) (by kernel_rfl) (by kernel_rfl) (fun _ _ _ h => h) (Or.inl ⟨by rfl, ?_⟩) (by assumption) ?_
          rotate_left 1
          · (intro w hSw; (try dsimp only at hSw); go_simp; (try with_reducible rfl))
          try simp only [Act.put, List.setIfInBounds_toArray, List.set_cons_zero, List.set_cons_succ]
          refine takeD (i := 15) (v := ?_) 14 rfl rfl (by kernel_rfl) (by kernel_rfl) (by kernel_rfl) (fun _ _ _ h => h) (Or.inl ⟨by rfl, ?_⟩) (by assumption) ?_
          rotate_left 1
          · (intro w hSw; (try dsimp only at hSw); go_simp; (try with_reducible rfl))
          try simp only [Act.put, List.setIfInBounds_toArray, List.set_cons_zero, List.set_cons_succ]
          refine wpAnyH_done (by kernel_rfl) ?_ _
          clear i1q i2q b1q b2q t1q t2q
          have HR6 := hide (show runL s.data.toList L v.data.toList (k + 1) = some _ from HSU2.out.trans HMV.out)
          go_wp2
          go_roundw
          case rel => exact ⟨k + 1, q + 2, _, _, by omega, by omega, by omega, by go_num, rfl, HR6.out, ⟨HT4.out.1, HT4.out.2.1, HO6.out, HT4.out.2.2.2⟩⟩
          case measure => simp [intOf] <;> omega
      · have hkn' : ¬ (kk : Int) < (n : Int) := by omega
        have hkn2 : (n : Int) ≤ (kk : Int) := by omega
        have HNO := hide (show runL s.data.toList L v.data.toList m0 = none from runL_none (j := k + 1) (by
          rw [HSU2.out]
          unfold mvL
          rw [List.getElem?_eq_none (by have := HML.out; omega)]) m0 (by omega))
        have q9 := HMD.out.2.2.2
        go_wp2
        go_returns
        exact mdPost_none HNO.out rfl q9
    · obtain rfl : k = m0 := by omega
      have q9 := T.2.2.2
      have O9 := T.2.2.1
      clear T
      go_wp2
      go_returns
      exact mdPost_some HRUN.out rfl HML.out O9 q9
end Go.Proofs.YtdndegonpdakkaaDoor
namespace Go.Proofs.YtdndegonpdakkaaDoor
set_option maxRecDepth 100000
set_option linter.all false
open Go.RowKit
attribute [local go_sem ↓] Go.wp_at_zero Go.wp_at_succ

theorem step_load_row {P : Program} {ops : Array Oper} {o : Oper} {a : Act} {w : World} {K : Act → World → Prop} {Q : Exit → Act → World → Prop} {E : Prop} (hgd : o.guard = none) (ty : TypeId) (x : Operand) (ho : o.op = .load ty x)
    (g : Nat) (hx : a.eval x = .pointer (some ⟨g, 0, none⟩)) (t : TypeId) (cs : Array Value) (fr : Nat × Nat) (d : TypeDesc) (hg : w.heap[g]? = some (.cells cs t fr))
    (hu : P.underlying ty = some d) (hd : (match d with | .struct _ | .array _ _ => true | _ => false) = true) (hi : (P.info? ty).map (·.size) = some cs.size)
    (h : K (a.put o.dst (.agg cs)) w) : if Region.wanted o (yielded ops a.tmps) = true then Oper.wp P o a w K Q else E := by
  have hw : Region.wanted o (yielded ops a.tmps) = true := by simp [Region.wanted, hgd]
  rw [if_pos hw]
  exact wp_load_row ty x ho g hx t cs fr d hg hu hd hi h
theorem step_store_row {P : Program} {ops : Array Oper} {o : Oper} {a : Act} {w : World} {K : Act → World → Prop} {Q : Exit → Act → World → Prop} {E : Prop} (hgd : o.guard = none) (ty : TypeId) (x y : Operand) (ho : o.op = .store ty x y)
    (g : Nat) (cells : Array Value) (hx : a.eval x = .pointer (some ⟨g, 0, none⟩)) (hy : a.eval y = .agg cells)
    (t : TypeId) (old : Array Value) (hg : w.heap[g]? = some (.cells old t (0, 0))) (hi : (P.info? ty).map (·.size) = some cells.size)
    (hold : old.size = cells.size) (h1 : cells.all (·.oneCell') = true)
    (h : K (a.put o.dst undef) (w.setRow g cells)) : if Region.wanted o (yielded ops a.tmps) = true then Oper.wp P o a w K Q else E := by
  have hw : Region.wanted o (yielded ops a.tmps) = true := by simp [Region.wanted, hgd]
  rw [if_pos hw]
  exact wp_store_row ty x y ho g cells hx hy t old hg hi hold h1 h
theorem ext_two (s : ByteArray) (p : Nat) (h : p + 1 < s.size) : s.extract p (p + 2) = ⟨#[s[p], s[p + 1]]⟩ := by
  apply ByteArray.ext
  apply Array.ext'
  rw [Lib.extract_data, show p + 2 - p = 2 from by omega, List.drop_eq_getElem_cons (by simp; omega), List.drop_eq_getElem_cons (by simpa using h)]
  rfl
theorem rows_ne_p {w : World} {gR B : Nat} {rs : List ByteArray} {a b c : St} (h : RowsAt w gR rs) (h2 : IsP w B a b c) : gR ≠ B := by
  rintro rfl
  unfold RowsAt at h
  unfold IsP at h2
  rw [h] at h2
  injection h2 with h2
  injection h2 with _ h3
  exact absurd h3 (by decide)

theorem stAt_pd {w : World} {g : Nat} {M : List St} (h : M.length ≤ 3) (hD : StAt w g 0 [pdS M 0, pdS M 1, pdS M 2]) : StAt w g 0 M := by
  have := hD.take M.length
  match M, h with
  | [], _ => exact this
  | [a], _ => exact this
  | [a, b], _ => exact this
  | [a, b, c], _ => exact this
/-- A copy of a slice of states. -/
theorem cloneS_any (L : List St) (n g cap : Nat) (w : World) (hN : n = L.length) (h1 : 1 ≤ n) (hn : n ≤ 3) (hD : StAt w g 0 L) : Calls Tryd.prog 55 #[.slice (some ⟨g, 0, none⟩) n cap] w fun e w' => ∃ v, e = .returned v ∧ w'.ownsRow w.heap.size 57 8 v n (cellsS L) ∧ Below w.heap.size w w' := by
  obtain ⟨i0, hi, hz0, hz1, hz2⟩ := info_parts info_state
  have HI := hide hi
  have HZ0 := hide hz0
  have HZ1 := hide hz1
  have HZ2 := hide hz2
  clear hi hz0 hz1 hz2
  have HE := hide (show (w.alloc (.cells #[] 57)).ownsRow w.heap.size 57 8 (.slice (some ⟨w.heap.size, 0, none⟩) 0 0) 0 [] from World.ownsRow_made (base := w.heap.size) (e := 57) (size := 8) w #[] 0 (Nat.le_refl _) (by unfold maxLen; omega) rfl)
  have hbE : Below w.heap.size w (w.alloc (.cells #[] 57)) := (Below.refl _ _).alloc (Nat.le_refl _) _
  have HSRC := hide (stAt_src (stAt_to (w0 := w) hbE hD rfl))
  have hl8 := hide (show (cellsS L).length = n * 8 from by rw [cellsS_len, hN])
  have hnil : ∀ wx : World, (binOp .eql 26 (.slice (some ⟨g, 0, none⟩) n cap) (.slice none 0 0)).run Tryd.prog wx = .ok (.bool false) wx := fun wx => Go.Lib.run_eql_slice_nil wx _ 57 _ _ _ _ _ Tryd.underlying26
  clear hD hN
  go_enter Tryd.func55, Tryd.ntmps55
  go_wp2_with (at_builtin; refine wpList_append_own _ rfl _ _ 26 rfl w.heap.size 57 i0 (.agg #[.int .i64 0, .int .i64 0, .int .i64 0, .int .i64 0, .int .i64 0, .int .i64 0, .int .i64 0, .int .i64 0]) 8 64 Tryd.underlying26 HI.out HZ0.out HZ1.out HZ2.out rfl (by decide) _ 0 [] rfl HE.out ⟨g, 0, none⟩ n cap (cellsS L) rfl hl8.out HSRC.out (cellsS_one L) (by unfold maxLen; omega) (by omega) (by simp) ?_; intro v5 w5 hown5 hg5 _)
  have q5 := hbE.grown hg5 (by simp) (fun j hj => by
    have : w.heap.size = j := Option.some.inj hj
    omega)
  go_wp2
  go_returns
  exact ⟨_, rfl, by simpa using hown5, q5⟩
set_option maxHeartbeats 800000 in
theorem implMD_bad (s : ByteArray) (u : Value) (v : ByteArray) (w : World) (hs : s.size ≤ 1048576) (hg : Glob w) (h : isBd s.data.toList = false) : Calls Tryd.prog 25 #[.string s, u, .string v] w fun e w' => e = .returned (.tuple #[.slice none 0 0, .bool false]) ∧ Below w.heap.size w w' := by
  have H := hide h
  clear h
  go_enter Tryd.func25, Tryd.ntmps25
  go_wp2_with fail
  refine (rowsUD_bad s u _ hs hg H.out).mono ?_
  rintro e w1 ⟨rfl, q1⟩
  go_wp2
  go_returns
  exact ⟨rfl, q1⟩
set_option maxHeartbeats 800000 in
theorem implMD_off (s : ByteArray) (gd : Nat) (L : List St) (n : Nat) (hN : n = L.length) (v : ByteArray) (w : World) (hs : s.size ≤ 1048576) (hg : Glob w) (hD : StAt w gd 0 L) (h : isBd s.data.toList = true) (h2 : tog s.data.toList L = false) : Calls Tryd.prog 25 #[.string s, .slice (some ⟨gd, 0, none⟩) n n, .string v] w fun e w' => e = .returned (.tuple #[.slice none 0 0, .bool false]) ∧ Below w.heap.size w w' := by
  have H := hide h
  have H2 := hide h2
  have HN := hide hN
  have HD := hide hD
  clear h h2 hN hD
  go_enter Tryd.func25, Tryd.ntmps25
  go_wp2_with fail
  refine (rowsUD_off s gd L n HN.out _ hs hg HD.out H.out H2.out).mono ?_
  rintro e w1 ⟨rfl, q1⟩
  go_wp2
  go_returns
  exact ⟨rfl, q1⟩
set_option maxHeartbeats 800000 in
theorem implMD_plan (s : ByteArray) (gd : Nat) (L : List St) (n : Nat) (hN : n = L.length) (v : ByteArray) (w : World) (hs : s.size ≤ 1048576) (hv : v.size ≤ maxLen) (hg : Glob w) (hD : StAt w gd 0 L) (h : isBd s.data.toList = true) (h2 : tog s.data.toList L = true) (h3 : isPl v.data.toList = false) : Calls Tryd.prog 25 #[.string s, .slice (some ⟨gd, 0, none⟩) n n, .string v] w fun e w' => e = .returned (.tuple #[.slice none 0 0, .bool false]) ∧ Below w.heap.size w w' := by
  have H := hide h
  have H2 := hide h2
  have H3 := hide h3
  have HN := hide hN
  have HD := hide hD
  clear h h2 h3 hN hD
  go_enter Tryd.func25, Tryd.ntmps25
  go_wp2_with fail
  refine (rowsUD_on s gd L n HN.out _ hs hg HD.out H.out H2.out).mono ?_
  rintro e w1 ⟨gR, rfl, hR, q1⟩
  clear hR
  go_wp2_with fail
  refine (isPlan_any v _ hv).mono ?_
  rintro e w2 ⟨rfl, rfl⟩
  rw [H3.out]
  go_wp2
  go_returns
  exact ⟨rfl, q1⟩

/-- What holds at the loop's head of the program's MoveDice. -/
def MdJ (w wr : World) (B gR : Nat) (s : ByteArray) (M : List St) : Prop := RowsAt wr gR (rowsB s) ∧ IsP wr B (pdS M 0) (pdS M 1) (pdS M 2) ∧ Below w.heap.size w wr
theorem mdJ_to {w wr w0 w1 : World} {B gR : Nat} {s : ByteArray} {M : List St} (hb : Below w0.heap.size w0 w1) (h : MdJ w wr B gR s M) (e : w0.heap = wr.heap) (e2 : w0.os = wr.os) (e3 : w0.tape = wr.tape) (e4 : w0.output = wr.output) : MdJ w w1 B gR s M :=
  ⟨rowsAt_to hb h.1 e, isP_to hb h.2.1 e, below_to hb h.2.2 h.2.2.size e e2 e3 e4⟩
set_option maxHeartbeats 4000000 in
theorem implMD_run (s : ByteArray) (gd : Nat) (L : List St) (n : Nat) (hN : n = L.length) (v : ByteArray) (w : World) (hs : s.size ≤ 1048576) (hv : v.size ≤ maxLen) (hg : Glob w) (hD : StAt w gd 0 L) (h : isBd s.data.toList = true) (h2 : tog s.data.toList L = true) (h3 : isPl v.data.toList = true) : Calls Tryd.prog 25 #[.string s, .slice (some ⟨gd, 0, none⟩) n n, .string v] w (MdPost (runL s.data.toList L v.data.toList (v.size / 2)) w) := by
  obtain ⟨n1, n3, hall⟩ := tog_facts h2
  have hnear : ∀ (i : Nat) (u : St), L[i]? = some u → nearS u := fun i u hi => floor_near h (Bool.and_eq_true_iff.1 (hall i u hi).1).1
  have HF := hide (fun (k : Nat) (M : List St) (hk : runL s.data.toList L v.data.toList k = some M) => runL_facts h hnear hk)
  obtain ⟨m0, hm0⟩ : ∃ m0, m0 = v.size / 2 := ⟨_, rfl⟩
  have hpl := isPl_len2 h3
  have hv2 : v.size = 2 * m0 := by have := hpl.2.1; simp at this; omega
  have hv120 : v.size ≤ 120 := by have := hpl.1; simpa using this
  have HPL := hide (show ∀ j, j < m0 → plAt v.data.toList j = true from fun j hj => hpl.2.2 j (by simp; omega))
  rw [← hm0]
  have hle : 2 * m0 ≤ v.size := by omega
  have hge : v.size ≤ 2 * m0 := by omega
  clear hm0 hpl hv2 hnear hall
  have hnn1 : 1 ≤ n := by omega
  have hnn3 : n ≤ 3 := by omega
  have H := hide h
  have H2 := hide h2
  have H3 := hide h3
  have HN := hide hN
  have HD := hide hD
  clear h h2 h3 hN hD n1 n3
  go_enter Tryd.func25, Tryd.ntmps25
  go_wp2_with fail
  refine (rowsUD_on s gd L n HN.out _ hs hg HD.out H.out H2.out).mono ?_
  rintro e w1 ⟨gR, rfl, hR, q1⟩
  have HR1 := hide hR
  clear hR
  have D1 := hide (stAt_to (w0 := w) q1 HD.out rfl)
  go_wp2_with fail
  refine (isPlan_any v _ hv).mono ?_
  rintro e w2 ⟨rfl, rfl⟩
  rw [H3.out]
  go_wp2_with fail
  refine (groupOf_any L n gd HN.out _ D1.out).mono ?_
  rintro e w2 ⟨rfl, hb2⟩
  have q2 := below_to hb2 q1 q1.size rfl rfl rfl rfl
  have R2 := rowsAt_to hb2 HR1.out rfl
  clear hb2 q1
  have qa := q2.alloc q2.size (.cells #[.int .i64 0, .int .i64 0, .int .i64 0, .int .i64 0, .int .i64 0, .int .i64 0, .int .i64 0, .int .i64 0, .int .i64 0, .int .i64 0, .int .i64 0, .int .i64 0, .int .i64 0, .int .i64 0, .int .i64 0, .int .i64 0, .int .i64 0, .int .i64 0, .int .i64 0, .int .i64 0, .int .i64 0, .int .i64 0, .int .i64 0, .int .i64 0] 70)
  have Ra := rowsAt_to (w0 := w2) ((Below.refl _ _).alloc (Nat.le_refl _) (.cells #[.int .i64 0, .int .i64 0, .int .i64 0, .int .i64 0, .int .i64 0, .int .i64 0, .int .i64 0, .int .i64 0, .int .i64 0, .int .i64 0, .int .i64 0, .int .i64 0, .int .i64 0, .int .i64 0, .int .i64 0, .int .i64 0, .int .i64 0, .int .i64 0, .int .i64 0, .int .i64 0, .int .i64 0, .int .i64 0, .int .i64 0, .int .i64 0] 70)) R2 rfl
  have Pa := IsP.new (w := w2) (a := ⟨0, 0, ⟨0, 0, 0, 0, 0, 0⟩⟩) (b := ⟨0, 0, ⟨0, 0, 0, 0, 0, 0⟩⟩) (c := ⟨0, 0, ⟨0, 0, 0, 0, 0, 0⟩⟩)
  have hB0 : w.heap.size ≤ w2.heap.size := q2.size
  have HPa := hide Pa
  have hne := rows_ne_p Ra Pa
  obtain ⟨a0, ha0⟩ : ∃ a, a = pdS L 0 := ⟨_, rfl⟩
  obtain ⟨b0, hb0⟩ : ∃ b, b = pdS L 1 := ⟨_, rfl⟩
  obtain ⟨c0, hc0⟩ : ∃ c, c = pdS L 2 := ⟨_, rfl⟩
  rw [← ha0, ← hb0, ← hc0]
  have HSW := hide (World.setRow_alloc_new w2 #[.int .i64 0, .int .i64 0, .int .i64 0, .int .i64 0, .int .i64 0, .int .i64 0, .int .i64 0, .int .i64 0, .int .i64 0, .int .i64 0, .int .i64 0, .int .i64 0, .int .i64 0, .int .i64 0, .int .i64 0, .int .i64 0, .int .i64 0, .int .i64 0, .int .i64 0, .int .i64 0, .int .i64 0, .int .i64 0, .int .i64 0, .int .i64 0] #[.int .i64 a0.x, .int .i64 a0.y, .int .i64 a0.d.t, .int .i64 a0.d.n, .int .i64 a0.d.e, .int .i64 a0.d.s, .int .i64 a0.d.w, .int .i64 a0.d.b, .int .i64 b0.x, .int .i64 b0.y, .int .i64 b0.d.t, .int .i64 b0.d.n, .int .i64 b0.d.e, .int .i64 b0.d.s, .int .i64 b0.d.w, .int .i64 b0.d.b, .int .i64 c0.x, .int .i64 c0.y, .int .i64 c0.d.t, .int .i64 c0.d.n, .int .i64 c0.d.e, .int .i64 c0.d.s, .int .i64 c0.d.w, .int .i64 c0.d.b] 70)
  have HT := hide (show MdJ w (w2.alloc (.cells #[.int .i64 a0.x, .int .i64 a0.y, .int .i64 a0.d.t, .int .i64 a0.d.n, .int .i64 a0.d.e, .int .i64 a0.d.s, .int .i64 a0.d.w, .int .i64 a0.d.b, .int .i64 b0.x, .int .i64 b0.y, .int .i64 b0.d.t, .int .i64 b0.d.n, .int .i64 b0.d.e, .int .i64 b0.d.s, .int .i64 b0.d.w, .int .i64 b0.d.b, .int .i64 c0.x, .int .i64 c0.y, .int .i64 c0.d.t, .int .i64 c0.d.n, .int .i64 c0.d.e, .int .i64 c0.d.s, .int .i64 c0.d.w, .int .i64 c0.d.b] 70)) w2.heap.size gR s L from
    ⟨rowsAt_to (w0 := w2) ((Below.refl _ _).alloc (Nat.le_refl _) _) R2 rfl, by rw [← ha0, ← hb0, ← hc0]; exact IsP.new, q2.alloc q2.size _⟩)
  clear ha0 hb0 hc0 Ra qa Pa R2 q2 D1
  go_wp2_with (refine wpList_store_row rfl 70 (.tmp 10) (.tmp 26) rfl w2.heap.size #[.int .i64 a0.x, .int .i64 a0.y, .int .i64 a0.d.t, .int .i64 a0.d.n, .int .i64 a0.d.e, .int .i64 a0.d.s, .int .i64 a0.d.w, .int .i64 a0.d.b, .int .i64 b0.x, .int .i64 b0.y, .int .i64 b0.d.t, .int .i64 b0.d.n, .int .i64 b0.d.e, .int .i64 b0.d.s, .int .i64 b0.d.w, .int .i64 b0.d.b, .int .i64 c0.x, .int .i64 c0.y, .int .i64 c0.d.t, .int .i64 c0.d.n, .int .i64 c0.d.e, .int .i64 c0.d.s, .int .i64 c0.d.w, .int .i64 c0.d.b] rfl rfl _ _ HPa.out (by kernel_rfl) (by kernel_rfl) (by kernel_rfl) ?_)
  rw [HSW.out]
  obtain ⟨B, hB⟩ : ∃ B, B = w2.heap.size := ⟨_, rfl⟩
  rw [← hB] at HT hB0 hne
  rw [← hB]
  generalize w2.alloc (.cells #[.int .i64 a0.x, .int .i64 a0.y, .int .i64 a0.d.t, .int .i64 a0.d.n, .int .i64 a0.d.e, .int .i64 a0.d.s, .int .i64 a0.d.w, .int .i64 a0.d.b, .int .i64 b0.x, .int .i64 b0.y, .int .i64 b0.d.t, .int .i64 b0.d.n, .int .i64 b0.d.e, .int .i64 b0.d.s, .int .i64 b0.d.w, .int .i64 b0.d.b, .int .i64 c0.x, .int .i64 c0.y, .int .i64 c0.d.t, .int .i64 c0.d.n, .int .i64 c0.d.e, .int .i64 c0.d.s, .int .i64 c0.d.w, .int .i64 c0.d.b] 70) = W2 at HT ⊢
  clear HSW HPa hB
  go_loopw [9, 11] (fun _ i wr => ∃ (k q : Nat) (M : List St), k ≤ m0 ∧ q ≤ 2 * k ∧ 2 * k ≤ q ∧ i = .int .i64 (q : Int) ∧ runL s.data.toList L v.data.toList k = some M ∧ MdJ w wr B gR s M) (fun _ i _ => v.size - (intOf i).toNat)
  case atStart => exact ⟨0, 0, L, Nat.zero_le _, Nat.le_refl _, Nat.le_refl _, rfl, rfl, HT.out⟩
  case round =>
    obtain ⟨k, q, M, hk, hq1, hq2, rfl, hrun, T⟩ := hrel
    clear HT
    obtain ⟨hMl, hMn⟩ := HF.out k M hrun
    have HMN := hide hMn
    have HML := hide (show n = M.length from by rw [hMl]; exact HN.out)
    have HRUN := hide hrun
    clear hMl hMn hrun
    by_cases hlt : q < v.size
    · have hp1 : q + 1 < v.size := by omega
      have hpl := HPL.out k (by omega)
      have hqk : q = 2 * k := by omega
      have hix : 48 ≤ v[q].toNat ∧ v[q].toNat ≤ 50 := by
        subst hqk
        exact plAt_ix hpl hp1
      have HDI := hide (show 0 ≤ dirIx v[q + 1].toNat from by
        subst hqk
        exact plAt_dir2 hpl hp1)
      have HSU := hide (show runL s.data.toList L v.data.toList (k + 1) = mvL s.data.toList M (v[q].toNat - 48) (dirIx v[q + 1].toNat) from by
        rw [runL_succ HRUN.out, ← hqk, getD_at v q hlt, getD_at v (q + 1) hp1])
      clear hqk hpl
      obtain ⟨hi1, hi2⟩ := hix
      obtain ⟨kk, hkk⟩ : ∃ kk : Nat, v[q].toNat = 48 + kk := ⟨v[q].toNat - 48, by omega⟩
      have hkk3 : kk < 3 := by omega
      have HSU2 := hide (show runL s.data.toList L v.data.toList (k + 1) = mvL s.data.toList M kk (dirIx v[q + 1].toNat) from by rw [HSU.out, hkk, Nat.add_sub_cancel_left])
      have HKK := hide hkk
      clear hkk hi1 hi2 HSU
      have HE2 := hide (ext_two v q hp1)
      have hq0 : (0 : Int) ≤ (q : Int) := by omega
      have hqv : (q : Int) < (v.size : Int) := by omega
      have hqv2 : (q : Int) + 2 ≤ (v.size : Int) := by omega
      have b2q : (0 : Int) ≤ (q : Int) + 2 := by omega
      have b3q : (q : Int) ≤ (q : Int) + 2 := by omega
      have t2q : ((q : Int) + 2).toNat = q + 2 := by omega
      have i2q : IntKind.i64.wrap ((q : Int) + 2) = ((q + 2 : Nat) : Int) := by have := IntWalk.i64_in ((q : Int) + 2) (by omega); omega
      have HMO := hide (fun (wx : World) (hx : RowsAt wx gR (rowsB s)) => moveOn_any s gR wx hx)
      have HMV := hide (fun (wx : World) (Br : Nat) (hR : RowsBox wx Br gR s) => mv_any M (by have := HML.out; omega) HMN.out kk hkk3 v[q] v[q + 1] HKK.out Br gR s wx hs H.out HDI.out hR)
      have HMD := hide T
      have HR0 := hide (show RowsAt wr.drew gR (rowsB s) from T.1)
      clear T
      obtain ⟨a, ha⟩ : ∃ a, a = pdS M 0 := ⟨_, rfl⟩
      obtain ⟨b, hb⟩ : ∃ b, b = pdS M 1 := ⟨_, rfl⟩
      obtain ⟨c, hc⟩ : ∃ c, c = pdS M 2 := ⟨_, rfl⟩
      have HABC := hide (⟨ha, hb, hc⟩ : a = pdS M 0 ∧ b = pdS M 1 ∧ c = pdS M 2)
      have HP0 := hide (show IsP wr.drew B a b c from by rw [ha, hb, hc]; exact HMD.out.2.1)
      clear ha hb hc
      go_upto_region 8 with (fail)
      rcases hmv : mvL s.data.toList M kk (dirIx v[q + 1].toNat) with _ | M2
      · have HMVV := hide hmv
        clear hmv
        refine wp_region_held_drew (S := (fun _ => True)) (by kernel_rfl) trivial (fun hHeld => ?_)
        refine takeD (i := 0) (v := ?_) 34 rfl rfl (by kernel_rfl) (by kernel_rfl) (by kernel_rfl) (fun _ _ _ h => h) (Or.inl ⟨by rfl, ?_⟩) trivial ?_
        rotate_left 1
        · (intro w hSw; go_simp; (try with_reducible rfl))
        try simp only [Act.put, List.setIfInBounds_toArray, List.set_cons_zero, List.set_cons_succ]
        refine takeD (i := 3) (v := ?_) 37 rfl rfl (by kernel_rfl) (by kernel_rfl) (by kernel_rfl) (fun _ _ _ h => h) (Or.inl ⟨by rfl, ?_⟩) trivial ?_
        rotate_left 1
        · (intro w hSw; go_simp; (try with_reducible rfl))
        try simp only [Act.put, List.setIfInBounds_toArray, List.set_cons_zero, List.set_cons_succ]
        refine takeD (i := 4) (v := ?_) 38 rfl rfl (by kernel_rfl) (by kernel_rfl) (by kernel_rfl) (fun _ _ _ h => h) (Or.inl ⟨by rfl, ?_⟩) trivial ?_
        rotate_left 1
        · (intro w hSw; go_simp; (try with_reducible rfl))
        try simp only [Act.put, List.setIfInBounds_toArray, List.set_cons_zero, List.set_cons_succ]
        refine takeD (i := 5) (v := ?_) 39 rfl rfl (by kernel_rfl) (by kernel_rfl) (by kernel_rfl) (fun _ _ _ h => h) (Or.inl ⟨by rfl, ?_⟩) trivial ?_
        rotate_left 1
        · (intro w hSw; go_simp; (try with_reducible rfl))
        try simp only [Act.put, List.setIfInBounds_toArray, List.set_cons_zero, List.set_cons_succ]
        refine takeD (i := 6) (v := ?_) 40 rfl rfl (by kernel_rfl) (by kernel_rfl) (by kernel_rfl) (fun _ _ _ h => h) (Or.inl ⟨by rfl, ?_⟩) trivial ?_
        rotate_left 1
        · (intro w hSw; go_simp; (try with_reducible rfl))
        try simp only [Act.put, List.setIfInBounds_toArray, List.set_cons_zero, List.set_cons_succ]
        refine takeD (i := 7) (v := ?_) 41 rfl rfl (by kernel_rfl) (by kernel_rfl) (by kernel_rfl) (fun _ _ _ h => h) (Or.inl ⟨by rfl, ?_⟩) trivial ?_
        rotate_left 1
        · (intro w hSw; go_simp; (try with_reducible rfl))
        try simp only [Act.put, List.setIfInBounds_toArray, List.set_cons_zero, List.set_cons_succ]
        refine wpAnyH_ready (rs := [1, 2]) (by kernel_rfl) (by simp) ?_
        refine AllReadyH.cons (o := _) rfl (fun K hK => ?_) (AllReadyH.cons (o := _) rfl (fun K hK => ?_) AllReadyH.nil)
        · skip
          go_simp
          go_at_call 48
          (with_reducible refine (HMO.out _ HR0.out).mono ?_)
          rintro e w3 ⟨Br, rfl, hRB, hb3⟩
          have HRB := hide hRB
          have HT3 := hide (mdJ_to hb3 HMD.out rfl rfl rfl rfl)
          have HP3 := hide (isP_to hb3 HP0.out rfl)
          clear hb3 hRB
          dsimp only
          refine hK.out _ _ trivial (fun _ => ?_)
          clear hK
          try simp only [Act.put, List.setIfInBounds_toArray, List.set_cons_zero, List.set_cons_succ]
          refine wpAnyH_ready (rs := [2]) (by kernel_rfl) (by simp) ?_
          refine AllReadyH.cons (o := _) rfl (fun K hK => ?_) AllReadyH.nil
          refine step_load_row rfl 70 (.tmp 10) rfl B rfl _ _ _ _ HP3.out und_group rfl size_group ?_
          refine hK.out _ _ trivial (fun _ => ?_)
          clear hK
          try simp only [Act.put, List.setIfInBounds_toArray, List.set_cons_zero, List.set_cons_succ]
          refine wpAnyH_ready (rs := [8]) (by kernel_rfl) (by simp) ?_
          refine AllReadyH.cons (o := _) rfl (fun K hK => ?_) AllReadyH.nil
          go_simp
          rw [HE2.out]
          have hRBd := HRB.out
          rw [HABC.out.1, HABC.out.2.1, HABC.out.2.2]
          go_at_call 72
          (refine (HMV.out _ Br HRB.out).mono ?_)
          rintro e w4 ⟨rfl, hb4⟩
          rw [HMVV.out]
          have HT4 := hide (mdJ_to hb4 HT3.out rfl rfl rfl rfl)
          have HP4 := hide HT4.out.2.1
          clear hb4 hRBd
          dsimp only
          refine hK.out _ _ trivial (fun _ => ?_)
          clear hK
          try simp only [Act.put, List.setIfInBounds_toArray, List.set_cons_zero, List.set_cons_succ]
          refine takeD (i := 9) (v := ?_) 33 rfl rfl (by kernel_rfl) (by kernel_rfl) (by kernel_rfl) (fun _ _ _ h => h) (Or.inl ⟨by rfl, ?_⟩) trivial ?_
          rotate_left 1
          · (intro w hSw; go_simp; (try with_reducible rfl))
          try simp only [Act.put, List.setIfInBounds_toArray, List.set_cons_zero, List.set_cons_succ]
          refine takeD (i := 10) (v := ?_) 43 rfl rfl (by kernel_rfl) (by kernel_rfl) (by kernel_rfl) (fun _ _ _ h => h) (Or.inl ⟨by rfl, ?_⟩) trivial ?_
          rotate_left 1
          · (intro w hSw; go_simp; (try with_reducible rfl))
          try simp only [Act.put, List.setIfInBounds_toArray, List.set_cons_zero, List.set_cons_succ]
          refine takeD (i := 11) (v := ?_) 44 rfl rfl (by kernel_rfl) (by kernel_rfl) (by kernel_rfl) (fun _ _ _ h => h) (Or.inl ⟨by rfl, ?_⟩) trivial ?_
          rotate_left 1
          · (intro w hSw; go_simp; (try with_reducible rfl))
          try simp only [Act.put, List.setIfInBounds_toArray, List.set_cons_zero, List.set_cons_succ]
          refine wpAnyH_ready (rs := [12]) (by kernel_rfl) (by simp) ?_
          refine AllReadyH.cons (o := _) rfl (fun K hK => ?_) AllReadyH.nil
          refine step_store_row rfl 70 (.tmp 10) (.tmp 43) rfl B #[.int .i64 0, .int .i64 0, .int .i64 0, .int .i64 0, .int .i64 0, .int .i64 0, .int .i64 0, .int .i64 0, .int .i64 0, .int .i64 0, .int .i64 0, .int .i64 0, .int .i64 0, .int .i64 0, .int .i64 0, .int .i64 0, .int .i64 0, .int .i64 0, .int .i64 0, .int .i64 0, .int .i64 0, .int .i64 0, .int .i64 0, .int .i64 0] rfl rfl _ _ HP4.out (by kernel_rfl) (by kernel_rfl) (by kernel_rfl) ?_
          refine hK.out _ _ trivial (fun _ => ?_)
          clear hK
          try simp only [Act.put, List.setIfInBounds_toArray, List.set_cons_zero, List.set_cons_succ]
          refine takeD (i := 13) (v := ?_) 9 rfl rfl (by kernel_rfl) (by kernel_rfl) (by kernel_rfl) (fun _ _ _ h => h) (Or.inl ⟨by rfl, ?_⟩) trivial ?_
          rotate_left 1
          · (intro w hSw; go_simp; (try with_reducible rfl))
          try simp only [Act.put, List.setIfInBounds_toArray, List.set_cons_zero, List.set_cons_succ]
          refine wpAnyH_done (by kernel_rfl) ?_ _
          have q5 := hide (below_setRow HT4.out.2.2 hB0 #[.int .i64 0, .int .i64 0, .int .i64 0, .int .i64 0, .int .i64 0, .int .i64 0, .int .i64 0, .int .i64 0, .int .i64 0, .int .i64 0, .int .i64 0, .int .i64 0, .int .i64 0, .int .i64 0, .int .i64 0, .int .i64 0, .int .i64 0, .int .i64 0, .int .i64 0, .int .i64 0, .int .i64 0, .int .i64 0, .int .i64 0, .int .i64 0])
          have HNO := hide (runL_none (HSU2.out.trans HMVV.out) m0 (by omega))
          generalize w4.setRow B #[.int .i64 0, .int .i64 0, .int .i64 0, .int .i64 0, .int .i64 0, .int .i64 0, .int .i64 0, .int .i64 0, .int .i64 0, .int .i64 0, .int .i64 0, .int .i64 0, .int .i64 0, .int .i64 0, .int .i64 0, .int .i64 0, .int .i64 0, .int .i64 0, .int .i64 0, .int .i64 0, .int .i64 0, .int .i64 0, .int .i64 0, .int .i64 0] = W5 at q5 ⊢
          go_wp2
          go_returns
          exact mdPost_none HNO.out rfl q5.out
        · skip
          refine step_load_row rfl 70 (.tmp 10) rfl B rfl _ _ _ _ HP0.out und_group rfl size_group ?_
          refine hK.out _ _ trivial (fun _ => ?_)
          clear hK
          try simp only [Act.put, List.setIfInBounds_toArray, List.set_cons_zero, List.set_cons_succ]
          refine wpAnyH_ready (rs := [1]) (by kernel_rfl) (by simp) ?_
          refine AllReadyH.cons (o := _) rfl (fun K hK => ?_) AllReadyH.nil
          go_simp
          go_at_call 48
          (with_reducible refine (HMO.out _ HR0.out).mono ?_)
          rintro e w3 ⟨Br, rfl, hRB, hb3⟩
          have HRB := hide hRB
          have HT3 := hide (mdJ_to hb3 HMD.out rfl rfl rfl rfl)
          have HP3 := hide (isP_to hb3 HP0.out rfl)
          clear hb3 hRB
          dsimp only
          refine hK.out _ _ trivial (fun _ => ?_)
          clear hK
          try simp only [Act.put, List.setIfInBounds_toArray, List.set_cons_zero, List.set_cons_succ]
          refine wpAnyH_ready (rs := [8]) (by kernel_rfl) (by simp) ?_
          refine AllReadyH.cons (o := _) rfl (fun K hK => ?_) AllReadyH.nil
          go_simp
          rw [HE2.out]
          have hRBd := HRB.out
          rw [HABC.out.1, HABC.out.2.1, HABC.out.2.2]
          go_at_call 72
          (refine (HMV.out _ Br HRB.out).mono ?_)
          rintro e w4 ⟨rfl, hb4⟩
          rw [HMVV.out]
          have HT4 := hide (mdJ_to hb4 HT3.out rfl rfl rfl rfl)
          have HP4 := hide HT4.out.2.1
          clear hb4 hRBd
          dsimp only
          refine hK.out _ _ trivial (fun _ => ?_)
          clear hK
          try simp only [Act.put, List.setIfInBounds_toArray, List.set_cons_zero, List.set_cons_succ]
          refine takeD (i := 9) (v := ?_) 33 rfl rfl (by kernel_rfl) (by kernel_rfl) (by kernel_rfl) (fun _ _ _ h => h) (Or.inl ⟨by rfl, ?_⟩) trivial ?_
          rotate_left 1
          · (intro w hSw; go_simp; (try with_reducible rfl))
          try simp only [Act.put, List.setIfInBounds_toArray, List.set_cons_zero, List.set_cons_succ]
          refine takeD (i := 10) (v := ?_) 43 rfl rfl (by kernel_rfl) (by kernel_rfl) (by kernel_rfl) (fun _ _ _ h => h) (Or.inl ⟨by rfl, ?_⟩) trivial ?_
          rotate_left 1
          · (intro w hSw; go_simp; (try with_reducible rfl))
          try simp only [Act.put, List.setIfInBounds_toArray, List.set_cons_zero, List.set_cons_succ]
          refine takeD (i := 11) (v := ?_) 44 rfl rfl (by kernel_rfl) (by kernel_rfl) (by kernel_rfl) (fun _ _ _ h => h) (Or.inl ⟨by rfl, ?_⟩) trivial ?_
          rotate_left 1
          · (intro w hSw; go_simp; (try with_reducible rfl))
          try simp only [Act.put, List.setIfInBounds_toArray, List.set_cons_zero, List.set_cons_succ]
          refine wpAnyH_ready (rs := [12]) (by kernel_rfl) (by simp) ?_
          refine AllReadyH.cons (o := _) rfl (fun K hK => ?_) AllReadyH.nil
          refine step_store_row rfl 70 (.tmp 10) (.tmp 43) rfl B #[.int .i64 0, .int .i64 0, .int .i64 0, .int .i64 0, .int .i64 0, .int .i64 0, .int .i64 0, .int .i64 0, .int .i64 0, .int .i64 0, .int .i64 0, .int .i64 0, .int .i64 0, .int .i64 0, .int .i64 0, .int .i64 0, .int .i64 0, .int .i64 0, .int .i64 0, .int .i64 0, .int .i64 0, .int .i64 0, .int .i64 0, .int .i64 0] rfl rfl _ _ HP4.out (by kernel_rfl) (by kernel_rfl) (by kernel_rfl) ?_
          refine hK.out _ _ trivial (fun _ => ?_)
          clear hK
          try simp only [Act.put, List.setIfInBounds_toArray, List.set_cons_zero, List.set_cons_succ]
          refine takeD (i := 13) (v := ?_) 9 rfl rfl (by kernel_rfl) (by kernel_rfl) (by kernel_rfl) (fun _ _ _ h => h) (Or.inl ⟨by rfl, ?_⟩) trivial ?_
          rotate_left 1
          · (intro w hSw; go_simp; (try with_reducible rfl))
          try simp only [Act.put, List.setIfInBounds_toArray, List.set_cons_zero, List.set_cons_succ]
          refine wpAnyH_done (by kernel_rfl) ?_ _
          have q5 := hide (below_setRow HT4.out.2.2 hB0 #[.int .i64 0, .int .i64 0, .int .i64 0, .int .i64 0, .int .i64 0, .int .i64 0, .int .i64 0, .int .i64 0, .int .i64 0, .int .i64 0, .int .i64 0, .int .i64 0, .int .i64 0, .int .i64 0, .int .i64 0, .int .i64 0, .int .i64 0, .int .i64 0, .int .i64 0, .int .i64 0, .int .i64 0, .int .i64 0, .int .i64 0, .int .i64 0])
          have HNO := hide (runL_none (HSU2.out.trans HMVV.out) m0 (by omega))
          generalize w4.setRow B #[.int .i64 0, .int .i64 0, .int .i64 0, .int .i64 0, .int .i64 0, .int .i64 0, .int .i64 0, .int .i64 0, .int .i64 0, .int .i64 0, .int .i64 0, .int .i64 0, .int .i64 0, .int .i64 0, .int .i64 0, .int .i64 0, .int .i64 0, .int .i64 0, .int .i64 0, .int .i64 0, .int .i64 0, .int .i64 0, .int .i64 0, .int .i64 0] = W5 at q5 ⊢
          go_wp2
          go_returns
          exact mdPost_none HNO.out rfl q5.out
      · have HMVV := hide hmv
        clear hmv
        refine wp_region_held_drew (S := (fun _ => True)) (by kernel_rfl) trivial (fun hHeld => ?_)
        refine takeD (i := 0) (v := ?_) 34 rfl rfl (by kernel_rfl) (by kernel_rfl) (by kernel_rfl) (fun _ _ _ h => h) (Or.inl ⟨by rfl, ?_⟩) trivial ?_
        rotate_left 1
        · (intro w hSw; go_simp; (try with_reducible rfl))
        try simp only [Act.put, List.setIfInBounds_toArray, List.set_cons_zero, List.set_cons_succ]
        refine takeD (i := 3) (v := ?_) 37 rfl rfl (by kernel_rfl) (by kernel_rfl) (by kernel_rfl) (fun _ _ _ h => h) (Or.inl ⟨by rfl, ?_⟩) trivial ?_
        rotate_left 1
        · (intro w hSw; go_simp; (try with_reducible rfl))
        try simp only [Act.put, List.setIfInBounds_toArray, List.set_cons_zero, List.set_cons_succ]
        refine takeD (i := 4) (v := ?_) 38 rfl rfl (by kernel_rfl) (by kernel_rfl) (by kernel_rfl) (fun _ _ _ h => h) (Or.inl ⟨by rfl, ?_⟩) trivial ?_
        rotate_left 1
        · (intro w hSw; go_simp; (try with_reducible rfl))
        try simp only [Act.put, List.setIfInBounds_toArray, List.set_cons_zero, List.set_cons_succ]
        refine takeD (i := 5) (v := ?_) 39 rfl rfl (by kernel_rfl) (by kernel_rfl) (by kernel_rfl) (fun _ _ _ h => h) (Or.inl ⟨by rfl, ?_⟩) trivial ?_
        rotate_left 1
        · (intro w hSw; go_simp; (try with_reducible rfl))
        try simp only [Act.put, List.setIfInBounds_toArray, List.set_cons_zero, List.set_cons_succ]
        refine takeD (i := 6) (v := ?_) 40 rfl rfl (by kernel_rfl) (by kernel_rfl) (by kernel_rfl) (fun _ _ _ h => h) (Or.inl ⟨by rfl, ?_⟩) trivial ?_
        rotate_left 1
        · (intro w hSw; go_simp; (try with_reducible rfl))
        try simp only [Act.put, List.setIfInBounds_toArray, List.set_cons_zero, List.set_cons_succ]
        refine takeD (i := 7) (v := ?_) 41 rfl rfl (by kernel_rfl) (by kernel_rfl) (by kernel_rfl) (fun _ _ _ h => h) (Or.inl ⟨by rfl, ?_⟩) trivial ?_
        rotate_left 1
        · (intro w hSw; go_simp; (try with_reducible rfl))
        try simp only [Act.put, List.setIfInBounds_toArray, List.set_cons_zero, List.set_cons_succ]
        refine wpAnyH_ready (rs := [1, 2]) (by kernel_rfl) (by simp) ?_
        refine AllReadyH.cons (o := _) rfl (fun K hK => ?_) (AllReadyH.cons (o := _) rfl (fun K hK => ?_) AllReadyH.nil)
        · skip
          go_simp
          go_at_call 48
          (with_reducible refine (HMO.out _ HR0.out).mono ?_)
          rintro e w3 ⟨Br, rfl, hRB, hb3⟩
          have HRB := hide hRB
          have HT3 := hide (mdJ_to hb3 HMD.out rfl rfl rfl rfl)
          have HP3 := hide (isP_to hb3 HP0.out rfl)
          clear hb3 hRB
          dsimp only
          refine hK.out _ _ trivial (fun _ => ?_)
          clear hK
          try simp only [Act.put, List.setIfInBounds_toArray, List.set_cons_zero, List.set_cons_succ]
          refine wpAnyH_ready (rs := [2]) (by kernel_rfl) (by simp) ?_
          refine AllReadyH.cons (o := _) rfl (fun K hK => ?_) AllReadyH.nil
          refine step_load_row rfl 70 (.tmp 10) rfl B rfl _ _ _ _ HP3.out und_group rfl size_group ?_
          refine hK.out _ _ trivial (fun _ => ?_)
          clear hK
          try simp only [Act.put, List.setIfInBounds_toArray, List.set_cons_zero, List.set_cons_succ]
          refine wpAnyH_ready (rs := [8]) (by kernel_rfl) (by simp) ?_
          refine AllReadyH.cons (o := _) rfl (fun K hK => ?_) AllReadyH.nil
          go_simp
          rw [HE2.out]
          have hRBd := HRB.out
          rw [HABC.out.1, HABC.out.2.1, HABC.out.2.2]
          go_at_call 72
          (refine (HMV.out _ Br HRB.out).mono ?_)
          rintro e w4 ⟨rfl, hb4⟩
          rw [HMVV.out]
          have HT4 := hide (mdJ_to hb4 HT3.out rfl rfl rfl rfl)
          have HP4 := hide HT4.out.2.1
          clear hb4 hRBd
          dsimp only
          refine hK.out _ _ trivial (fun _ => ?_)
          clear hK
          try simp only [Act.put, List.setIfInBounds_toArray, List.set_cons_zero, List.set_cons_succ]
          refine takeD (i := 9) (v := ?_) 33 rfl rfl (by kernel_rfl) (by kernel_rfl) (by kernel_rfl) (fun _ _ _ h => h) (Or.inl ⟨by rfl, ?_⟩) trivial ?_
          rotate_left 1
          · (intro w hSw; go_simp; (try with_reducible rfl))
          try simp only [Act.put, List.setIfInBounds_toArray, List.set_cons_zero, List.set_cons_succ]
          refine takeD (i := 10) (v := ?_) 43 rfl rfl (by kernel_rfl) (by kernel_rfl) (by kernel_rfl) (fun _ _ _ h => h) (Or.inl ⟨by rfl, ?_⟩) trivial ?_
          rotate_left 1
          · (intro w hSw; go_simp; (try with_reducible rfl))
          try simp only [Act.put, List.setIfInBounds_toArray, List.set_cons_zero, List.set_cons_succ]
          refine takeD (i := 11) (v := ?_) 44 rfl rfl (by kernel_rfl) (by kernel_rfl) (by kernel_rfl) (fun _ _ _ h => h) (Or.inl ⟨by rfl, ?_⟩) trivial ?_
          rotate_left 1
          · (intro w hSw; go_simp; (try with_reducible rfl))
          try simp only [Act.put, List.setIfInBounds_toArray, List.set_cons_zero, List.set_cons_succ]
          refine wpAnyH_ready (rs := [12]) (by kernel_rfl) (by simp) ?_
          refine AllReadyH.cons (o := _) rfl (fun K hK => ?_) AllReadyH.nil
          refine step_store_row rfl 70 (.tmp 10) (.tmp 43) rfl B #[.int .i64 (pdS M2 0).x, .int .i64 (pdS M2 0).y, .int .i64 (pdS M2 0).d.t, .int .i64 (pdS M2 0).d.n, .int .i64 (pdS M2 0).d.e, .int .i64 (pdS M2 0).d.s, .int .i64 (pdS M2 0).d.w, .int .i64 (pdS M2 0).d.b, .int .i64 (pdS M2 1).x, .int .i64 (pdS M2 1).y, .int .i64 (pdS M2 1).d.t, .int .i64 (pdS M2 1).d.n, .int .i64 (pdS M2 1).d.e, .int .i64 (pdS M2 1).d.s, .int .i64 (pdS M2 1).d.w, .int .i64 (pdS M2 1).d.b, .int .i64 (pdS M2 2).x, .int .i64 (pdS M2 2).y, .int .i64 (pdS M2 2).d.t, .int .i64 (pdS M2 2).d.n, .int .i64 (pdS M2 2).d.e, .int .i64 (pdS M2 2).d.s, .int .i64 (pdS M2 2).d.w, .int .i64 (pdS M2 2).d.b] rfl rfl _ _ HP4.out (by kernel_rfl) (by kernel_rfl) (by kernel_rfl) ?_
          refine hK.out _ _ trivial (fun _ => ?_)
          clear hK
          try simp only [Act.put, List.setIfInBounds_toArray, List.set_cons_zero, List.set_cons_succ]
          refine takeD (i := 13) (v := ?_) 9 rfl rfl (by kernel_rfl) (by kernel_rfl) (by kernel_rfl) (fun _ _ _ h => h) (Or.inl ⟨by rfl, ?_⟩) trivial ?_
          rotate_left 1
          · (intro w hSw; go_simp; (try with_reducible rfl))
          try simp only [Act.put, List.setIfInBounds_toArray, List.set_cons_zero, List.set_cons_succ]
          refine wpAnyH_done (by kernel_rfl) ?_ _
          have q5 := hide (below_setRow HT4.out.2.2 hB0 #[.int .i64 (pdS M2 0).x, .int .i64 (pdS M2 0).y, .int .i64 (pdS M2 0).d.t, .int .i64 (pdS M2 0).d.n, .int .i64 (pdS M2 0).d.e, .int .i64 (pdS M2 0).d.s, .int .i64 (pdS M2 0).d.w, .int .i64 (pdS M2 0).d.b, .int .i64 (pdS M2 1).x, .int .i64 (pdS M2 1).y, .int .i64 (pdS M2 1).d.t, .int .i64 (pdS M2 1).d.n, .int .i64 (pdS M2 1).d.e, .int .i64 (pdS M2 1).d.s, .int .i64 (pdS M2 1).d.w, .int .i64 (pdS M2 1).d.b, .int .i64 (pdS M2 2).x, .int .i64 (pdS M2 2).y, .int .i64 (pdS M2 2).d.t, .int .i64 (pdS M2 2).d.n, .int .i64 (pdS M2 2).d.e, .int .i64 (pdS M2 2).d.s, .int .i64 (pdS M2 2).d.w, .int .i64 (pdS M2 2).d.b])
          have HR6 := hide (show runL s.data.toList L v.data.toList (k + 1) = some M2 from HSU2.out.trans HMVV.out)
          have HT5 := hide (show MdJ w (w4.setRow B #[.int .i64 (pdS M2 0).x, .int .i64 (pdS M2 0).y, .int .i64 (pdS M2 0).d.t, .int .i64 (pdS M2 0).d.n, .int .i64 (pdS M2 0).d.e, .int .i64 (pdS M2 0).d.s, .int .i64 (pdS M2 0).d.w, .int .i64 (pdS M2 0).d.b, .int .i64 (pdS M2 1).x, .int .i64 (pdS M2 1).y, .int .i64 (pdS M2 1).d.t, .int .i64 (pdS M2 1).d.n, .int .i64 (pdS M2 1).d.e, .int .i64 (pdS M2 1).d.s, .int .i64 (pdS M2 1).d.w, .int .i64 (pdS M2 1).d.b, .int .i64 (pdS M2 2).x, .int .i64 (pdS M2 2).y, .int .i64 (pdS M2 2).d.t, .int .i64 (pdS M2 2).d.n, .int .i64 (pdS M2 2).d.e, .int .i64 (pdS M2 2).d.s, .int .i64 (pdS M2 2).d.w, .int .i64 (pdS M2 2).d.b]) B gR s M2 from ⟨(setRow_other w4 B gR _ hne).trans HT4.out.1, setRow_heap w4 B _ _ _ _ HP4.out, q5.out⟩)
          generalize w4.setRow B #[.int .i64 (pdS M2 0).x, .int .i64 (pdS M2 0).y, .int .i64 (pdS M2 0).d.t, .int .i64 (pdS M2 0).d.n, .int .i64 (pdS M2 0).d.e, .int .i64 (pdS M2 0).d.s, .int .i64 (pdS M2 0).d.w, .int .i64 (pdS M2 0).d.b, .int .i64 (pdS M2 1).x, .int .i64 (pdS M2 1).y, .int .i64 (pdS M2 1).d.t, .int .i64 (pdS M2 1).d.n, .int .i64 (pdS M2 1).d.e, .int .i64 (pdS M2 1).d.s, .int .i64 (pdS M2 1).d.w, .int .i64 (pdS M2 1).d.b, .int .i64 (pdS M2 2).x, .int .i64 (pdS M2 2).y, .int .i64 (pdS M2 2).d.t, .int .i64 (pdS M2 2).d.n, .int .i64 (pdS M2 2).d.e, .int .i64 (pdS M2 2).d.s, .int .i64 (pdS M2 2).d.w, .int .i64 (pdS M2 2).d.b] = W5 at HT5 q5 ⊢
          go_wp2
          go_roundw
          case rel => exact ⟨k + 1, q + 2, M2, by omega, by omega, by omega, by go_num, HR6.out, HT5.out⟩
          case measure => simp [intOf] <;> omega
        · skip
          refine step_load_row rfl 70 (.tmp 10) rfl B rfl _ _ _ _ HP0.out und_group rfl size_group ?_
          refine hK.out _ _ trivial (fun _ => ?_)
          clear hK
          try simp only [Act.put, List.setIfInBounds_toArray, List.set_cons_zero, List.set_cons_succ]
          refine wpAnyH_ready (rs := [1]) (by kernel_rfl) (by simp) ?_
          refine AllReadyH.cons (o := _) rfl (fun K hK => ?_) AllReadyH.nil
          go_simp
          go_at_call 48
          (with_reducible refine (HMO.out _ HR0.out).mono ?_)
          rintro e w3 ⟨Br, rfl, hRB, hb3⟩
          have HRB := hide hRB
          have HT3 := hide (mdJ_to hb3 HMD.out rfl rfl rfl rfl)
          have HP3 := hide (isP_to hb3 HP0.out rfl)
          clear hb3 hRB
          dsimp only
          refine hK.out _ _ trivial (fun _ => ?_)
          clear hK
          try simp only [Act.put, List.setIfInBounds_toArray, List.set_cons_zero, List.set_cons_succ]
          refine wpAnyH_ready (rs := [8]) (by kernel_rfl) (by simp) ?_
          refine AllReadyH.cons (o := _) rfl (fun K hK => ?_) AllReadyH.nil
          go_simp
          rw [HE2.out]
          have hRBd := HRB.out
          rw [HABC.out.1, HABC.out.2.1, HABC.out.2.2]
          go_at_call 72
          (refine (HMV.out _ Br HRB.out).mono ?_)
          rintro e w4 ⟨rfl, hb4⟩
          rw [HMVV.out]
          have HT4 := hide (mdJ_to hb4 HT3.out rfl rfl rfl rfl)
          have HP4 := hide HT4.out.2.1
          clear hb4 hRBd
          dsimp only
          refine hK.out _ _ trivial (fun _ => ?_)
          clear hK
          try simp only [Act.put, List.setIfInBounds_toArray, List.set_cons_zero, List.set_cons_succ]
          refine takeD (i := 9) (v := ?_) 33 rfl rfl (by kernel_rfl) (by kernel_rfl) (by kernel_rfl) (fun _ _ _ h => h) (Or.inl ⟨by rfl, ?_⟩) trivial ?_
          rotate_left 1
          · (intro w hSw; go_simp; (try with_reducible rfl))
          try simp only [Act.put, List.setIfInBounds_toArray, List.set_cons_zero, List.set_cons_succ]
          refine takeD (i := 10) (v := ?_) 43 rfl rfl (by kernel_rfl) (by kernel_rfl) (by kernel_rfl) (fun _ _ _ h => h) (Or.inl ⟨by rfl, ?_⟩) trivial ?_
          rotate_left 1
          · (intro w hSw; go_simp; (try with_reducible rfl))
          try simp only [Act.put, List.setIfInBounds_toArray, List.set_cons_zero, List.set_cons_succ]
          refine takeD (i := 11) (v := ?_) 44 rfl rfl (by kernel_rfl) (by kernel_rfl) (by kernel_rfl) (fun _ _ _ h => h) (Or.inl ⟨by rfl, ?_⟩) trivial ?_
          rotate_left 1
          · (intro w hSw; go_simp; (try with_reducible rfl))
          try simp only [Act.put, List.setIfInBounds_toArray, List.set_cons_zero, List.set_cons_succ]
          refine wpAnyH_ready (rs := [12]) (by kernel_rfl) (by simp) ?_
          refine AllReadyH.cons (o := _) rfl (fun K hK => ?_) AllReadyH.nil
          refine step_store_row rfl 70 (.tmp 10) (.tmp 43) rfl B #[.int .i64 (pdS M2 0).x, .int .i64 (pdS M2 0).y, .int .i64 (pdS M2 0).d.t, .int .i64 (pdS M2 0).d.n, .int .i64 (pdS M2 0).d.e, .int .i64 (pdS M2 0).d.s, .int .i64 (pdS M2 0).d.w, .int .i64 (pdS M2 0).d.b, .int .i64 (pdS M2 1).x, .int .i64 (pdS M2 1).y, .int .i64 (pdS M2 1).d.t, .int .i64 (pdS M2 1).d.n, .int .i64 (pdS M2 1).d.e, .int .i64 (pdS M2 1).d.s, .int .i64 (pdS M2 1).d.w, .int .i64 (pdS M2 1).d.b, .int .i64 (pdS M2 2).x, .int .i64 (pdS M2 2).y, .int .i64 (pdS M2 2).d.t, .int .i64 (pdS M2 2).d.n, .int .i64 (pdS M2 2).d.e, .int .i64 (pdS M2 2).d.s, .int .i64 (pdS M2 2).d.w, .int .i64 (pdS M2 2).d.b] rfl rfl _ _ HP4.out (by kernel_rfl) (by kernel_rfl) (by kernel_rfl) ?_
          refine hK.out _ _ trivial (fun _ => ?_)
          clear hK
          try simp only [Act.put, List.setIfInBounds_toArray, List.set_cons_zero, List.set_cons_succ]
          refine takeD (i := 13) (v := ?_) 9 rfl rfl (by kernel_rfl) (by kernel_rfl) (by kernel_rfl) (fun _ _ _ h => h) (Or.inl ⟨by rfl, ?_⟩) trivial ?_
          rotate_left 1
          · (intro w hSw; go_simp; (try with_reducible rfl))
          try simp only [Act.put, List.setIfInBounds_toArray, List.set_cons_zero, List.set_cons_succ]
          refine wpAnyH_done (by kernel_rfl) ?_ _
          have q5 := hide (below_setRow HT4.out.2.2 hB0 #[.int .i64 (pdS M2 0).x, .int .i64 (pdS M2 0).y, .int .i64 (pdS M2 0).d.t, .int .i64 (pdS M2 0).d.n, .int .i64 (pdS M2 0).d.e, .int .i64 (pdS M2 0).d.s, .int .i64 (pdS M2 0).d.w, .int .i64 (pdS M2 0).d.b, .int .i64 (pdS M2 1).x, .int .i64 (pdS M2 1).y, .int .i64 (pdS M2 1).d.t, .int .i64 (pdS M2 1).d.n, .int .i64 (pdS M2 1).d.e, .int .i64 (pdS M2 1).d.s, .int .i64 (pdS M2 1).d.w, .int .i64 (pdS M2 1).d.b, .int .i64 (pdS M2 2).x, .int .i64 (pdS M2 2).y, .int .i64 (pdS M2 2).d.t, .int .i64 (pdS M2 2).d.n, .int .i64 (pdS M2 2).d.e, .int .i64 (pdS M2 2).d.s, .int .i64 (pdS M2 2).d.w, .int .i64 (pdS M2 2).d.b])
          have HR6 := hide (show runL s.data.toList L v.data.toList (k + 1) = some M2 from HSU2.out.trans HMVV.out)
          have HT5 := hide (show MdJ w (w4.setRow B #[.int .i64 (pdS M2 0).x, .int .i64 (pdS M2 0).y, .int .i64 (pdS M2 0).d.t, .int .i64 (pdS M2 0).d.n, .int .i64 (pdS M2 0).d.e, .int .i64 (pdS M2 0).d.s, .int .i64 (pdS M2 0).d.w, .int .i64 (pdS M2 0).d.b, .int .i64 (pdS M2 1).x, .int .i64 (pdS M2 1).y, .int .i64 (pdS M2 1).d.t, .int .i64 (pdS M2 1).d.n, .int .i64 (pdS M2 1).d.e, .int .i64 (pdS M2 1).d.s, .int .i64 (pdS M2 1).d.w, .int .i64 (pdS M2 1).d.b, .int .i64 (pdS M2 2).x, .int .i64 (pdS M2 2).y, .int .i64 (pdS M2 2).d.t, .int .i64 (pdS M2 2).d.n, .int .i64 (pdS M2 2).d.e, .int .i64 (pdS M2 2).d.s, .int .i64 (pdS M2 2).d.w, .int .i64 (pdS M2 2).d.b]) B gR s M2 from ⟨(setRow_other w4 B gR _ hne).trans HT4.out.1, setRow_heap w4 B _ _ _ _ HP4.out, q5.out⟩)
          generalize w4.setRow B #[.int .i64 (pdS M2 0).x, .int .i64 (pdS M2 0).y, .int .i64 (pdS M2 0).d.t, .int .i64 (pdS M2 0).d.n, .int .i64 (pdS M2 0).d.e, .int .i64 (pdS M2 0).d.s, .int .i64 (pdS M2 0).d.w, .int .i64 (pdS M2 0).d.b, .int .i64 (pdS M2 1).x, .int .i64 (pdS M2 1).y, .int .i64 (pdS M2 1).d.t, .int .i64 (pdS M2 1).d.n, .int .i64 (pdS M2 1).d.e, .int .i64 (pdS M2 1).d.s, .int .i64 (pdS M2 1).d.w, .int .i64 (pdS M2 1).d.b, .int .i64 (pdS M2 2).x, .int .i64 (pdS M2 2).y, .int .i64 (pdS M2 2).d.t, .int .i64 (pdS M2 2).d.n, .int .i64 (pdS M2 2).d.e, .int .i64 (pdS M2 2).d.s, .int .i64 (pdS M2 2).d.w, .int .i64 (pdS M2 2).d.b] = W5 at HT5 q5 ⊢
          go_wp2
          go_roundw
          case rel => exact ⟨k + 1, q + 2, M2, by omega, by omega, by omega, by go_num, HR6.out, HT5.out⟩
          case measure => simp [intOf] <;> omega
    · obtain rfl : k = m0 := by omega
      have q9 := T.2.2
      have HD9 := hide (stAt_pd (by have := HML.out; omega) (stAt_p T.2.1))
      have hn0 : (0 : Int) ≤ (n : Int) := by omega
      have hn3i : (n : Int) ≤ 3 := by omega
      clear T
      go_wp2_with fail
      refine (cloneS_any M n B 3 _ HML.out hnn1 hnn3 HD9.out).mono ?_
      rintro e w9 ⟨vv, rfl, hO, hb9⟩
      have q10 := hide (below_to hb9 q9 q9.size rfl rfl rfl rfl)
      have HO := hide (own_mono hO q9.size)
      obtain ⟨g9, c9, rfl, -, -⟩ := own_form hO (by omega)
      clear hb9 hO q9
      go_wp2
      go_returns
      exact mdPost_some HRUN.out rfl HML.out HO.out q10.out
end Go.Proofs.YtdndegonpdakkaaDoor
namespace Go.Proofs.YtdndegonpdakkaaDoor
set_option maxRecDepth 100000
set_option linter.all false
open Go.RowKit

/-- What MoveDice answers: the dice behind the plan, or none. -/
def mdR (l : List UInt8) (L : List St) (pl : List UInt8) : Option (List St) := if adB l L && isPl pl then runL l L pl (pl.length / 2) else none
theorem mdR_no {l : List UInt8} {L : List St} {pl : List UInt8} (h : (adB l L && isPl pl) = false) : mdR l L pl = none := by
  unfold mdR
  rw [h, if_neg (by decide)]
theorem mdR_yes {l : List UInt8} {L : List St} {pl : List UInt8} (h : adB l L = true) (h2 : isPl pl = true) : mdR l L pl = runL l L pl (pl.length / 2) := by
  unfold mdR
  rw [h, h2, if_pos (by decide)]
theorem mdR_len {l : List UInt8} {L : List St} {pl : List UInt8} : ((mdR l L pl).getD []).length ≤ 3 := by
  cases h : (adB l L && isPl pl) with
  | false => rw [mdR_no h]; exact Nat.zero_le _
  | true =>
    obtain ⟨ha, hp⟩ := Bool.and_eq_true_iff.1 h
    have hb : isBd l = true := (Bool.and_eq_true_iff.1 ha).1
    have ht : tog l L = true := (Bool.and_eq_true_iff.1 ha).2
    rw [mdR_yes ha hp]
    cases hr : runL l L pl (pl.length / 2) with
    | none => exact Nat.zero_le _
    | some M =>
      obtain ⟨_, h3, hall⟩ := tog_facts ht
      have hL : ∀ (i : Nat) (u : St), L[i]? = some u → nearS u := fun i u hi => floor_near hb (Bool.and_eq_true_iff.1 (hall i u hi).1).1
      have := (runL_facts hb hL hr).1
      show M.length ≤ 3
      omega
theorem specMD_any (s : ByteArray) (gd : Nat) (L : List St) (n : Nat) (hN : n = L.length) (v : ByteArray) (w : World) (hs : s.size ≤ 1048576) (hv : v.size ≤ maxLen) (hD : StAt w gd 0 L) : Calls Tryd.prog 24 #[.string s, .slice (some ⟨gd, 0, none⟩) n n, .string v] w (MdPost (mdR s.data.toList L v.data.toList) w) := by
  cases h : isBd s.data.toList with
  | false =>
    refine (specMD_bad s _ v w hs h).mono ?_
    rintro e w' ⟨he, hb⟩
    exact mdPost_none (mdR_no (by rw [adB_no h]; rfl)) he hb
  | true =>
    cases h2 : tog s.data.toList L with
    | false =>
      refine (specMD_off s gd L n hN v w hs hD h h2).mono ?_
      rintro e w' ⟨he, hb⟩
      exact mdPost_none (mdR_no (by rw [adB_off h2]; rfl)) he hb
    | true =>
      cases h3 : isPl v.data.toList with
      | false =>
        refine (specMD_plan s gd L n hN v w hs hv hD h h2 h3).mono ?_
        rintro e w' ⟨he, hb⟩
        exact mdPost_none (mdR_no (by rw [h3]; simp)) he hb
      | true =>
        rw [mdR_yes (adB_on h h2) h3]
        exact specMD_run s gd L n hN v w hs hv hD h h2 h3
theorem implMD_any (s : ByteArray) (gd : Nat) (L : List St) (n : Nat) (hN : n = L.length) (v : ByteArray) (w : World) (hs : s.size ≤ 1048576) (hv : v.size ≤ maxLen) (hg : Glob w) (hD : StAt w gd 0 L) : Calls Tryd.prog 25 #[.string s, .slice (some ⟨gd, 0, none⟩) n n, .string v] w (MdPost (mdR s.data.toList L v.data.toList) w) := by
  cases h : isBd s.data.toList with
  | false =>
    refine (implMD_bad s _ v w hs hg h).mono ?_
    rintro e w' ⟨he, hb⟩
    exact mdPost_none (mdR_no (by rw [adB_no h]; rfl)) he hb
  | true =>
    cases h2 : tog s.data.toList L with
    | false =>
      refine (implMD_off s gd L n hN v w hs hg hD h h2).mono ?_
      rintro e w' ⟨he, hb⟩
      exact mdPost_none (mdR_no (by rw [adB_off h2]; rfl)) he hb
    | true =>
      cases h3 : isPl v.data.toList with
      | false =>
        refine (implMD_plan s gd L n hN v w hs hv hg hD h h2 h3).mono ?_
        rintro e w' ⟨he, hb⟩
        exact mdPost_none (mdR_no (by rw [h3]; simp)) he hb
      | true =>
        rw [mdR_yes (adB_on h h2) h3]
        exact implMD_run s gd L n hN v w hs hv hg hD h h2 h3
end Go.Proofs.YtdndegonpdakkaaDoor
