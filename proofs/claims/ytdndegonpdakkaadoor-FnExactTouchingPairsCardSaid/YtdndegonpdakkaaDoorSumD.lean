/- The sum of dice: the contracts of SumOfDice in the program and in the model. -/
import Derived.Test.YtdndegonpdakkaaDoorTogP
namespace Go.Proofs.YtdndegonpdakkaaDoor
set_option maxRecDepth 100000
set_option linter.all false
open Go.RowKit

/-- What dice together are. -/
theorem tog_facts {l : List UInt8} {L : List St} (h : tog l L = true) : 1 ≤ L.length ∧ L.length ≤ 3 ∧ ∀ (i : Nat) (s : St), L[i]? = some s → stL l s = true ∧ inAny (L.take i) s.x s.y = false := by
  unfold tog at h
  simp only [Bool.and_eq_true, decide_eq_true_eq] at h
  obtain ⟨h1, h2, h3⟩ := h
  refine ⟨h1, h2, fun i s hi => ?_⟩
  unfold togK at h3
  rw [List.all_eq_true] at h3
  have h4 := h3 i (by have := (List.getElem?_eq_some_iff.1 hi).1; simpa using this)
  rw [okAt_some hi, Bool.and_eq_true] at h4
  exact ⟨h4.1, by simpa using h4.2⟩
theorem stL_top {l : List UInt8} {s : St} (h : stL l s = true) : 0 ≤ s.d.t ∧ s.d.t ≤ 9 := by
  have := (Bool.and_eq_true_iff.1 h).2
  simp only [goodB, decide_eq_true_eq] at this
  omega
def sumTop (L : List St) : Int := L.foldl (fun a s => a + s.d.t) 0
theorem sumTop_snoc {L : List St} {k : Nat} {s : St} (h : L[k]? = some s) : sumTop (L.take (k + 1)) = sumTop (L.take k) + s.d.t := by
  unfold sumTop
  rw [List.take_add_one, h, List.foldl_append]
  rfl
theorem sumTop_le {l : List UInt8} {L : List St} (h : ∀ (i : Nat) (s : St), L[i]? = some s → stL l s = true ∧ inAny (L.take i) s.x s.y = false) : ∀ k, k ≤ L.length → 0 ≤ sumTop (L.take k) ∧ sumTop (L.take k) ≤ 9 * (k : Int) := by
  intro k
  induction k with
  | zero => intro _; rw [List.take_zero]; exact ⟨by decide, by decide⟩
  | succ k ih =>
    intro hk
    have hx : L[k]? = some (L[k]'(by omega)) := List.getElem?_eq_getElem (by omega)
    have h1 := stL_top (h k _ hx).1
    have h2 := ih (by omega)
    rw [sumTop_snoc hx]
    omega
/-- What SumOfDice says. -/
def sdV (l : List UInt8) (L : List St) : Int := if adB l L = true then sumTop L else 0
theorem adB_no {l : List UInt8} {L : List St} (h : isBd l = false) : adB l L = false := by unfold adB; rw [h]; rfl
theorem adB_off {l : List UInt8} {L : List St} (h : tog l L = false) : adB l L = false := by unfold adB; rw [h]; simp
theorem adB_on {l : List UInt8} {L : List St} (h : isBd l = true) (h2 : tog l L = true) : adB l L = true := by unfold adB; rw [h, h2]; rfl

set_option maxHeartbeats 800000 in
theorem specSD_bad (s : ByteArray) (v : Value) (w : World) (hs : s.size ≤ 1048576) (h : isBd s.data.toList = false) : Calls Tryd.prog 33 #[.string s, v] w fun e w' => e = .returned (.tuple #[.int .i64 0, .bool false]) ∧ Below w.heap.size w w' := by
  have H := hide h
  clear h
  go_enter Tryd.func33, Tryd.ntmps33
  go_wp2_with fail
  refine (myAsked_bad s v _ hs H.out).mono ?_
  rintro e w1 ⟨rfl, hb1⟩
  have q1 := hb1.alloc hb1.size (.cells #[.int .i64 0, .int .i64 0, .slice none 0 0] 50)
  go_wp2
  go_returns
  exact ⟨rfl, q1⟩
set_option maxHeartbeats 800000 in
theorem specSD_off (s : ByteArray) (gd : Nat) (L : List St) (n : Nat) (hN : n = L.length) (w : World) (hs : s.size ≤ 1048576) (hD : StAt w gd 0 L) (h : isBd s.data.toList = true) (h2 : tog s.data.toList L = false) : Calls Tryd.prog 33 #[.string s, .slice (some ⟨gd, 0, none⟩) n n] w fun e w' => e = .returned (.tuple #[.int .i64 0, .bool false]) ∧ Below w.heap.size w w' := by
  have H := hide h
  have H2 := hide h2
  have HN := hide hN
  have HD := hide hD
  clear h h2 hN hD
  go_enter Tryd.func33, Tryd.ntmps33
  go_wp2_with fail
  refine (myAsked_in s gd L n HN.out _ hs HD.out H.out).mono ?_
  rintro e w1 ⟨W, Hh, m, g, cap, hG, rfl, hA, hb1⟩
  rw [H2.out]
  have q1 := hb1.alloc hb1.size (.cells #[.int .i64 (W : Int), .int .i64 (Hh : Int), .slice (some ⟨g, 0, none⟩) m cap] 50)
  clear hG hA hb1
  go_wp2
  go_returns
  exact ⟨rfl, q1⟩
set_option maxHeartbeats 1600000 in
theorem specSD_on (s : ByteArray) (gd : Nat) (L : List St) (n : Nat) (hN : n = L.length) (w : World) (hs : s.size ≤ 1048576) (hD : StAt w gd 0 L) (h : isBd s.data.toList = true) (h2 : tog s.data.toList L = true) : Calls Tryd.prog 33 #[.string s, .slice (some ⟨gd, 0, none⟩) n n] w fun e w' => e = .returned (.tuple #[.int .i64 (sumTop L), .bool true]) ∧ Below w.heap.size w w' := by
  obtain ⟨n1, n3, hall⟩ := tog_facts h2
  have HSL := hide (sumTop_le hall)
  have HALL := hide hall
  have hn3 : n ≤ 3 := by omega
  have H := hide h
  have H2 := hide h2
  have HN := hide hN
  have HD := hide hD
  clear h h2 hN hD hall n1 n3
  go_enter Tryd.func33, Tryd.ntmps33
  go_wp2_with fail
  refine (myAsked_in s gd L n HN.out _ hs HD.out H.out).mono ?_
  rintro e w1 ⟨W, Hh, m, g, cap, hG, rfl, hA, hb1⟩
  rw [H2.out]
  have q1 := hb1.alloc hb1.size (.cells #[.int .i64 (W : Int), .int .i64 (Hh : Int), .slice (some ⟨g, 0, none⟩) m cap] 50)
  clear hG hA hb1
  have D1 := hide (stAt_to (w0 := w) q1 HD.out rfl)
  go_wp2
  generalize w1.alloc (.cells #[.int .i64 (W : Int), .int .i64 (Hh : Int), .slice (some ⟨g, 0, none⟩) m cap] 50) = W1 at q1 D1 ⊢
  go_loopw [8, 21] (fun sm i wr => ∃ k : Nat, k ≤ n ∧ i = .int .i64 (k : Int) ∧ sm = .int .i64 (sumTop (L.take k)) ∧ Below w.heap.size w wr) (fun _ i _ => n - (intOf i).toNat)
  case atStart => exact ⟨0, Nat.zero_le _, rfl, rfl, q1⟩
  case round =>
    obtain ⟨k, hk, rfl, rfl, q⟩ := hrel
    clear q1
    by_cases hlt : k < n
    · have hx : L[k]? = some (L[k]'(by have := HN.out; omega)) := List.getElem?_eq_getElem (by have := HN.out; omega)
      generalize L[k]'(by have := HN.out; omega) = u at hx
      obtain ⟨a0, a1, a2, a3, a4, a5, a6, a7⟩ := (stAt_to q HD.out rfl).cells0 hx
      have hki : (k : Int) < (n : Int) := by omega
      obtain ⟨t0, t1⟩ := stL_top (HALL.out k u hx).1
      obtain ⟨b0, b1⟩ := HSL.out k (by have := HN.out; omega)
      have HS := hide (sumTop_snoc hx)
      generalize hz : sumTop (L.take k) = z at b0 b1 HS ⊢
      clear hx hz
      go_upto_region 8 with (fail)
      have S1 := IsS.new (w := wr) (s := u) (ty := 57)
      have q2 := q.alloc q.size (.cells #[.int .i64 u.x, .int .i64 u.y, .int .i64 u.d.t, .int .i64 u.d.n, .int .i64 u.d.e, .int .i64 u.d.s, .int .i64 u.d.w, .int .i64 u.d.b] 57)
      obtain ⟨l0, ⟨-, -, c2, -, -, -, -, -⟩, -⟩ := S1.all
      clear a0 a1 a2 a3 a4 a5 a6 a7 q
      go_wp2
      go_roundw
      case rel => exact ⟨k + 1, by omega, by go_num, by rw [HS.out], q2⟩
      case measure => simp [intOf] <;> omega
    · obtain rfl : k = n := by omega
      have HF := hide (show sumTop (L.take k) = sumTop L from by rw [HN.out, List.take_length])
      generalize hz : sumTop (L.take k) = z at HF ⊢
      have HZ := hide hz
      clear hz
      go_wp2
      go_returns
      exact ⟨by rw [← HF.out]; rfl, q⟩
theorem specSD_any (s : ByteArray) (gd : Nat) (L : List St) (n : Nat) (hN : n = L.length) (w : World) (hs : s.size ≤ 1048576) (hD : StAt w gd 0 L) : Calls Tryd.prog 33 #[.string s, .slice (some ⟨gd, 0, none⟩) n n] w fun e w' => e = .returned (.tuple #[.int .i64 (sdV s.data.toList L), .bool (adB s.data.toList L)]) ∧ Below w.heap.size w w' := by
  unfold sdV
  cases h : isBd s.data.toList
  · rw [adB_no h, if_neg (by decide)]
    exact specSD_bad s _ w hs h
  · cases h2 : tog s.data.toList L
    · rw [adB_off h2, if_neg (by decide)]
      exact specSD_off s gd L n hN w hs hD h h2
    · rw [adB_on h h2, if_pos rfl]
      exact specSD_on s gd L n hN w hs hD h h2

set_option maxHeartbeats 800000 in
theorem implSD_bad (s : ByteArray) (v : Value) (w : World) (hs : s.size ≤ 1048576) (hg : Glob w) (h : isBd s.data.toList = false) : Calls Tryd.prog 34 #[.string s, v] w fun e w' => e = .returned (.tuple #[.int .i64 0, .bool false]) ∧ Below w.heap.size w w' := by
  have H := hide h
  clear h
  go_enter Tryd.func34, Tryd.ntmps34
  go_wp2_with fail
  refine (rowsUD_bad s v _ hs hg H.out).mono ?_
  rintro e w1 ⟨rfl, hb1⟩
  have q1 := hb1
  go_wp2
  go_returns
  exact ⟨rfl, q1⟩
set_option maxHeartbeats 800000 in
theorem implSD_off (s : ByteArray) (gd : Nat) (L : List St) (n : Nat) (hN : n = L.length) (w : World) (hs : s.size ≤ 1048576) (hg : Glob w) (hD : StAt w gd 0 L) (h : isBd s.data.toList = true) (h2 : tog s.data.toList L = false) : Calls Tryd.prog 34 #[.string s, .slice (some ⟨gd, 0, none⟩) n n] w fun e w' => e = .returned (.tuple #[.int .i64 0, .bool false]) ∧ Below w.heap.size w w' := by
  have H := hide h
  have H2 := hide h2
  have HN := hide hN
  have HD := hide hD
  clear h h2 hN hD
  go_enter Tryd.func34, Tryd.ntmps34
  go_wp2_with fail
  refine (rowsUD_off s gd L n HN.out _ hs hg HD.out H.out H2.out).mono ?_
  rintro e w1 ⟨rfl, hb1⟩
  have q1 := hb1
  go_wp2
  go_returns
  exact ⟨rfl, q1⟩
set_option maxHeartbeats 1600000 in
theorem implSD_on (s : ByteArray) (gd : Nat) (L : List St) (n : Nat) (hN : n = L.length) (w : World) (hs : s.size ≤ 1048576) (hg : Glob w) (hD : StAt w gd 0 L) (h : isBd s.data.toList = true) (h2 : tog s.data.toList L = true) : Calls Tryd.prog 34 #[.string s, .slice (some ⟨gd, 0, none⟩) n n] w fun e w' => e = .returned (.tuple #[.int .i64 (sumTop L), .bool true]) ∧ Below w.heap.size w w' := by
  obtain ⟨n1, n3, hall⟩ := tog_facts h2
  have HSL := hide (sumTop_le hall)
  have HALL := hide hall
  have hn3 : n ≤ 3 := by omega
  have H := hide h
  have H2 := hide h2
  have HN := hide hN
  have HD := hide hD
  clear h h2 hN hD hall n1 n3
  go_enter Tryd.func34, Tryd.ntmps34
  go_wp2_with fail
  refine (rowsUD_on s gd L n HN.out _ hs hg HD.out H.out H2.out).mono ?_
  rintro e w1 ⟨gR, rfl, hR, q1⟩
  clear hR
  have D1 := hide (stAt_to (w0 := w) q1 HD.out rfl)
  go_wp2
  skip
  go_loopw [8, 21] (fun sm i wr => ∃ k : Nat, k ≤ n ∧ i = .int .i64 (k : Int) ∧ sm = .int .i64 (sumTop (L.take k)) ∧ Below w.heap.size w wr) (fun _ i _ => n - (intOf i).toNat)
  case atStart => exact ⟨0, Nat.zero_le _, rfl, rfl, q1⟩
  case round =>
    obtain ⟨k, hk, rfl, rfl, q⟩ := hrel
    clear q1
    by_cases hlt : k < n
    · have hx : L[k]? = some (L[k]'(by have := HN.out; omega)) := List.getElem?_eq_getElem (by have := HN.out; omega)
      generalize L[k]'(by have := HN.out; omega) = u at hx
      obtain ⟨a0, a1, a2, a3, a4, a5, a6, a7⟩ := (stAt_to q HD.out rfl).cells0 hx
      have hki : (k : Int) < (n : Int) := by omega
      obtain ⟨t0, t1⟩ := stL_top (HALL.out k u hx).1
      obtain ⟨b0, b1⟩ := HSL.out k (by have := HN.out; omega)
      have HS := hide (sumTop_snoc hx)
      generalize hz : sumTop (L.take k) = z at b0 b1 HS ⊢
      clear hx hz
      go_upto_region 8 with (fail)
      have S1 := IsS.new (w := wr) (s := u) (ty := 57)
      have q2 := q.alloc q.size (.cells #[.int .i64 u.x, .int .i64 u.y, .int .i64 u.d.t, .int .i64 u.d.n, .int .i64 u.d.e, .int .i64 u.d.s, .int .i64 u.d.w, .int .i64 u.d.b] 57)
      obtain ⟨l0, ⟨-, -, c2, -, -, -, -, -⟩, -⟩ := S1.all
      clear a0 a1 a2 a3 a4 a5 a6 a7 q
      go_wp2
      go_roundw
      case rel => exact ⟨k + 1, by omega, by go_num, by rw [HS.out], q2⟩
      case measure => simp [intOf] <;> omega
    · obtain rfl : k = n := by omega
      have HF := hide (show sumTop (L.take k) = sumTop L from by rw [HN.out, List.take_length])
      generalize hz : sumTop (L.take k) = z at HF ⊢
      have HZ := hide hz
      clear hz
      go_wp2
      go_returns
      exact ⟨by rw [← HF.out]; rfl, q⟩
theorem implSD_any (s : ByteArray) (gd : Nat) (L : List St) (n : Nat) (hN : n = L.length) (w : World) (hs : s.size ≤ 1048576) (hg : Glob w) (hD : StAt w gd 0 L) : Calls Tryd.prog 34 #[.string s, .slice (some ⟨gd, 0, none⟩) n n] w fun e w' => e = .returned (.tuple #[.int .i64 (sdV s.data.toList L), .bool (adB s.data.toList L)]) ∧ Below w.heap.size w w' := by
  unfold sdV
  cases h : isBd s.data.toList
  · rw [adB_no h, if_neg (by decide)]
    exact implSD_bad s _ w hs hg h
  · cases h2 : tog s.data.toList L
    · rw [adB_off h2, if_neg (by decide)]
      exact implSD_off s gd L n hN w hs hg hD h h2
    · rw [adB_on h h2, if_pos rfl]
      exact implSD_on s gd L n hN w hs hg hD h h2
end Go.Proofs.YtdndegonpdakkaaDoor
