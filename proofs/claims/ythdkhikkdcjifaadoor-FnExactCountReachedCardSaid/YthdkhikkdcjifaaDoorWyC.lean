/- The numbers of states, as the model gives them; the contracts of spec.wyCode and spec.wyPlace. -/
import Derived.Test.YthdkhikkdcjifaaDoorFlo
import Derived.Test.YthdkhikkdcjifaaDoorLess
import Derived.Test.YthdkhikkdcjifaaDoorOwnK
namespace Go.Proofs.YthdkhikkdcjifaaDoor
set_option maxRecDepth 100000
set_option linter.all false
open Go.RowKit

def codeS (W : Nat) (s : St) : Int := 10 * (10 * (10 * (10 * (10 * (10 * (s.y * (W : Int) + s.x) + s.d.t) + s.d.n) + s.d.e) + s.d.s) + s.d.w) + s.d.b
theorem yW_bound {W : Nat} (hW : W ≤ 7) {y : Int} (hy : -100 ≤ y ∧ y ≤ 100) : -1000 ≤ y * (W : Int) ∧ y * (W : Int) ≤ 1000 := by
  have h : W = 0 ∨ W = 1 ∨ W = 2 ∨ W = 3 ∨ W = 4 ∨ W = 5 ∨ W = 6 ∨ W = 7 := by omega
  rcases h with rfl | rfl | rfl | rfl | rfl | rfl | rfl | rfl <;> simp <;> omega
/-- A state that is on a board's floor, or next to it. -/
def nearS (W : Nat) (s : St) : Prop := (0 ≤ s.x ∧ s.x < (W : Int)) ∧ (0 ≤ s.y ∧ s.y ≤ 100) ∧ goodB s.d = true
theorem code_inj {W : Nat} (hW : W ≤ 7) {s t : St} (hs : nearS W s) (ht : nearS W t) (h : codeS W s = codeS W t) : s = t := by
  obtain ⟨⟨a1, a2⟩, ⟨a3, a4⟩, hd⟩ := hs
  obtain ⟨⟨b1, b2⟩, ⟨b3, b4⟩, he⟩ := ht
  simp only [goodB, decide_eq_true_eq] at hd he
  unfold codeS at h
  have hc : s.y * (W : Int) + s.x = t.y * (W : Int) + t.x := by omega
  have h0 : s.d.t = t.d.t := by omega
  have h1 : s.d.n = t.d.n := by omega
  have h2 : s.d.e = t.d.e := by omega
  have h3 : s.d.s = t.d.s := by omega
  have h4 : s.d.w = t.d.w := by omega
  have h5 : s.d.b = t.d.b := by omega
  have hxy : s.y = t.y ∧ s.x = t.x := by
    have hW' : W = 0 ∨ W = 1 ∨ W = 2 ∨ W = 3 ∨ W = 4 ∨ W = 5 ∨ W = 6 ∨ W = 7 := by omega
    rcases hW' with rfl | rfl | rfl | rfl | rfl | rfl | rfl | rfl <;> simp at hc a2 b2 <;> omega
  exact St.ext' hxy.2 hxy.1 (D.ext' h0 h1 h2 h3 h4 h5)
/-- The place of a number in a list, counted from k. -/
def plc : List Int → Int → Nat → Int
  | [], _, _ => -1
  | a :: l, x, k => if a = x then (k : Int) else plc l x (k + 1)
theorem plc_findI {W : Nat} (hW : W ≤ 7) {t : St} (ht : nearS W t) : ∀ (M : List Nd) (k : Nat), (∀ q ∈ M, nearS W q.s) → plc (M.map (fun q => codeS W q.s)) (codeS W t) k = match findI M t with
    | some i => ((k + i : Nat) : Int)
    | none => -1
  | [], k, _ => rfl
  | q :: M, k, h => by
    have ih := plc_findI hW ht M (k + 1) (fun r hr => h r (List.mem_cons_of_mem _ hr))
    show (if codeS W q.s = codeS W t then (k : Int) else plc _ _ (k + 1)) = _
    unfold findI
    by_cases e : q.s = t
    · rw [if_pos (by rw [e]), if_pos e]
      simp
    · rw [if_neg (fun hc => e (code_inj hW (h q (by simp)) ht hc)), if_neg e, ih]
      cases findI M t with
      | none => rfl
      | some i =>
        show (((k + 1) + i : Nat) : Int) = ((k + (i + 1) : Nat) : Int)
        congr 1
        omega
set_option maxHeartbeats 1600000 in
theorem wyCode_any (W H n g cap : Nat) (hW : W ≤ 7) (s : St) (hy : -100 ≤ s.y ∧ s.y ≤ 100) (hx : -100 ≤ s.x ∧ s.x ≤ 100) (hd : goodB s.d = true) (w : World) : Calls Tryd.prog 71 #[gridV W H n g cap, St.v s] w fun e w' => e = .returned (.int .i64 (codeS W s)) ∧ Below w.heap.size w w' := by
  obtain ⟨y1, y2⟩ := yW_bound hW hy
  simp only [goodB, decide_eq_true_eq] at hd
  have HRES := hide (show codeS W s = 10 * (10 * (10 * (10 * (10 * (10 * (s.y * (W : Int) + s.x) + s.d.t) + s.d.n) + s.d.e) + s.d.s) + s.d.w) + s.d.b from rfl)
  have HEX := hide (show wrap64 (wrap64 (10 * wrap64 (wrap64 (10 * wrap64 (wrap64 (10 * wrap64 (wrap64 (10 * wrap64 (wrap64 (10 * wrap64 (wrap64 (10 * wrap64 (wrap64 (s.y * (W : Int)) + s.x)) + s.d.t)) + s.d.n)) + s.d.e)) + s.d.s)) + s.d.w)) + s.d.b) = codeS W s from by
    rw [HRES.out]
    generalize s.y * (W : Int) = yw at y1 y2
    have hin : ∀ x : Int, -9223372036854775808 ≤ x → x ≤ 9223372036854775807 → wrap64 x = x := fun x h1 h2 => by unfold wrap64; omega
    rw [hin yw (by omega) (by omega), hin (yw + s.x) (by omega) (by omega)]
    obtain ⟨o0, h0⟩ : ∃ o, o = yw + s.x := ⟨_, rfl⟩
    rw [← h0, hin (10 * o0) (by omega) (by omega), hin (10 * o0 + s.d.t) (by omega) (by omega)]
    obtain ⟨o1, h1⟩ : ∃ o, o = 10 * o0 + s.d.t := ⟨_, rfl⟩
    rw [← h1, hin (10 * o1) (by omega) (by omega), hin (10 * o1 + s.d.n) (by omega) (by omega)]
    obtain ⟨o2, h2⟩ : ∃ o, o = 10 * o1 + s.d.n := ⟨_, rfl⟩
    rw [← h2, hin (10 * o2) (by omega) (by omega), hin (10 * o2 + s.d.e) (by omega) (by omega)]
    obtain ⟨o3, h3⟩ : ∃ o, o = 10 * o2 + s.d.e := ⟨_, rfl⟩
    rw [← h3, hin (10 * o3) (by omega) (by omega), hin (10 * o3 + s.d.s) (by omega) (by omega)]
    obtain ⟨o4, h4⟩ : ∃ o, o = 10 * o3 + s.d.s := ⟨_, rfl⟩
    rw [← h4, hin (10 * o4) (by omega) (by omega), hin (10 * o4 + s.d.w) (by omega) (by omega)]
    obtain ⟨o5, h5⟩ : ∃ o, o = 10 * o4 + s.d.w := ⟨_, rfl⟩
    rw [← h5, hin (10 * o5) (by omega) (by omega), hin (10 * o5 + s.d.b) (by omega) (by omega)])
  clear HRES hd hy hx y1 y2
  generalize codeS W s = res at HEX ⊢
  have G0 := (IsG.new (w := w) (x := (W : Int)) (y := (H : Int)) (v := .slice (some ⟨g, 0, none⟩) n cap)).alloc (.cells #[.int .i64 s.x, .int .i64 s.y, .int .i64 s.d.t, .int .i64 s.d.n, .int .i64 s.d.e, .int .i64 s.d.s, .int .i64 s.d.w, .int .i64 s.d.b] 30)
  have S0 := IsS.new2 (w := w) (o := (.cells #[.int .i64 (W : Int), .int .i64 (H : Int), .slice (some ⟨g, 0, none⟩) n cap] 59)) (s := s) (ty := 30)
  have q0 : Below w.heap.size w ((w.alloc (.cells #[.int .i64 (W : Int), .int .i64 (H : Int), .slice (some ⟨g, 0, none⟩) n cap] 59)).alloc (.cells #[.int .i64 s.x, .int .i64 s.y, .int .i64 s.d.t, .int .i64 s.d.n, .int .i64 s.d.e, .int .i64 s.d.s, .int .i64 s.d.w, .int .i64 s.d.b] 30)) := by go_grown
  go_enter Tryd.func71, Tryd.ntmps71
  go_upto_region 1 with (fail)
  generalize (w.alloc (.cells #[.int .i64 (W : Int), .int .i64 (H : Int), .slice (some ⟨g, 0, none⟩) n cap] 59)).alloc (.cells #[.int .i64 s.x, .int .i64 s.y, .int .i64 s.d.t, .int .i64 s.d.n, .int .i64 s.d.e, .int .i64 s.d.s, .int .i64 s.d.w, .int .i64 s.d.b] 30) = W0 at G0 S0 q0 ⊢
  obtain ⟨lg, ⟨c0, c1, c2⟩, -⟩ := G0.all
  obtain ⟨l0, ⟨a0, a1, a2, a3, a4, a5, a6, a7⟩, -⟩ := S0.all
  go_wp2_with (go_at_call 97; fail)
  refine (diFacesB s.d _).mono ?_
  rintro e w1 ⟨b, rfl, hD, hb1⟩
  have q1 := below_to hb1 q0 q0.size rfl rfl rfl rfl
  clear hb1 G0 S0 q0 c0 c1 c2 lg a0 a1 a2 a3 a4 a5 a6 a7 l0
  obtain ⟨lb, ⟨d0, d1, d2, d3, d4, d5⟩, -⟩ := hD.all
  go_wp2_with fail
  go_rounds 7
  go_returns
  exact ⟨ret_int HEX.out, q1⟩
set_option maxHeartbeats 1600000 in
theorem wyPlace_any (gc cap : Nat) (Cs : List Int) (x : Int) (hn : Cs.length ≤ 1000) (w : World) (hc : ∀ k a, Cs[k]? = some a → w.cell? ⟨gc, k, none⟩ = some (.int .i64 a)) : Calls Tryd.prog 73 #[.slice (some ⟨gc, 0, none⟩) Cs.length cap, .int .i64 x] w fun e w' => e = .returned (.int .i64 (plc Cs x 0)) ∧ w = w' := by
  have HC := hide hc
  have HP := hide (show ∀ k (a : Int), Cs[k]? = some a → plc (Cs.drop k) x k = if a = x then (k : Int) else plc (Cs.drop (k + 1)) x (k + 1) from fun k a h => by
    have hl := (List.getElem?_eq_some_iff.1 h).1
    have hd : Cs.drop k = a :: Cs.drop (k + 1) := by
      rw [List.drop_eq_getElem_cons hl, (List.getElem?_eq_some_iff.1 h).2]
    rw [hd]
    rfl)
  have HE := hide (show plc (Cs.drop Cs.length) x Cs.length = -1 from by rw [List.drop_length]; rfl)
  obtain ⟨res, hres⟩ : ∃ r, r = plc Cs x 0 := ⟨_, rfl⟩
  rw [← hres]
  have HR := hide hres
  clear hc hres
  generalize hN : Cs.length = N at hn HE ⊢
  go_enter Tryd.func73, Tryd.ntmps73
  go_wp2
  go_loop [9, 5, 6] (fun i _ _ => ∃ k : Nat, k ≤ N ∧ i = .int .i64 (k : Int) ∧ Hid (res = plc (Cs.drop k) x k)) (fun i _ _ => N - (intOf i).toNat)
  case atStart => exact ⟨0, Nat.zero_le _, rfl, HR.out⟩
  case round =>
    obtain ⟨k, hk, rfl, hr⟩ := hrel
    by_cases hlt : k < N
    · have hki : (k : Int) < (N : Int) := by omega
      have ha : Cs[k]? = some (Cs[k]'(by omega)) := List.getElem?_eq_getElem (by omega)
      generalize Cs[k]'(by omega) = a at ha
      have a0 := HC.out k a ha
      have HS := hide (HP.out k a ha)
      clear ha
      by_cases hax : a = x
      · have e0 : (a == x) = true := by simpa using hax
        have HRES := hide (show res = (k : Int) from by rw [hr.out, HS.out, if_pos hax])
        clear hax
        go_wp2
        go_returns
        exact ⟨ret_int HRES.out.symm, rfl⟩
      · have e0 : (a == x) = false := by simpa using hax
        have HRES := hide (show res = plc (Cs.drop (k + 1)) x (k + 1) from by rw [hr.out, HS.out, if_neg hax])
        clear hax
        go_wp2
        go_round
        case rel => exact ⟨k + 1, by omega, by go_num, HRES.out⟩
        case measure => simp [intOf]; omega
    · obtain rfl : k = N := by omega
      have HRES := hide (show res = -1 from by rw [hr.out, HE.out])
      go_wp2
      go_returns
      exact ⟨ret_int HRES.out.symm, rfl⟩
end Go.Proofs.YthdkhikkdcjifaaDoor
