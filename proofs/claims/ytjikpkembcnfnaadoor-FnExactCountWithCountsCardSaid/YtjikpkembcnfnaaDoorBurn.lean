/- How many colourings there are up to turns: countUpTo of the program over powers; the model's sum. -/
import Derived.Test.YtjikpkembcnfnaaDoorWalksCK
import Derived.Test.YtjikpkembcnfnaaDoorDieSB
namespace Go.Proofs.YtjikpkembcnfnaaDoor
set_option maxRecDepth 100000
set_option linter.all false
open Go.RowKit

/-- How many colourings some turns keep together. -/
def sumK (k : Nat) (P : List D) : Int := (P.map fun p => pw k (cycL p).length).sum
theorem sumK_nil (k : Nat) : sumK k [] = 0 := rfl
theorem sumK_append (k : Nat) (P Q : List D) : sumK k (P ++ Q) = sumK k P + sumK k Q := by
  unfold sumK
  rw [List.map_append, List.sum_append]
theorem sumK_one (k : Nat) (p : D) : sumK k [p] = pw k (cycL p).length := by simp [sumK]
theorem sumK_snoc {k j : Nat} {P : List D} {p : D} (h : P[j]? = some p) : sumK k (P.take (j + 1)) = sumK k (P.take j) + pw k (cycL p).length := by
  rw [List.take_add_one, h, sumK_append]
  show _ + sumK k [p] = _
  rw [sumK_one]
theorem cyc6 {p : D} (h : p ∈ wayz) : (cycL p).length ≤ 6 := (cyc_facts p h).2.2.2.1
theorem sumK_bd {k : Nat} (hk : k ≤ 9) : ∀ (P : List D), (∀ p ∈ P, p ∈ wayz) → 0 ≤ sumK k P ∧ sumK k P ≤ 531441 * (P.length : Int)
  | [], _ => ⟨Int.le_refl _, Int.le_refl _⟩
  | p :: P, h => by
    have ih := sumK_bd hk P (fun q hq => h q (List.mem_cons_of_mem _ hq))
    have hb := pw_facts hk (cyc6 (h p List.mem_cons_self))
    have e : sumK k (p :: P) = pw k (cycL p).length + sumK k P := by simp [sumK]
    rw [e, List.length_cons]
    omega
theorem up_get {P : List D} {j : Nat} {p : D} (h : P[j]? = some p) : (P.map (mapD up))[j]? = some (mapD up p) := by rw [List.getElem?_map, h]; rfl
set_option maxHeartbeats 1600000 in
theorem countUpTo_any (k : Nat) (hk : k ≤ 9) (P : List D) (hP : ∀ p ∈ P, p ∈ wayz) (g cap n b : Nat) (hn : n = P.length) (h0 : 0 < n) (h48 : n ≤ 48) (w : World) (hD : DAt w g 0 (P.map (mapD up))) (hb : IsK w b (k : Int)) :
    Calls Tryd.prog 42 #[.slice (some ⟨g, 0, none⟩) n cap, .func (.func 74) #[] #[.pointer (some ⟨b, 0, none⟩)]] w fun e w' => e = .returned (.int .i64 (sumK k P / (n : Int))) ∧ Below w.heap.size w w' := by
  have HD := hide hD
  have HB := hide hb
  have HN := hide hn
  have HP := hide hP
  have hbd := sumK_bd hk P hP
  have hbd2 : 0 ≤ sumK k P ∧ sumK k P ≤ 531441 * 48 := by rw [← hn] at hbd; omega
  have hn0 : (0 : Int) < (n : Int) := by omega
  clear hD hb hn hP hbd
  obtain ⟨S, hS⟩ : ∃ S, S = sumK k P := ⟨_, rfl⟩
  rw [← hS] at hbd2 ⊢
  have HSS := hide hS
  clear hS
  go_enter Tryd.func42, Tryd.ntmps42
  go_wp2
  go_loopw [10, 5] (fun i s wr => ∃ j : Nat, j ≤ n ∧ i = .int .i64 (j : Int) ∧ s = .int .i64 (sumK k (P.take j)) ∧ Below w.heap.size w wr) (fun i _ _ => n - (intOf i).toNat)
  case atStart => exact ⟨0, Nat.zero_le _, rfl, rfl, Below.refl _ _⟩
  case round =>
    obtain ⟨j, hj, rfl, rfl, q⟩ := hrel
    by_cases hlt : j < n
    · have hji : (j : Int) < (n : Int) := by omega
      have hx : P[j]? = some (P[j]'(by have := HN.out; omega)) := List.getElem?_eq_getElem (by have := HN.out; omega)
      generalize P[j]'(by have := HN.out; omega) = p at hx
      have hp := HP.out p (List.mem_of_getElem? hx)
      have HC := hide (cyclesOf_any p hp)
      have h6 := cyc6 hp
      have hpb := pw_facts hk h6
      have hs := sumK_snoc (k := k) hx
      have hs1 := sumK_bd hk (P.take j) (fun q hq => HP.out q (List.mem_of_mem_take hq))
      have hl : ((P.take j).length : Int) ≤ 48 := by rw [List.length_take]; omega
      have hDx := (dAt_to q HD.out rfl).cells0 (up_get hx)
      have HK := hide (fun (v : Option Addr) (c : Nat) (wx : World) (hx : IsK wx b (k : Int)) => powerK_any k (cycL p).length b v c wx hk h6 hx)
      generalize hu : mapD up p = u at hDx HC
      have HU := hide hu
      generalize hL : cycL p = L at HC hs hpb HK h6
      have HL := hide hL
      generalize hln : L.length = ln at HC hs hpb HK h6
      have HLN := hide hln
      generalize hpw : pw k ln = pv at hs hpb HK
      have HPW := hide hpw
      generalize hsj : sumK k (P.take j) = sj at hs hs1 ⊢
      have hsb : 0 ≤ sj ∧ sj ≤ 531441 * 48 := by omega
      have HS := hide hs
      clear hx hp hu hL hln hpw hsj hs hs1 hl
      obtain ⟨c0, c1, c2, c3, c4, c5⟩ := hDx
      go_wp2_with fail
      refine (HC.out _).mono ?_
      rintro e w1 ⟨v, rfl, O1, hb1⟩
      have q1 := below_to hb1 (q.alloc q.size (.cells #[.int .i64 u.t, .int .i64 u.n, .int .i64 u.e, .int .i64 u.s, .int .i64 u.w, .int .i64 u.b] 30)) (by have := q.size; simp; omega) rfl rfl rfl rfl
      have K1 := hide (IsK.to (w0 := wr) (by exact Below.trans ((Below.refl _ _).alloc (Nat.le_refl _) _) (hb1.mono (by simp))) (IsK.to q HB.out rfl) rfl)
      obtain ⟨pa, pc, rfl⟩ : ∃ pa pc, v = .slice pa ln pc := by
        rcases own_forms O1 with ⟨rfl, h0⟩ | ⟨g, cap, rfl, _, _⟩
        · exact ⟨none, 0, by rw [h0]⟩
        · exact ⟨_, cap, rfl⟩
      clear hb1 O1 q c0 c1 c2 c3 c4 c5
      go_wp2_with fail
      refine (HK.out pa pc _ K1.out).mono ?_
      rintro e w2 ⟨rfl, rfl⟩
      go_wp2
      go_roundw
      case rel => exact ⟨j + 1, by omega, by go_num, by rw [HS.out], q1⟩
      case measure => simp [intOf] <;> omega
    · obtain rfl : j = n := by omega
      have he : sumK k (P.take j) = S := by rw [HSS.out, List.take_of_length_le (by have := HN.out; omega)]
      rw [he]
      clear he
      go_wp2
      go_returns
      exact ⟨rfl, q⟩
end Go.Proofs.YtjikpkembcnfnaaDoor
