/- Lists of dice for towers: which are some. -/
import Derived.Test.YtkiocklkpnjejaaDieS
import Derived.Test.YtkiocklkpnjejaaGood
namespace Go.Proofs.Ytkiocklkpnjejaa
set_option maxRecDepth 100000
set_option linter.all false
open Go.RowKit

/-- A list of one to four dice. -/
def towB (L : List D) : Bool := decide (1 ≤ L.length ∧ L.length ≤ 4) && L.all goodB
theorem towB_good {L : List D} (h : towB L = true) {i : Nat} {d : D} (hi : L[i]? = some d) : goodB d = true := by
  unfold towB at h
  simp only [Bool.and_eq_true, List.all_eq_true] at h
  exact h.2 d (List.mem_of_getElem? hi)
theorem towB_len {L : List D} (h : towB L = true) : 1 ≤ L.length ∧ L.length ≤ 4 := by
  unfold towB at h
  simp only [Bool.and_eq_true, decide_eq_true_eq] at h
  exact h.1
theorem badDie_any (d : D) (w : World) : Calls Try.prog 96 #[D.v d] w fun e w' => e = .returned (.bool (!goodB d)) ∧ Below w.heap.size w w' := by
  generalize hg : goodB d = g
  have HG := hide hg
  clear hg
  go_enter Try.func96, Try.ntmps96
  go_wp2_with fail
  refine (isDie_any d _).mono ?_
  rintro e w1 ⟨rfl, hb1⟩
  rw [HG.out]
  have q1 : Below w.heap.size w w1 := below_after (by go_grown) hb1 (by simp)
  clear hb1
  go_wp2
  go_returns
  exact ⟨rfl, q1⟩
theorem all_snoc {L : List D} {k : Nat} {d : D} (h : (L.take k).all goodB = true) (hd : L[k]? = some d) (hg : goodB d = true) : (L.take (k + 1)).all goodB = true := by
  rw [List.take_add_one, hd, List.all_append, h]
  simpa using hg
theorem all_no {L : List D} {k : Nat} {d : D} (hd : L[k]? = some d) (hg : goodB d = false) : L.all goodB = false := by
  rw [List.all_eq_false]
  exact ⟨d, List.mem_of_getElem? hd, by simp [hg]⟩
set_option maxHeartbeats 800000 in
theorem idxD_any (g cap n : Nat) (L : List D) (w : World) (hn : n = L.length) (h4 : n ≤ 1048576) (hD : DAt w g 0 L) : Calls Try.prog 105 #[.slice (some ⟨g, 0, none⟩) n cap, .func (.func 96) #[] #[]] w fun e w' => ∃ r : Int, e = .returned (.int .i64 r) ∧ decide (0 ≤ r) = !(L.all goodB) ∧ Below w.heap.size w w' := by
  have HD := hide hD
  have HN := hide hn
  clear hD hn
  go_enter Try.func105, Try.ntmps105
  go_wp2
  go_loopw [8, 5] (fun i _ wr => ∃ k : Nat, k ≤ n ∧ i = .int .i64 (k : Int) ∧ (L.take k).all goodB = true ∧ Below w.heap.size w wr) (fun i _ _ => n - (intOf i).toNat)
  case atStart => exact ⟨0, Nat.zero_le _, rfl, rfl, Below.refl _ _⟩
  case round =>
    obtain ⟨k, hk, rfl, hall, q⟩ := hrel
    by_cases hlt : k < n
    · have hki : (k : Int) < (n : Int) := by omega
      have hx : L[k]? = some (L[k]'(by have := HN.out; omega)) := List.getElem?_eq_getElem (by have := HN.out; omega)
      generalize L[k]'(by have := HN.out; omega) = d at hx
      obtain ⟨c0, c1, c2, c3, c4, c5⟩ := (dAt_to q HD.out rfl).cells0 hx
      generalize hg : goodB d = gd
      have HG := hide hg
      have HX := hide hx
      have HA := hide hall
      clear hx hg hall
      go_wp2_with fail
      refine (badDie_any d _).mono ?_
      rintro e w1 ⟨rfl, hb1⟩
      rw [HG.out]
      have q1 := below_to hb1 q q.size rfl rfl rfl rfl
      clear hb1 q c0 c1 c2 c3 c4 c5
      cases gd
      · have HF := hide (all_no HX.out HG.out)
        go_wp2
        go_returns
        exact ⟨_, rfl, by rw [HF.out]; simp, q1⟩
      · have HT := hide (all_snoc HA.out HX.out HG.out)
        go_wp2
        go_roundw
        case rel => exact ⟨k + 1, by omega, by go_num, HT.out, q1⟩
        case measure => simp [intOf] <;> omega
    · obtain rfl : k = n := by omega
      have HF := hide (show L.all goodB = true from by rw [← hall, List.take_of_length_le (by have := HN.out; omega)])
      clear hall
      go_wp2
      go_returns
      exact ⟨_, rfl, by rw [HF.out]; rfl, q⟩
theorem hasBad_any (g cap n : Nat) (L : List D) (w : World) (hn : n = L.length) (h4 : n ≤ 1048576) (hD : DAt w g 0 L) : Calls Try.prog 95 #[.slice (some ⟨g, 0, none⟩) n cap, .func (.func 96) #[] #[]] w fun e w' => e = .returned (.bool (!(L.all goodB))) ∧ Below w.heap.size w w' := by
  have HC := hide (idxD_any g cap n L w hn h4 hD)
  clear hD hn
  go_enter Try.func95, Try.ntmps95
  go_wp2_with fail
  refine HC.out.mono ?_
  rintro e w1 ⟨r, rfl, hr, q1⟩
  have HR := hide hr
  clear hr HC
  go_wp2
  go_returns
  exact ⟨ret_bool HR.out, q1⟩
set_option maxHeartbeats 800000 in
theorem isListForTower_any (g cap n : Nat) (L : List D) (w : World) (hn : n = L.length) (h4 : n ≤ 1048576) (hD : DAt w g 0 L) : Calls Try.prog 67 #[.slice (some ⟨g, 0, none⟩) n cap] w fun e w' => e = .returned (.bool (towB L)) ∧ Below w.heap.size w w' := by
  have HC := hide (hasBad_any g cap n L w hn h4 hD)
  have HT := hide (show towB L = (decide (1 ≤ n ∧ n ≤ 4) && L.all goodB) from by rw [hn]; rfl)
  clear hD hn
  generalize L.all goodB = al at HC HT
  rw [HT.out]
  by_cases h1 : 1 ≤ n ∧ n ≤ 4
  · rw [decide_eq_true h1, Bool.true_and]
    have h2 : (1 : Int) ≤ (n : Int) := by omega
    have h3 : (n : Int) ≤ 4 := by omega
    clear HT h1
    go_enter Try.func67, Try.ntmps67
    go_wp2_with fail
    refine HC.out.mono ?_
    rintro e w1 ⟨rfl, q1⟩
    go_wp2
    go_returns
    exact ⟨ret_bool (by simp), q1⟩
  · rw [decide_eq_false h1, Bool.false_and]
    clear HT
    by_cases h2 : 1 ≤ n
    · have h3 : ¬ (n : Int) ≤ 4 := by omega
      have h2i : (1 : Int) ≤ (n : Int) := by omega
      clear h1
      go_enter Try.func67, Try.ntmps67
      go_wp2
      go_returns
      exact ⟨rfl, Below.refl _ _⟩
    · have h2i : ¬ (1 : Int) ≤ (n : Int) := by omega
      clear h1
      go_enter Try.func67, Try.ntmps67
      go_wp2
      go_returns
      exact ⟨rfl, Below.refl _ _⟩
set_option maxHeartbeats 1600000 in
theorem clDice_any (g cap n : Nat) (L : List D) (w : World) (hn : n = L.length) (h4 : n ≤ 1048576) (hD : DAt w g 0 L) : Calls Try.prog 64 #[.slice (some ⟨g, 0, none⟩) n cap] w fun e w' => e = .returned (.bool (towB L)) ∧ Below w.heap.size w w' := by
  have HT := hide (show towB L = (decide (1 ≤ n ∧ n ≤ 4) && L.all goodB) from by rw [hn]; rfl)
  have HD := hide hD
  have HN := hide hn
  clear hD hn
  by_cases h1 : 1 ≤ n ∧ n ≤ 4
  · rw [decide_eq_true h1, Bool.true_and] at HT
    rw [HT.out]
    have h2 : (1 : Int) ≤ (n : Int) := by omega
    have h3 : (n : Int) ≤ 4 := by omega
    have HE := hide (show decide ((1 : Int) ≤ (n : Int) ∧ (n : Int) ≤ 4) = true from decide_eq_true ⟨h2, h3⟩)
    clear HT h1
    go_enter Try.func64, Try.ntmps64
    go_wp2_with fail
    refine (l1In_any _ _ _ _).mono ?_
    rintro e w1 ⟨rfl, rfl⟩
    rw [HE.out]
    go_wp2
    go_loopw [11, 4] (fun i _ wr => ∃ k : Nat, k ≤ n ∧ i = .int .i64 (k : Int) ∧ (L.take k).all goodB = true ∧ Below w.heap.size w wr) (fun i _ _ => n - (intOf i).toNat)
    case atStart => exact ⟨0, Nat.zero_le _, rfl, rfl, Below.refl _ _⟩
    case round =>
      obtain ⟨k, hk, rfl, hall, q⟩ := hrel
      by_cases hlt : k < n
      · have hki : (k : Int) < (n : Int) := by omega
        have hx : L[k]? = some (L[k]'(by have := HN.out; omega)) := List.getElem?_eq_getElem (by have := HN.out; omega)
        generalize L[k]'(by have := HN.out; omega) = d at hx
        obtain ⟨c0, c1, c2, c3, c4, c5⟩ := (dAt_to q HD.out rfl).cells0 hx
        generalize hg : goodB d = gd
        have HG := hide hg
        have HX := hide hx
        have HA := hide hall
        clear hx hg hall
        go_wp2_with fail
        refine (diGood_any d _).mono ?_
        rintro e w1 ⟨rfl, hb1⟩
        rw [HG.out]
        have q1 : Below w.heap.size w w1 := below_after (q.alloc q.size (.cells #[.int .i64 d.t, .int .i64 d.n, .int .i64 d.e, .int .i64 d.s, .int .i64 d.w, .int .i64 d.b] 30)) hb1 (by have := q.size; simp; omega)
        clear hb1 q c0 c1 c2 c3 c4 c5
        cases gd
        · have HF := hide (all_no HX.out HG.out)
          go_wp2
          go_returns
          exact ⟨ret_bool HF.out.symm, q1⟩
        · have HT := hide (all_snoc HA.out HX.out HG.out)
          go_wp2
          go_roundw
          case rel => exact ⟨k + 1, by omega, by go_num, HT.out, q1⟩
          case measure => simp [intOf] <;> omega
      · obtain rfl : k = n := by omega
        have HF := hide (show L.all goodB = true from by rw [← hall, List.take_of_length_le (by have := HN.out; omega)])
        clear hall
        go_wp2
        go_returns
        exact ⟨ret_bool HF.out.symm, q⟩
  · rw [decide_eq_false h1, Bool.false_and] at HT
    rw [HT.out]
    have HE := hide (show decide ((1 : Int) ≤ (n : Int) ∧ (n : Int) ≤ 4) = false from decide_eq_false (by omega))
    clear HT HD HN
    by_cases h2 : 1 ≤ n
    · have h3 : ¬ (n : Int) ≤ 4 := by omega
      have h2i : (1 : Int) ≤ (n : Int) := by omega
      clear h1
      go_enter Try.func64, Try.ntmps64
      go_wp2_with fail
      refine (l1In_any _ _ _ _).mono ?_
      rintro e w1 ⟨rfl, rfl⟩
      rw [HE.out]
      go_wp2
      go_returns
      exact ⟨rfl, Below.refl _ _⟩
    · have h2i : ¬ (1 : Int) ≤ (n : Int) := by omega
      clear h1
      go_enter Try.func64, Try.ntmps64
      go_wp2_with fail
      refine (l1In_any _ _ _ _).mono ?_
      rintro e w1 ⟨rfl, rfl⟩
      rw [HE.out]
      go_wp2
      go_returns
      exact ⟨rfl, Below.refl _ _⟩
end Go.Proofs.Ytkiocklkpnjejaa
