/- The walk of the law of HasTwoLoops. -/
import Derived.Test.YtkiocklkpnjejaaTwo
namespace Go.Proofs.Ytkiocklkpnjejaa
set_option maxRecDepth 100000
set_option linter.all false
open Go.RowKit

theorem below_n {B n : Nat} {a b : World} (h : Below B a b) : Below B a (b.drewN n) := ⟨h.os, h.tape, h.output, h.size, h.block⟩
theorem alL_facts {L : List D} {i : Nat} {a : List Int} (h : (alL L)[i]? = some a) : a.length = L.length ∧ L.length ≤ 4 ∧ 1 ≤ L.length ∧ towB L = true := by
  unfold alL at h
  cases h1 : towB L
  · rw [h1, if_neg (by decide)] at h
    simp at h
  · rw [h1, if_pos rfl] at h
    have hl := towB_len h1
    exact ⟨loopsK_mem (List.mem_of_getElem? h), hl.2, hl.1, rfl⟩
theorem ss_cap {w : World} {B T g n cap : Nat} {L : List (List Int)} (h : SS w B T (.slice (some ⟨g, 0, none⟩) n cap) L) (h0 : 0 < L.length) : n ≤ cap := by
  obtain ⟨vs, h1, h2, -⟩ := h
  obtain ⟨_, _, hv, _, _, hh, _⟩ := own_formN h2 h0
  have hn : n = L.length := by
    rcases own_forms h2 with ⟨h, _⟩ | ⟨g', cap', h, _, _⟩
    · cases h
    · cases h; rfl
  cases hv
  omega
/-- One of the rows, which is not empty. -/
theorem ss_rowN {w : World} {B T g cap n m : Nat} {L : List (List Int)} (h : SS w B T (.slice (some ⟨g, 0, none⟩) m cap) L) {i : Nat} {l : List Int} (hl : L[i]? = some l) (hn : l.length = n) (h1 : 1 ≤ n) : ∃ q c, w.cell? ⟨g, i, none⟩ = some (.slice (some ⟨q, 0, none⟩) n c) ∧ w.ownsRow B 3 1 (.slice (some ⟨q, 0, none⟩) n c) n (ints l) := by
  obtain ⟨p, c, h2, h3⟩ := ss_row h hl
  rw [hn] at h2 h3
  obtain ⟨q, c', e, -⟩ := own_form h3 (by omega)
  cases e
  exact ⟨q, c, h2, h3⟩
set_option maxHeartbeats 3200000 in
theorem implHT_any (g n : Nat) (L : List D) (w : World) (hn : n = L.length) (h4 : n ≤ 1048576) (hD : DAt w g 0 L) : Calls Try.prog 44 #[.slice (some ⟨g, 0, none⟩) n n] w fun e w' => e = .returned (.tuple #[.bool (htB L), .bool (towB L)]) ∧ Below w.heap.size w w' := by
  have HC := hide (implAL_any g n L w hn h4 hD)
  have hlen := (alL_len L).1
  have HXF := hide (fun (i : Nat) (a : List Int) (h : (alL L)[i]? = some a) => alL_facts h)
  unfold htB
  unfold AlPost at HC
  rw [← hn] at HXF ⊢
  obtain ⟨X, hX⟩ : ∃ X, X = alL L := ⟨_, rfl⟩
  obtain ⟨tb, htb⟩ : ∃ tb, tb = towB L := ⟨_, rfl⟩
  rw [← hX] at HC hlen HXF ⊢
  rw [← htb] at HC HXF ⊢
  clear hD hn hX htb
  obtain ⟨m, hm⟩ : ∃ m, m = X.length := ⟨_, rfl⟩
  have HM := hide hm
  have hmi : (m : Int) ≤ 100000 := by omega
  clear hm
  have HNO := hide (fun h => two_no (n := n) (X := X) (fun i a hi => (HXF.out i a hi).2.2.1) h)
  have HYES := hide (fun (i j : Nat) (a b : List Int) (ha : X[i]? = some a) (hb : X[j]? = some b) (h : apB n a b = true) => two_yes ha hb h)
  obtain ⟨r, hr⟩ : ∃ r, r = twB2 n X := ⟨_, rfl⟩
  rw [← hr] at HNO HYES ⊢
  clear hr
  go_enter Try.func44, Try.ntmps44
  go_wp2_with fail
  refine HC.out.mono ?_
  rintro e w1 ⟨v, rfl, S, q1⟩
  have HQ1 := hide q1
  clear HC q1
  rcases ss_form S with ⟨rfl, h0⟩ | ⟨gx, cap, rfl, -⟩
  · have HF := hide (HNO.out (fun i j a b _ ha _ => by
      have := (List.getElem?_eq_some_iff.1 ha).1
      omega))
    clear S
    go_wp2
    go_loopw [17] (fun iv wr => iv = .int .i64 0 ∧ Below w.heap.size w wr) (fun _ _ => 0)
    case atStart => exact ⟨rfl, HQ1.out⟩
    case round =>
      obtain ⟨rfl, q⟩ := hrel
      clear HQ1
      go_wp2
      go_returns
      exact ⟨by rw [HF.out]; rfl, q⟩
  · rw [← HM.out] at S ⊢
    have HS := hide S
    clear S
    go_wp2
    go_loopw [17] (fun iv wr => ∃ i : Nat, i ≤ m ∧ iv = .int .i64 (i : Int) ∧ (∀ (i' j : Nat) (a b : List Int), i' < i → i' < j → X[i']? = some a → X[j]? = some b → apB n a b = false) ∧ Below w1.heap.size w1 wr) (fun iv _ => m - (intOf iv).toNat)
    case atStart => exact ⟨0, Nat.zero_le _, rfl, fun i' j a b h => absurd h (Nat.not_lt_zero _), Below.refl _ _⟩
    case round =>
      rename World => wa
      obtain ⟨i, hi, rfl, hno, q⟩ := hrel
      have HN1 := hide hno
      clear hno
      by_cases hlt : i < m
      · have hii : (i : Int) < (m : Int) := by omega
        have hx : X[i]? = some (X[i]'(by have := HM.out; omega)) := List.getElem?_eq_getElem (by have := HM.out; omega)
        generalize X[i]'(by have := HM.out; omega) = a at hx
        obtain ⟨hal, hn4, hn1, htb⟩ := HXF.out i a hx
        have HTB := hide htb
        clear htb
        have S2 := hide (ss_to q HS.out rfl)
        obtain ⟨ga, ca, c1, O1⟩ := ss_rowN S2.out hx hal hn1
        have hcap : m ≤ cap := ss_cap S2.out (by have := HM.out; omega)
        have hs : ∀ wx : World, (Instr.slice 51 (.slice (some ⟨gx, 0, none⟩) m cap) (some (.int .i64 ((i : Int) + 1))) none none).run Try.prog wx = .ok (.slice (some ⟨gx, if cap = i + 1 then 0 else i + 1, none⟩) (m - (i + 1)) (cap - (i + 1))) wx := fun wx => run_hiS gx m cap (i + 1) (by omega) hcap wx
        obtain ⟨o, ho⟩ : ∃ o, o = if cap = i + 1 then 0 else i + 1 := ⟨_, rfl⟩
        rw [← ho] at hs
        have HO := hide (show 0 < m - (i + 1) → o = i + 1 from fun h => by rw [ho, if_neg (by omega)])
        obtain ⟨z, hz⟩ : ∃ z, z = m - (i + 1) := ⟨_, rfl⟩
        obtain ⟨cz, hcz⟩ : ∃ cz, cz = cap - (i + 1) := ⟨_, rfl⟩
        rw [← hz] at hs HO
        rw [← hcz] at hs
        have hz1 : z ≤ cz := by omega
        have hzi : (z : Int) ≤ 100000 := by omega
        have hzm : i + 1 + z = m := by omega
        have HX := hide hx
        have HO1 := hide O1
        have HQ := hide q
        clear hx O1 q ho hz hcz
        go_wp2
        clear c1 hs
        go_loopw [27] (fun jv wr => ∃ j : Nat, j ≤ z ∧ jv = .int .i64 (j : Int) ∧ (∀ (j' : Nat) (b : List Int), j' < j → X[i + 1 + j']? = some b → apB n a b = false) ∧ Below wa.heap.size wa wr) (fun jv _ => z - (intOf jv).toNat)
        case atStart => exact ⟨0, Nat.zero_le _, rfl, fun j' b h => absurd h (Nat.not_lt_zero _), Below.refl _ _⟩
        case round =>
          rename World => wb
          obtain ⟨j, hj, rfl, hno, q⟩ := hrel
          have HN2 := hide hno
          clear hno
          by_cases hlj : j < z
          · have hji : (j : Int) < (z : Int) := by omega
            have hoo := HO.out (by omega)
            subst hoo
            have hy : X[i + 1 + j]? = some (X[i + 1 + j]'(by have := HM.out; omega)) := List.getElem?_eq_getElem (by have := HM.out; omega)
            generalize X[i + 1 + j]'(by have := HM.out; omega) = b at hy
            have hbl := (HXF.out _ b hy).1
            obtain ⟨gb, cb, c2, O2⟩ := ss_rowN (ss_to q S2.out rfl) hy hbl hn1
            have HAP := hide (fun (W : World) (e : W.heap = wb.heap) => areApart_any ga gb ca cb n _ _ a b W hn4 hal hbl (own_same (own_to q HO1.out rfl) e) (own_same O2 e))
            have HY := hide hy
            have HQ2 := hide q
            clear hy O2 q
            go_wp2_with fail
            refine (HAP.out _ rfl).mono ?_
            rintro e w4 ⟨rfl, hb4⟩
            have HQ4 := hide (below_to hb4 HQ2.out HQ2.out.size rfl rfl rfl rfl)
            clear hb4 HQ2 HAP c2
            cases hap : apB n a b
            · have HP := hide hap
              clear hap
              go_wp2
              go_roundw
              case rel =>
                refine ⟨j + 1, by omega, by go_num, fun j' b' h1 h2 => ?_, HQ4.out⟩
                rcases Nat.lt_or_ge j' j with h | h
                · exact HN2.out j' b' h h2
                · obtain rfl : j' = j := by omega
                  rw [HY.out] at h2
                  cases h2
                  exact HP.out
              case measure => simp [intOf] <;> omega
            · have HF := hide (HYES.out i _ a b HX.out HY.out hap)
              have HQ5 := hide (below_to HQ4.out (below_to HQ.out HQ1.out HQ1.out.size rfl rfl rfl rfl) (by have := HQ.out.size; have := HQ1.out.size; omega) rfl rfl rfl rfl)
              clear hap HQ4 HQ
              go_wp2
              go_returns
              exact ⟨by rw [HF.out, HTB.out]; rfl, HQ5.out⟩
          · obtain rfl : j = z := by omega
            have HQ5 := hide (below_to q HQ.out HQ.out.size rfl rfl rfl rfl)
            clear q HQ
            go_wp2
            go_roundw
            case rel =>
              refine ⟨i + 1, by omega, by go_num, fun i' j' a' b' h1 h2 h3 h5 => ?_, HQ5.out⟩
              rcases Nat.lt_or_ge i' i with h | h
              · exact HN1.out i' j' a' b' h h2 h3 h5
              · obtain rfl : i' = i := by omega
                rw [HX.out] at h3
                cases h3
                have hjm := (List.getElem?_eq_some_iff.1 h5).1
                have e : j' = i' + 1 + (j' - (i' + 1)) := by omega
                rw [e] at h5
                exact HN2.out (j' - (i' + 1)) b' (by have := HM.out; omega) h5
            case measure => simp [intOf] <;> omega
      · obtain rfl : i = m := by omega
        have HF := hide (HNO.out (fun i' j a b h1 h2 h3 => HN1.out i' j a b (by have := (List.getElem?_eq_some_iff.1 h2).1; have := HM.out; omega) h1 h2 h3))
        have HQ5 := hide (below_to q HQ1.out HQ1.out.size rfl rfl rfl rfl)
        clear q
        go_wp2
        go_returns
        exact ⟨by rw [HF.out]; rfl, HQ5.out⟩
set_option maxHeartbeats 800000 in
theorem specHT_no (g n : Nat) (L : List D) (w : World) (hn : n = L.length) (h4 : n ≤ 1048576) (hD : DAt w g 0 L) (h : towB L = false) : Calls Try.prog 43 #[.slice (some ⟨g, 0, none⟩) n n] w fun e w' => e = .returned (.tuple #[.bool false, .bool false]) ∧ Below w.heap.size w w' := by
  have HC := hide (clDice_any g n n L w hn h4 hD)
  rw [h] at HC
  clear hD hn h
  go_enter Try.func43, Try.ntmps43
  go_wp2_with fail
  refine HC.out.mono ?_
  rintro e w1 ⟨rfl, q1⟩
  go_wp2
  go_returns
  exact ⟨rfl, q1⟩
set_option maxHeartbeats 3200000 in
theorem specHT_yes (g n : Nat) (L : List D) (w : World) (hn : n = L.length) (h4 : n ≤ 1048576) (hD : DAt w g 0 L) (h : towB L = true) : Calls Try.prog 43 #[.slice (some ⟨g, 0, none⟩) n n] w fun e w' => e = .returned (.tuple #[.bool (htB L), .bool true]) ∧ Below w.heap.size w w' := by
  have HC := hide (clDice_any g n n L w hn h4 hD)
  rw [h] at HC
  have hl := towB_len h
  have HD := hide hD
  have hn4 : n ≤ 4 := by omega
  have hn1 : 1 ≤ n := by omega
  have hni : (n : Int) ≤ 4 := by omega
  have HLO := hide (fun (W : World) (hW : DAt W g 0 L) => clLoops_any g n L W hn hn1 hn4 hW)
  have hlen := (alL_len L).1
  have HXF := hide (fun (i : Nat) (a : List Int) (h : (alL L)[i]? = some a) => (alL_facts h).1)
  have hXE : alL L = loopsK L n (3 ^ n) := by unfold alL; rw [h, if_pos rfl, ← hn]
  unfold htB
  rw [← hn] at HXF ⊢
  obtain ⟨X, hX⟩ : ∃ X, X = alL L := ⟨_, rfl⟩
  rw [← hXE] at HLO
  rw [← hX] at HLO hlen HXF ⊢
  clear hD hn hX h hl hXE
  obtain ⟨m, hm⟩ : ∃ m, m = X.length := ⟨_, rfl⟩
  have HM := hide hm
  have hmi : (m : Int) ≤ 100000 := by omega
  clear hm
  have HNO := hide (fun h => two_no2 (n := n) (X := X) h)
  have HYES := hide (fun (i j : Nat) (a b : List Int) (ha : X[i]? = some a) (hb : X[j]? = some b) (h : apB n a b = true) => two_yes ha hb h)
  obtain ⟨r, hr⟩ : ∃ r, r = twB2 n X := ⟨_, rfl⟩
  rw [← hr] at HNO HYES ⊢
  clear hr
  go_enter Try.func43, Try.ntmps43
  go_wp2_with fail
  refine HC.out.mono ?_
  rintro e w0 ⟨rfl, q0⟩
  go_wp2_with fail
  refine (HLO.out _ (dAt_to q0 HD.out rfl)).mono ?_
  rintro e w1 ⟨v, rfl, S, hb1⟩
  have HQ1 := hide (below_to hb1 q0 q0.size rfl rfl rfl rfl)
  clear HC HLO q0 hb1
  rcases ss_form S with ⟨rfl, h0⟩ | ⟨gx, cap, rfl, -⟩
  · have HF := hide (HNO.out (fun i j a b ha _ => by
      have := (List.getElem?_eq_some_iff.1 ha).1
      omega))
    clear S
    go_wp2
    go_loopw [18] (fun iv wr => iv = .int .i64 0 ∧ Below w.heap.size w wr) (fun _ _ => 0)
    case atStart => exact ⟨rfl, HQ1.out⟩
    case round =>
      obtain ⟨rfl, q⟩ := hrel
      clear HQ1
      go_wp2
      go_returns
      exact ⟨by rw [HF.out]; rfl, q⟩
  · rw [← HM.out] at S ⊢
    have HS := hide S
    clear S
    go_wp2
    go_loopw [18] (fun iv wr => ∃ i : Nat, i ≤ m ∧ iv = .int .i64 (i : Int) ∧ (∀ (i' j : Nat) (a b : List Int), i' < i → X[i']? = some a → X[j]? = some b → apB n a b = false) ∧ Below w1.heap.size w1 wr) (fun iv _ => m - (intOf iv).toNat)
    case atStart => exact ⟨0, Nat.zero_le _, rfl, fun i' j a b h => absurd h (Nat.not_lt_zero _), Below.refl _ _⟩
    case round =>
      rename World => wa
      obtain ⟨i, hi, rfl, hno, q⟩ := hrel
      have HN1 := hide hno
      clear hno
      by_cases hlt : i < m
      · have hii : (i : Int) < (m : Int) := by omega
        have hx : X[i]? = some (X[i]'(by have := HM.out; omega)) := List.getElem?_eq_getElem (by have := HM.out; omega)
        generalize X[i]'(by have := HM.out; omega) = a at hx
        have hal := HXF.out i a hx
        have S2 := hide (ss_to q HS.out rfl)
        obtain ⟨ga, ca, c1, O1⟩ := ss_rowN S2.out hx hal hn1
        have HX := hide hx
        have HO1 := hide O1
        have HQ := hide q
        have HAL := hide hal
        clear hx O1 q hal
        go_wp2
        clear c1
        go_loopw [24] (fun jv wr => ∃ j : Nat, j ≤ m ∧ jv = .int .i64 (j : Int) ∧ (∀ (j' : Nat) (b : List Int), j' < j → X[j']? = some b → apB n a b = false) ∧ Below wa.heap.size wa wr) (fun jv _ => m - (intOf jv).toNat)
        case atStart => exact ⟨0, Nat.zero_le _, rfl, fun j' b h => absurd h (Nat.not_lt_zero _), Below.refl _ _⟩
        case round =>
          rename World => wb
          obtain ⟨j, hj, rfl, hno, q⟩ := hrel
          have HN2 := hide hno
          clear hno
          by_cases hlj : j < m
          · have hji : (j : Int) < (m : Int) := by omega
            have hy : X[j]? = some (X[j]'(by have := HM.out; omega)) := List.getElem?_eq_getElem (by have := HM.out; omega)
            generalize X[j]'(by have := HM.out; omega) = b at hy
            have hbl := HXF.out _ b hy
            obtain ⟨gb, cb, c2, O2⟩ := ss_rowN (ss_to q S2.out rfl) hy hbl hn1
            have HY := hide hy
            have HQ2 := hide q
            have HO2 := hide O2
            have HBL := hide hbl
            have HO1b := hide (own_to q HO1.out rfl)
            clear hy O2 q hbl
            go_wp2
            clear c2
            go_loopw [9, 30] (fun gv kv wr => ∃ k : Nat, k ≤ n ∧ kv = .int .i64 (k : Int) ∧ gv = .bool (apB k a b) ∧ Below wb.heap.size wb wr) (fun _ kv _ => n - (intOf kv).toNat)
            case atStart => exact ⟨0, Nat.zero_le _, rfl, by rw [apB_zero], Below.refl _ _⟩
            case round =>
              rename World => wc
              obtain ⟨k, hk, rfl, rfl, q⟩ := hrel
              by_cases hlk : k < n
              · have hki : (k : Int) < (n : Int) := by omega
                have hxa : a[k]? = some (a.getD k 0) := by
                  have : k < a.length := by rw [HAL.out]; exact hlk
                  rw [List.getD_eq_getElem?_getD, List.getElem?_eq_getElem this]
                  rfl
                have hxb : b[k]? = some (b.getD k 0) := by
                  have : k < b.length := by rw [HBL.out]; exact hlk
                  rw [List.getD_eq_getElem?_getD, List.getElem?_eq_getElem this]
                  rfl
                have c1 := ints_cell (own_to q HO1b.out rfl) k _ hxa
                have c2 := ints_cell (own_to q HO2.out rfl) k _ hxb
                have HNE := hide (apB_succ k a b)
                have HQ3 := hide q
                clear hxa hxb q
                generalize a.getD k 0 = x at c1 HNE
                generalize b.getD k 0 = y at c2 HNE
                cases hap : apB k a b
                · have HT := hide (show apB (k + 1) a b = false from by rw [HNE.out, hap]; rfl)
                  clear hap
                  go_upto_region 14 with (fail)
                  go_quiet (fail)
                  go_wp2
                  go_roundw
                  case rel => exact ⟨k + 1, by omega, by go_num, by rw [HT.out], below_n HQ3.out⟩
                  case measure => simp [intOf] <;> omega
                · have HT := hide (show apB (k + 1) a b = decide (x ≠ y) from by rw [HNE.out, hap]; rfl)
                  clear hap
                  go_upto_region 14 with (fail)
                  go_region_held3 (fun w' => w'.cell? ⟨ga, k, none⟩ = some (.int .i64 x) ∧ w'.cell? ⟨gb, k, none⟩ = some (.int .i64 y)) (first | (refine ⟨?_, ?_⟩ <;> with_reducible assumption) | (refine ⟨?_, ?_⟩ <;> assumption)) (fail)
                  go_wp2
                  go_roundw
                  case rel => exact ⟨k + 1, by omega, by go_num, by rw [HT.out]; by_cases e : x = y <;> simp [e], HQ3.out.drew⟩
                  case measure => simp [intOf] <;> omega
              · obtain rfl : k = n := by omega
                have HQ4 := hide (below_to q HQ2.out HQ2.out.size rfl rfl rfl rfl)
                clear q HQ2
                cases hap : apB k a b
                · have HP := hide hap
                  clear hap
                  go_wp2
                  go_roundw
                  case rel =>
                    refine ⟨j + 1, by omega, by go_num, fun j' b' h1 h2 => ?_, HQ4.out⟩
                    rcases Nat.lt_or_ge j' j with h | h
                    · exact HN2.out j' b' h h2
                    · obtain rfl : j' = j := by omega
                      rw [HY.out] at h2
                      cases h2
                      exact HP.out
                  case measure => simp [intOf] <;> omega
                · have HF := hide (HYES.out i _ a b HX.out HY.out hap)
                  have HQ5 := hide (below_to HQ4.out (below_to HQ.out HQ1.out HQ1.out.size rfl rfl rfl rfl) (by have := HQ.out.size; have := HQ1.out.size; omega) rfl rfl rfl rfl)
                  clear hap HQ4 HQ
                  go_wp2
                  go_returns
                  exact ⟨by rw [HF.out]; rfl, HQ5.out⟩
          · obtain rfl : j = m := by omega
            have HQ5 := hide (below_to q HQ.out HQ.out.size rfl rfl rfl rfl)
            clear q HQ
            go_wp2
            go_roundw
            case rel =>
              refine ⟨i + 1, by omega, by go_num, fun i' j' a' b' h1 h3 h5 => ?_, HQ5.out⟩
              rcases Nat.lt_or_ge i' i with h | h
              · exact HN1.out i' j' a' b' h h3 h5
              · obtain rfl : i' = i := by omega
                rw [HX.out] at h3
                cases h3
                have hjm := (List.getElem?_eq_some_iff.1 h5).1
                exact HN2.out j' b' (by have := HM.out; omega) h5
            case measure => simp [intOf] <;> omega
      · obtain rfl : i = m := by omega
        have HF := hide (HNO.out (fun i' j a b h2 h3 => HN1.out i' j a b (by have := (List.getElem?_eq_some_iff.1 h2).1; have := HM.out; omega) h2 h3))
        have HQ5 := hide (below_to q HQ1.out HQ1.out.size rfl rfl rfl rfl)
        clear q
        go_wp2
        go_returns
        exact ⟨by rw [HF.out]; rfl, HQ5.out⟩
theorem specHT_any (g n : Nat) (L : List D) (w : World) (hn : n = L.length) (h4 : n ≤ 1048576) (hD : DAt w g 0 L) : Calls Try.prog 43 #[.slice (some ⟨g, 0, none⟩) n n] w fun e w' => e = .returned (.tuple #[.bool (htB L), .bool (towB L)]) ∧ Below w.heap.size w w' := by
  cases h1 : towB L
  · have e : htB L = false := by
      unfold htB
      refine two_no2 (fun i j a b ha _ => ?_)
      have := (alL_facts ha).2.2.2
      rw [h1] at this
      cases this
    rw [e]
    exact specHT_no g n L w hn h4 hD h1
  · exact specHT_yes g n L w hn h4 hD h1
set_option maxHeartbeats 1600000 in
theorem walk_HasTwoLoops (VV0 : Value) (L0 : List D) (w : World) (hV : DsIn w VV0 L0) : Calls Try.prog 11 #[VV0] w fun e w' => e = .returned (.bool true) ∧ Below w.heap.size w w' := by
  have HV0 := hide hV
  clear hV
  by_cases hl : L0.length ≤ 1048576
  · have HL1 := hide hl
    obtain ⟨z, hz, hz0⟩ : ∃ z : Int, z = 1048576 - (L0.length : Int) ∧ 0 ≤ z := ⟨_, rfl, by omega⟩
    have HSZ := hide (show Calls Try.prog 23 #[VV0, .int .i64 1048576] w fun e w' => e = .returned (.int .i64 z) ∧ w = w' from by
      have := szDieS_any VV0 L0 1048576 w HV0.out (by omega)
      rw [if_neg (by omega), ← hz] at this
      exact this)
    have hzn : ¬ z < 0 := by omega
    clear hz hl
    obtain ⟨nn, hnn⟩ : ∃ x : Int, x = 1 + ((L0.length * 6 : Nat) : Int) := ⟨_, rfl⟩
    have hnn0 : ¬ nn < 0 := by omega
    have HNN := hide hnn
    clear hnn
    obtain ⟨z0, hz0⟩ : ∃ z, z = htB L0 := ⟨_, rfl⟩
    have HZ0 := hide hz0
    clear hz0
    have e0 : (z0 != z0) = false := by simp
    obtain ⟨z1, hz1⟩ : ∃ z, z = towB L0 := ⟨_, rfl⟩
    have HZ1 := hide hz1
    clear hz1
    have e1 : (z1 != z1) = false := by simp
    go_enter Try.func11, Try.ntmps11
    go_wp2_with fail
    refine HSZ.out.mono ?_
    rintro e w' ⟨rfl, rfl⟩
    clear hz0
    go_wp2_with fail
    refine (toDieS_any VV0 L0 _ HV0.out HL1.out).mono ?_
    rintro e w1 ⟨g1, _, rfl, O1, q1⟩
    have HV1 := hide (dsIn_to q1 HV0.out rfl)
    clear HV0
    have D1 := hide (dAt_own O1 rfl)
    have HXX := hide O1
    clear O1
    go_wp2_with fail
    refine (specHT_any g1 _ L0 _ rfl HL1.out D1.out).mono ?_
    rintro e w2 ⟨rfl, hb2⟩
    have q2 := below_to hb2 q1 q1.size rfl rfl rfl rfl
    have HV2 := hide (dsIn_to hb2 HV1.out rfl)
    have zs2 := hb2.size
    rw [← HZ0.out, ← HZ1.out]
    clear hb2 HV1 q1 
    go_wp2_with fail
    refine (toDieS_any VV0 L0 _ HV2.out HL1.out).mono ?_
    rintro e w3 ⟨g3, _, rfl, O3, hb3⟩
    have q3 := below_to hb3 q2 q2.size rfl rfl rfl rfl
    have HV3 := hide (dsIn_to hb3 HV2.out rfl)
    have zs3 := hb3.size
    have D3 := hide (dAt_own O3 rfl)
    try clear HXX
    have HXX := hide O3
    clear hb3 HV2 q2 O3
    have HX3 := hide (HXX.out)
    go_wp2_with fail
    refine (implHT_any g3 _ L0 _ rfl HL1.out D3.out).mono ?_
    rintro e w4 ⟨rfl, hb4⟩
    have q4 := below_to hb4 q3 q3.size rfl rfl rfl rfl
    have HV4 := hide (dsIn_to hb4 HV3.out rfl)
    have HX4 := hide (own_to hb4 HX3.out rfl)
    have zs4 := hb4.size
    rw [← HZ0.out, ← HZ1.out]
    clear hb4 HV3 HX3 q3 
    go_wp2_with fail
    refine (toDieS_any VV0 L0 _ HV4.out HL1.out).mono ?_
    rintro e w5 ⟨g5, _, rfl, O5, hb5⟩
    have q5 := below_to hb5 q4 q4.size rfl rfl rfl rfl
    have HV5 := hide (dsIn_to hb5 HV4.out rfl)
    have HX5 := hide (own_to hb5 HX4.out rfl)
    have zs5 := hb5.size
    try clear HXX
    have HP5 := hide O5
    clear hb5 HV4 HX4 q4 O5
    go_wp2_with fail
    refine (eqDieS_any _ _ L0.length _ _ L0 _ (by have := HL1.out; omega) HX5.out HP5.out).mono ?_
    rintro e w6 ⟨rfl, hb6⟩
    have q6 := below_to hb6 q5 q5.size rfl rfl rfl rfl
    have HP6 := hide (own_to hb6 HP5.out rfl)
    have HV6 := hide (dsIn_to hb6 HV5.out rfl)
    have HX6 := hide (own_to hb6 HX5.out rfl)
    have zs6 := hb6.size
    clear hb6 HP5 HV5 HX5 q5 
    clear HP6
    go_wp2
    go_returns
    exact ⟨rfl, q6⟩
  · have HSZ := hide (show Calls Try.prog 23 #[VV0, .int .i64 1048576] w fun e w' => e = .returned (.int .i64 (-1)) ∧ w = w' from by
      have := szDieS_any VV0 L0 1048576 w HV0.out (by omega)
      rw [if_pos (by omega)] at this
      exact this)
    clear hl
    go_enter Try.func11, Try.ntmps11
    go_wp2_with fail
    refine HSZ.out.mono ?_
    rintro e w' ⟨rfl, rfl⟩
    go_wp2
    go_returns
    exact ⟨rfl, Below.refl _ _⟩
end Go.Proofs.Ytkiocklkpnjejaa
