/- Sides of which no number is there twice: the model's clFits. -/
import Derived.Test.YtkiocklkpnjejaaSide
import Derived.Test.YtkiocklkpnjejaaHas
import Derived.Test.YtkiocklkpnjejaaCycS
namespace Go.Proofs.Ytkiocklkpnjejaa
set_option maxRecDepth 100000
set_option linter.all false
open Go.RowKit

theorem own_slice4 {w : World} {B n : Nat} {u : Value} {xs : List Value} {e : TypeId} {z : Nat} (h : w.ownsRow B e z u n xs) : ∃ p c, u = .slice p n c := by
  rcases own_forms h with ⟨rfl, rfl⟩ | ⟨g, cap, rfl, _, _⟩
  · exact ⟨none, 0, rfl⟩
  · exact ⟨_, cap, rfl⟩
def fitL (n : Nat) (xs : List Int) : Bool := decide ((∀ x ∈ xs, 1 ≤ x ∧ x ≤ (n : Int)) ∧ xs.Nodup)
/-- No side has a number twice, or one that is not among 1 to n. -/
def fitB (n : Nat) (L : List D) : Bool := (List.range 4).all fun k => fitL n (sideL L k)
theorem fit_no {n : Nat} {L : List D} {k : Nat} (hk : k < 4) (h : ¬ ((∀ x ∈ sideL L k, 1 ≤ x ∧ x ≤ (n : Int)) ∧ (sideL L k).Nodup)) : fitB n L = false := by
  unfold fitB
  rw [List.all_eq_false]
  exact ⟨k, List.mem_range.2 hk, by unfold fitL; rw [decide_eq_false h]; decide⟩
theorem nodup_take {xs : List Int} {i : Nat} {x : Int} (hx : xs[i]? = some x) (h : xs.Nodup) : x ∉ xs.take i := by
  intro hm
  obtain ⟨j, hj⟩ := List.mem_iff_getElem?.1 hm
  rw [List.getElem?_take] at hj
  split at hj
  · rename_i hji
    obtain ⟨h1, e1⟩ := List.getElem?_eq_some_iff.1 hj
    obtain ⟨h2, e2⟩ := List.getElem?_eq_some_iff.1 hx
    exact (List.pairwise_iff_getElem.1 h j i h1 h2 hji) (e1.trans e2.symm)
  · cases hj
set_option maxHeartbeats 3200000 in
theorem clFits_any (g cap n N : Nat) (L : List D) (w : World) (hn : n = L.length) (h4 : n ≤ 1000) (hN : N ≤ 1000) (hD : DAt w g 0 L) : Calls Try.prog 72 #[.slice (some ⟨g, 0, none⟩) n cap, .int .i64 (N : Int)] w fun e w' => e = .returned (.bool (fitB N L)) ∧ Below w.heap.size w w' := by
  have HD := hide hD
  have HN := hide hn
  have hNi : (N : Int) ≤ 1000 := by omega
  have h4i : (n : Int) ≤ 1000 := by omega
  clear hD hn
  go_enter Try.func72, Try.ntmps72
  go_wp2
  go_loopw [5, 6, 7, 8] (fun i _ _ _ wr => ∃ k : Nat, k ≤ 4 ∧ i = .int .i64 (k : Int) ∧ (∀ j, j < k → fitL N (sideL L j) = true) ∧ Below w.heap.size w wr) (fun i _ _ _ _ => 4 - (intOf i).toNat)
  case atStart => exact ⟨0, Nat.zero_le _, rfl, fun j hj => absurd hj (by omega), Below.refl _ _⟩
  case round =>
    obtain ⟨k, hk, rfl, hall, q⟩ := hrel
    have HALL := hide hall
    clear hall
    by_cases hlt : k < 4
    · have hki : (k : Int) < 4 := by omega
      have HCS := hide (clSide_any g cap n L k wr HN.out (by omega) hlt (dAt_to q HD.out rfl))
      have HQ := hide q
      have HL := hide (show (sideL L k).length = n from by rw [sideL_len, HN.out])
      have HNO := hide (fun h => fit_no (n := N) (L := L) hlt h)
      obtain ⟨xs, hxs⟩ : ∃ xs, xs = sideL L k := ⟨_, rfl⟩
      have HXS := hide hxs
      rw [← hxs] at HCS HL HNO
      clear q hxs
      go_wp2_with fail
      refine HCS.out.mono ?_
      rintro e w2 ⟨v, rfl, R, hb2⟩
      have HQ2 := hide (below_to hb2 HQ.out HQ.out.size rfl rfl rfl rfl)
      have HR := hide R
      obtain ⟨pr, cr, rfl⟩ := own_slice4 R
      clear hb2 R HQ HCS
      go_wp2
      go_loopw [18, 7, 8] (fun i _ _ wi => ∃ m : Nat, m ≤ n ∧ i = .int .i64 (m : Int) ∧ (∀ x ∈ xs.take m, 1 ≤ x ∧ x ≤ (N : Int)) ∧ (xs.take m).Nodup ∧ wi.ownsRow wr.heap.size 3 1 (.slice pr n cr) n (ints xs) ∧ Below w.heap.size w wi) (fun i _ _ _ => n - (intOf i).toNat)
      case atStart => exact ⟨0, Nat.zero_le _, rfl, by simp, by simp, HR.out, HQ2.out⟩
      case round =>
        obtain ⟨m, hm, rfl, hin, hnd, R, q⟩ := hrel
        have HIN := hide hin
        have HND := hide hnd
        clear HR HQ2 hin hnd
        by_cases hmn : m < n
        · have hmi : (m : Int) < (n : Int) := by omega
          have hx : xs[m]? = some (xs[m]'(by have := HL.out; omega)) := List.getElem?_eq_getElem (by have := HL.out; omega)
          generalize xs[m]'(by have := HL.out; omega) = x at hx
          obtain ⟨g2, c2, hgg, -, hc2⟩ := own_form R (by omega)
          cases hgg
          have hcr : n ≤ cr := by
            obtain ⟨_, _, hv, _, _, hh, _⟩ := own_formN R (by omega)
            cases hv
            exact hh
          have cx := ints_cell R m x hx
          have HX := hide hx
          have HR := hide R
          have HQ := hide q
          have HHAS := hide (fun (W : World) (e : W.heap = wr.heap) => l1HasC_any g2 m cr xs x W (fun j y hy => by rw [World.cell?_of_block (w := wr) (w' := W) (by rw [e])]; exact ints_cell HR.out j y hy) (by have := HL.out; omega) (by omega))
          have hsl := fun wx => run_loI g2 n cr m (by omega) (by omega) wx
          clear hx R q
          by_cases hr : 1 ≤ x ∧ x ≤ (N : Int)
          · have HR1 := hide (decide_eq_true hr)
            have HR2 := hide hr
            clear hr
            cases hh : decide (x ∈ xs.take m)
            · have HH := hide hh
              have hnot : x ∉ xs.take m := of_decide_eq_false hh
              have HNX := hide (show (∀ y ∈ xs.take (m + 1), 1 ≤ y ∧ y ≤ (N : Int)) ∧ (xs.take (m + 1)).Nodup from by
                rw [List.take_add_one, HX.out]
                refine ⟨fun y hy => ?_, ?_⟩
                · rcases List.mem_append.1 hy with hy | hy
                  · exact HIN.out y hy
                  · simp at hy
                    rw [hy]
                    exact HR2.out
                · rw [List.nodup_append]
                  refine ⟨HND.out, by simp, ?_⟩
                  intro a ha b hb e
                  simp at hb
                  exact hnot (by rw [← hb, ← e]; exact ha))
              clear hh hnot
              go_wp2_with (first | (go_at_call 83; (refine (l1In_any _ _ _ _).mono ?_); rintro e w3 ⟨rfl, rfl⟩; rw [HR1.out]) | (go_at_call 97; (refine (HHAS.out _ rfl).mono ?_); rintro e w3 ⟨rfl, rfl⟩; rw [HH.out]))
              go_roundw
              case rel => exact ⟨m + 1, by omega, by go_num, HNX.out.1, HNX.out.2, HR.out, HQ.out⟩
              case measure => simp [intOf] <;> omega
            · have HH := hide hh
              have HF := hide (HNO.out (fun h => nodup_take HX.out h.2 (of_decide_eq_true hh)))
              clear hh
              go_wp2_with (first | (go_at_call 83; (refine (l1In_any _ _ _ _).mono ?_); rintro e w3 ⟨rfl, rfl⟩; rw [HR1.out]) | (go_at_call 97; (refine (HHAS.out _ rfl).mono ?_); rintro e w3 ⟨rfl, rfl⟩; rw [HH.out]))
              go_returns
              exact ⟨ret_bool HF.out.symm, HQ.out⟩
          · have HR1 := hide (decide_eq_false hr)
            have HF := hide (HNO.out (fun h => hr (h.1 x (List.mem_of_getElem? HX.out))))
            clear hr
            go_wp2_with (first | (go_at_call 83; (refine (l1In_any _ _ _ _).mono ?_); rintro e w3 ⟨rfl, rfl⟩; rw [HR1.out]))
            go_returns
            exact ⟨ret_bool HF.out.symm, HQ.out⟩
        · obtain rfl : m = n := by omega
          have ht : xs.take m = xs := List.take_of_length_le (by have := HL.out; omega)
          have HK := hide (show fitL N (sideL L k) = true from by
            rw [← HXS.out]
            have h1 := HIN.out
            have h2 := HND.out
            rw [ht] at h1 h2
            exact decide_eq_true ⟨h1, h2⟩)
          clear R ht
          go_wp2
          go_roundw
          case rel =>
            refine ⟨k + 1, by omega, by go_num, fun j hj => ?_, q⟩
            rcases Nat.lt_or_ge j k with h | h
            · exact HALL.out j h
            · obtain rfl : j = k := by omega
              exact HK.out
          case measure => simp [intOf] <;> omega
    · obtain rfl : k = 4 := by omega
      have HT := hide (show fitB N L = true from by
        unfold fitB
        rw [List.all_eq_true]
        exact fun j hj => HALL.out j (List.mem_range.1 hj))
      go_wp2
      go_returns
      exact ⟨ret_bool HT.out.symm, q⟩
end Go.Proofs.Ytkiocklkpnjejaa
