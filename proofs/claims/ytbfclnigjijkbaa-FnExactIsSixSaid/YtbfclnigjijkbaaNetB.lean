/- The program's areFilled. Condition: at most 1048576 signs. -/
import Derived.Test.YtbfclnigjijkbaaCutG
import Derived.Deep.QuietTactic
import Derived.BigQuiet
namespace Go.Proofs.Ytbfclnigjijkbaa
set_option maxRecDepth 100000
set_option linter.all false
open Go.RowKit

def rowFine (rs : List (List UInt8)) (k : Nat) : Bool := decide ((rowG rs k).length = (rowG rs 0).length) && (rowG rs k).any isDig && !(rowG rs k).any strB
theorem width_row (l : List UInt8) : width l = (rowG (splitP l) 0).length := by
  obtain ⟨r, rs, e⟩ := splitP_cons l
  unfold width rowG
  rw [e]; rfl
theorem all_strange (r : List UInt8) : r.all okN = !r.any strB := by
  unfold strB
  rw [List.not_any_eq_all_not]
  simp
theorem all_range {α : Type} (d : α) (f : α → Bool) (l : List α) : l.all f = (List.range l.length).all fun k => f (l.getD k d) := by
  rw [Bool.eq_iff_iff, List.all_eq_true, List.all_eq_true]
  constructor
  · intro h k hk
    rw [List.mem_range] at hk
    have : l.getD k d = l[k] := by rw [List.getD_eq_getElem?_getD, List.getElem?_eq_getElem hk]; rfl
    rw [this]
    exact h _ (List.getElem_mem hk)
  · intro h x hx
    obtain ⟨k, hk, rfl⟩ := List.mem_iff_getElem.1 hx
    have := h k (List.mem_range.2 hk)
    rwa [List.getD_eq_getElem?_getD, List.getElem?_eq_getElem hk] at this
theorem filled_split (l : List UInt8) : filledB l = ((List.range (splitP l).length).all (rowFine (splitP l)) && (List.range (rowG (splitP l) 0).length).all (hasDigX (splitP l))) := by
  unfold filledB
  rw [width_row]
  congr 1
  rw [all_range ([] : List UInt8)]
  congr 1
  funext k
  unfold rowFine
  show _ = (decide ((rowG (splitP l) k).length = _) && _ && _)
  rw [← all_strange]
  rfl
theorem filled_row {l : List UInt8} {k : Nat} (hk : k < (splitP l).length) (h : rowFine (splitP l) k = false) : filledB l = false := by
  rw [filled_split]
  have : (List.range (splitP l).length).all (rowFine (splitP l)) = false := by
    rw [List.all_eq_false]
    exact ⟨k, List.mem_range.2 hk, by rw [h]; decide⟩
  rw [this]; rfl
theorem filled_col {l : List UInt8} {x : Nat} (hx : x < (rowG (splitP l) 0).length) (h : hasDigX (splitP l) x = false) : filledB l = false := by
  rw [filled_split]
  have : (List.range (rowG (splitP l) 0).length).all (hasDigX (splitP l)) = false := by
    rw [List.all_eq_false]
    exact ⟨x, List.mem_range.2 hx, by rw [h]; decide⟩
  rw [this, Bool.and_false]
theorem filled_all {l : List UInt8} (h1 : ∀ k, k < (splitP l).length → rowFine (splitP l) k = true) (h2 : ∀ x, x < (rowG (splitP l) 0).length → hasDigX (splitP l) x = true) : filledB l = true := by
  rw [filled_split, Bool.and_eq_true]
  exact ⟨List.all_eq_true.2 fun k hk => h1 k (List.mem_range.1 hk), List.all_eq_true.2 fun k hk => h2 k (List.mem_range.1 hk)⟩
theorem SignsAt.at {w : World} {g p o : Nat} {r : List UInt8} (h : SignsAt w g p r) (ho : 0 < r.length → o = p) : SignsAt w g o r := by
  intro j c hc
  have := (List.getElem?_eq_some_iff.1 hc).1
  rw [ho (by omega)]
  exact h j c hc
theorem rowG_get (rs : List (List UInt8)) (k : Nat) (h : k < rs.length) : rs[k]? = some (rowG rs k) := by
  unfold rowG
  rw [List.getD_eq_getElem?_getD, List.getElem?_eq_getElem h]; rfl

/-- The test of a column's cell. -/
theorem colTest_any (B x g p cap : Nat) (r : List UInt8) (w : World) (hx : x < r.length) (hl : r.length ≤ 1048576) (hS : SignsAt w g p r) (hB : w.cell? ⟨B, 0, none⟩ = some (.int .i64 (x : Int))) :
    Calls Try.prog 45 #[.slice (some ⟨g, p, none⟩) r.length cap, .pointer (some ⟨B, 0, none⟩)] w fun e w' => e = .returned (.bool (isDig (r.getD x 0))) ∧ w = w' := by
  obtain ⟨c, hc⟩ : ∃ c, r[x]? = some c := ⟨_, List.getElem?_eq_getElem hx⟩
  have hg : r.getD x 0 = c := by rw [List.getD_eq_getElem?_getD, hc]; rfl
  rw [hg]
  have c0 := hS x c hc
  have hxi : (x : Int) < (r.length : Int) := by omega
  obtain ⟨n, hn⟩ : ∃ n, n = r.length := ⟨_, rfl⟩
  rw [← hn] at hl hxi hx ⊢
  clear hc hg hS hn
  go_enter Try.func45, Try.ntmps45
  go_wp2_with (go_at_call 41; refine (isLabel_any c _).mono ?_; rintro e w2 ⟨rfl, rfl⟩)
  go_returns
  exact ⟨rfl, rfl⟩
set_option maxHeartbeats 1600000 in
theorem idxRows_any (L : List UInt8) (B x h g cap : Nat) (w : World) (hl : L.length ≤ 1048576) (hR : RowsIn w h g L) (hx : ∀ k, k < (splitP L).length → x < (rowG (splitP L) k).length) (hlen : ∀ k, k < (splitP L).length → (rowG (splitP L) k).length ≤ 1048576) (hH : (splitP L).length ≤ 1048577) (hB : w.cell? ⟨B, 0, none⟩ = some (.int .i64 (x : Int))) :
    Calls Try.prog 44 #[.slice (some ⟨h, 0, none⟩) (splitP L).length cap, .func (.func 45) #[] #[.pointer (some ⟨B, 0, none⟩)]] w fun e w' => e = .returned (.bool (hasDigX (splitP L) x)) ∧ w = w' := by
  have key : Calls Try.prog 58 #[.slice (some ⟨h, 0, none⟩) (splitP L).length cap, .func (.func 45) #[] #[.pointer (some ⟨B, 0, none⟩)]] w fun e w' => (∃ k : Int, e = .returned (.int .i64 k) ∧ decide (0 ≤ k) = hasDigX (splitP L) x ∧ -1 ≤ k ∧ k ≤ 1048577) ∧ w = w' := by
    obtain ⟨n, hn⟩ : ∃ n, n = (splitP L).length := ⟨_, rfl⟩
    rw [← hn] at hH hx hlen ⊢
    have HN := hide hn
    have HR := hide hR
    have HX := hide hx
    have HLEN := hide hlen
    clear hn hR hx hlen
    go_enter Try.func58, Try.ntmps58
    go_wp2
    go_loop [8, 5] (fun i _ => ∃ k : Nat, k ≤ n ∧ i = .int .i64 (k : Int) ∧ Hid (∀ j, j < k → isDig ((rowG (splitP L) j).getD x 0) = false)) (fun i _ => n - (intOf i).toNat)
    case atStart => exact ⟨0, Nat.zero_le _, rfl, fun j h => by omega⟩
    case round =>
      obtain ⟨k, hk, rfl, hno⟩ := hrel
      by_cases hlt : k < n
      · have hki : (k : Int) < (n : Int) := by omega
        have hk' : k < (splitP L).length := by rw [← HN.out]; exact hlt
        have c0 := HR.out.2.2 k hk'
        obtain ⟨o1, e1, e2⟩ := rowV_slice g (offG (splitP L) k) (rowG (splitP L) k).length
        rw [e1] at c0
        have HS := hide ((HR.out.signs hk').at e2)
        have HG := hide (rowG_get (splitP L) k hk')
        have hxl := HX.out k hlt
        have hll := HLEN.out k hlt
        clear e1 e2 hk'
        cases hd : isDig ((rowG (splitP L) k).getD x 0)
        · have HD := hide hd
          clear hd
          go_wp2_with (go_at_call 45; refine (colTest_any B x g o1 _ (rowG (splitP L) k) _ hxl hll HS.out hB).mono ?_; rintro e w2 ⟨rfl, rfl⟩; rw [HD.out])
          go_round
          case rel =>
            refine ⟨k + 1, by omega, by go_num, fun j hj => ?_⟩
            by_cases hjk : j < k
            · exact hno j hjk
            · obtain rfl : j = k := by omega
              exact HD.out
          case measure => simp [intOf]; omega
        · have HD := hide hd
          clear hd
          go_wp2_with (go_at_call 45; refine (colTest_any B x g o1 _ (rowG (splitP L) k) _ hxl hll HS.out hB).mono ?_; rintro e w2 ⟨rfl, rfl⟩; rw [HD.out])
          go_returns
          refine ⟨⟨k, rfl, ?_, by omega, by omega⟩, rfl⟩
          rw [decide_eq_true (by omega)]
          symm
          unfold hasDigX
          exact List.any_eq_true.2 ⟨_, List.mem_of_getElem? HG.out, HD.out⟩
      · obtain rfl : k = n := by omega
        go_wp2
        go_returns
        refine ⟨⟨-1, rfl, ?_, by omega, by omega⟩, rfl⟩
        rw [decide_eq_false (by omega)]
        symm
        unfold hasDigX
        rw [List.any_eq_false]
        intro r hr
        obtain ⟨j, hj⟩ := List.mem_iff_getElem?.1 hr
        have hjl := (List.getElem?_eq_some_iff.1 hj).1
        have h1 := hno.out j (by rw [HN.out]; exact hjl)
        rw [rowG_get _ j hjl] at hj
        rw [← Option.some.inj hj, h1]
        decide
  go_enter Try.func44, Try.ntmps44
  go_wp2_with (go_at_call 58; refine key.mono ?_; rintro e w2 ⟨⟨k, rfl, hk, k1, k2⟩, rfl⟩; have HK := hide hk; clear hk)
  go_returns
  exact ⟨ret_bool HK.out, rfl⟩

set_option maxHeartbeats 3200000 in
theorem areFilled_any (L : List UInt8) (h g cap : Nat) (w : World) (hl : L.length ≤ 1048576) (hR : RowsIn w h g L) : Calls Try.prog 35 #[.slice (some ⟨h, 0, none⟩) (splitP L).length cap] w fun e w' => e = .returned (.bool (filledB L)) ∧ Below w.heap.size w w' := by
  obtain ⟨H, hH⟩ : ∃ H, H = (splitP L).length := ⟨_, rfl⟩
  have h0 : 0 < H := by rw [hH]; exact List.length_pos_iff.2 (splitP_ne L)
  have hoff : offG (splitP L) H = L.length + 1 := by rw [hH, ← joinG_len _ (splitP_ne L), join_split]
  have hH20 : H ≤ 1048577 := by
    have := offG_mono (splitP L) H 0 (by omega)
    rw [offG_zero, Nat.zero_add] at this
    omega
  have hlen : ∀ k, k < H → (rowG (splitP L) k).length ≤ 1048576 := fun k hk => by
    have h1 := offG_succ (splitP L) k (by omega)
    have h2 := offG_mono (splitP L) (H - (k + 1)) (k + 1) (by omega)
    rw [show k + 1 + (H - (k + 1)) = H from by omega, hoff] at h2
    omega
  have hW20 := hlen 0 h0
  rw [← hH]
  have HR := hide hR
  have HH := hide hH
  have HLEN := hide hlen
  clear hR hH hoff hlen
  obtain ⟨W, hW⟩ : ∃ W, W = (rowG (splitP L) 0).length := ⟨_, rfl⟩
  have HW := hide hW
  rw [← hW] at hW20
  clear hW
  go_enter Try.func35, Try.ntmps35
  go_wp2
  go_loop [8, 4] (fun i _ => ∃ k : Nat, k ≤ H ∧ i = .int .i64 (k : Int) ∧ Hid (∀ j, j < k → rowFine (splitP L) j = true)) (fun i _ => H - (intOf i).toNat)
  case atStart => exact ⟨0, Nat.zero_le _, rfl, fun j h => by omega⟩
  case round =>
    obtain ⟨k, hk, rfl, hno⟩ := hrel
    have cz := HR.out.2.2 0 (by rw [← HH.out]; exact h0)
    obtain ⟨o2, e2, -⟩ := rowV_slice g (offG (splitP L) 0) (rowG (splitP L) 0).length
    rw [e2, ← HW.out] at cz
    clear e2
    by_cases hlt : k < H
    · have hki : (k : Int) < (H : Int) := by omega
      have hk' : k < (splitP L).length := by rw [← HH.out]; exact hlt
      have c0 := HR.out.2.2 k hk'
      obtain ⟨o1, e1, e3⟩ := rowV_slice g (offG (splitP L) k) (rowG (splitP L) k).length
      rw [e1] at c0
      have HS := hide ((HR.out.signs hk').at e3)
      have hll := HLEN.out k hlt
      have HF := hide (show rowFine (splitP L) k = (decide ((rowG (splitP L) k).length = (rowG (splitP L) 0).length) && (rowG (splitP L) k).any isDig && !(rowG (splitP L) k).any strB) from rfl)
      have HFR := hide (fun h => filled_row (l := L) (k := k) hk' h)
      clear e1 e3 hk'
      obtain ⟨r, hr⟩ : ∃ r, r = rowG (splitP L) k := ⟨_, rfl⟩
      obtain ⟨a, ha⟩ : ∃ a, a = r.length := ⟨_, rfl⟩
      rw [← hr] at HF HS hll c0
      have HD1 := hide (fun (wx : World) (h : SignsAt wx g o1 r) => hasDig_any g o1 r.length r wx hll h)
      have HD2 := hide (fun (wx : World) (h : SignsAt wx g o1 r) => hasStr_any g o1 r.length r wx hll h)
      rw [← ha] at c0 hll HD1 HD2
      rw [← ha, ← HW.out] at HF
      clear hr ha
      by_cases hq : a = W
      · have e1 : ((a : Int) != (W : Int)) = false := by rw [hq]; simp
        have HQ := hide hq
        clear hq
        cases hd1 : r.any isDig
        · have HY := hide (HFR.out (by rw [HF.out, hd1]; simp))
          rw [hd1] at HD1
          clear hd1
          go_wp2_with (go_at_call 42; (with_reducible refine (HD1.out _ HS.out).mono ?_); rintro e w2 ⟨rfl, rfl⟩)
          go_returns
          exact ⟨ret_bool HY.out.symm, Below.refl _ _⟩
        · rw [hd1] at HD1
          cases hd2 : r.any strB
          · have HY := hide (show rowFine (splitP L) k = true from by rw [HF.out, hd1, hd2, HQ.out]; simp)
            rw [hd2] at HD2
            clear hd1 hd2
            go_wp2_with (go_at_call 42; (first | ((with_reducible refine (HD1.out _ HS.out).mono ?_); rintro e w2 ⟨rfl, rfl⟩) | ((with_reducible refine (HD2.out _ HS.out).mono ?_); rintro e w2 ⟨rfl, rfl⟩)))
            go_round
            case rel =>
              refine ⟨k + 1, by omega, by go_num, fun j hj => ?_⟩
              by_cases hjk : j < k
              · exact hno j hjk
              · obtain rfl : j = k := by omega
                exact HY.out
            case measure => simp [intOf]; omega
          · have HY := hide (HFR.out (by rw [HF.out, hd2]; simp))
            rw [hd2] at HD2
            clear hd1 hd2
            go_wp2_with (go_at_call 42; (first | ((with_reducible refine (HD1.out _ HS.out).mono ?_); rintro e w2 ⟨rfl, rfl⟩) | ((with_reducible refine (HD2.out _ HS.out).mono ?_); rintro e w2 ⟨rfl, rfl⟩)))
            go_returns
            exact ⟨ret_bool HY.out.symm, Below.refl _ _⟩
      · have e1 : ((a : Int) != (W : Int)) = true := by
          have : ¬ (a : Int) = (W : Int) := by omega
          simpa using this
        have HY := hide (HFR.out (by rw [HF.out, decide_eq_false hq]; rfl))
        clear hq
        go_wp2
        go_returns
        exact ⟨ret_bool HY.out.symm, Below.refl _ _⟩
    · obtain rfl : k = H := by omega
      go_wp2
      have HNO := hide hno.out
      clear hno
      go_loopw [33, 5] (fun i _ wr => ∃ x : Nat, x ≤ W ∧ i = .int .i64 (x : Int) ∧ Hid (∀ j, j < x → hasDigX (splitP L) j = true) ∧ Below w.heap.size w wr) (fun i _ _ => W - (intOf i).toNat)
      case atStart => exact ⟨0, Nat.zero_le _, rfl, fun j h => by omega, Below.refl _ _⟩
      case round =>
        obtain ⟨x, hx, rfl, hcol, hb⟩ := hrel
        have hsz := hb.size
        by_cases hxl : x < W
        · have hxi : (x : Int) < (W : Int) := by omega
          have HRX := hide (rowsIn_to hb HR.out rfl)
          have HIX := hide (fun (wx : World) (hr : RowsIn wx h g L) (B : Nat) (hB : wx.cell? ⟨B, 0, none⟩ = some (.int .i64 (x : Int))) => idxRows_any L B x h g cap wx hl hr (fun j hj => by
            have := HNO.out j (by rw [HH.out]; exact hj)
            unfold rowFine at this
            rw [Bool.and_eq_true, Bool.and_eq_true, decide_eq_true_eq] at this
            rw [this.1.1, ← HW.out]; exact hxl) (fun j hj => HLEN.out j (by rw [HH.out]; exact hj)) (by rw [← HH.out]; exact hH20) hB)
          rw [← HH.out] at HIX
          cases hd : hasDigX (splitP L) x
          · have HY := hide (filled_col (l := L) (x := x) (by rw [← HW.out]; exact hxl) hd)
            rw [hd] at HIX
            clear hd
            go_wp2_with (go_at_call 44; (refine (HIX.out _ (rowsIn_to ((Below.refl _ _).alloc (Nat.le_refl _) _) HRX.out rfl) wr.heap.size (by simp)).mono ?_); rintro e w2 ⟨rfl, rfl⟩)
            go_returns
            exact ⟨ret_bool HY.out.symm, hb.alloc hsz _⟩
          · have HY := hide hd
            rw [hd] at HIX
            clear hd
            go_wp2_with (go_at_call 44; (refine (HIX.out _ (rowsIn_to ((Below.refl _ _).alloc (Nat.le_refl _) _) HRX.out rfl) wr.heap.size (by simp)).mono ?_); rintro e w2 ⟨rfl, rfl⟩)
            go_roundw
            case rel =>
              refine ⟨x + 1, by omega, by go_num, fun j hj => ?_, hb.alloc hsz _⟩
              by_cases hjk : j < x
              · exact hcol j hjk
              · obtain rfl : j = x := by omega
                exact HY.out
            case measure => simp [intOf]; omega
        · obtain rfl : x = W := by omega
          go_wp2
          go_returns
          exact ⟨ret_bool (filled_all (fun j hj => HNO.out j (by rw [HH.out]; exact hj)) (fun j hj => hcol j (by rw [HW.out]; exact hj))).symm, hb⟩
end Go.Proofs.Ytbfclnigjijkbaa
