/- Faces that touch: the contracts of TouchingPairs in the program and in the model. -/
import Derived.Test.YtdndegonpdakkaaDoorTouch
namespace Go.Proofs.YtdndegonpdakkaaDoor
set_option maxRecDepth 100000
set_option linter.all false
open Go.RowKit

set_option maxHeartbeats 800000 in
theorem specTP_bad (s : ByteArray) (v : Value) (w : World) (hs : s.size ≤ 1048576) (h : isBd s.data.toList = false) : Calls Tryd.prog 31 #[.string s, v] w fun e w' => e = .returned (.tuple #[.int .i64 0, .bool false]) ∧ Below w.heap.size w w' := by
  have H := hide h
  clear h
  go_enter Tryd.func31, Tryd.ntmps31
  go_wp2_with fail
  refine (myAsked_bad s v _ hs H.out).mono ?_
  rintro e w1 ⟨rfl, hb1⟩
  have q1 := hb1.alloc hb1.size (.cells #[.int .i64 0, .int .i64 0, .slice none 0 0] 50)
  go_wp2
  go_returns
  exact ⟨rfl, q1⟩
set_option maxHeartbeats 800000 in
theorem specTP_off (s : ByteArray) (gd : Nat) (L : List St) (n : Nat) (hN : n = L.length) (w : World) (hs : s.size ≤ 1048576) (hD : StAt w gd 0 L) (h : isBd s.data.toList = true) (h2 : tog s.data.toList L = false) : Calls Tryd.prog 31 #[.string s, .slice (some ⟨gd, 0, none⟩) n n] w fun e w' => e = .returned (.tuple #[.int .i64 0, .bool false]) ∧ Below w.heap.size w w' := by
  have H := hide h
  have H2 := hide h2
  have HN := hide hN
  have HD := hide hD
  clear h h2 hN hD
  go_enter Tryd.func31, Tryd.ntmps31
  go_wp2_with fail
  refine (myAsked_in s gd L n HN.out _ hs HD.out H.out).mono ?_
  rintro e w1 ⟨W, Hh, m, g, cap, hG, rfl, hA, hb1⟩
  rw [H2.out]
  have q1 := hb1.alloc hb1.size (.cells #[.int .i64 (W : Int), .int .i64 (Hh : Int), .slice (some ⟨g, 0, none⟩) m cap] 50)
  clear hG hA hb1
  go_wp2
  go_returns
  exact ⟨rfl, q1⟩
set_option maxHeartbeats 3200000 in
theorem specTP_on (s : ByteArray) (gd : Nat) (L : List St) (n : Nat) (hN : n = L.length) (w : World) (hs : s.size ≤ 1048576) (hD : StAt w gd 0 L) (h : isBd s.data.toList = true) (h2 : tog s.data.toList L = true) : Calls Tryd.prog 31 #[.string s, .slice (some ⟨gd, 0, none⟩) n n] w fun e w' => e = .returned (.tuple #[.int .i64 (totS L L.length), .bool true]) ∧ Below w.heap.size w w' := by
  obtain ⟨n1, n3, hall⟩ := tog_facts h2
  have HTL := hide (totS_le n3)
  have HNEAR := hide (show ∀ (i : Nat) (u : St), L[i]? = some u → (-100000 ≤ u.x ∧ u.x ≤ 100000) ∧ (-100000 ≤ u.y ∧ u.y ≤ 100000) from fun i u hi => floor_near h (Bool.and_eq_true_iff.1 (hall i u hi).1).1)
  have hn3 : n ≤ 3 := by omega
  have H := hide h
  have H2 := hide h2
  have HN := hide hN
  have HD := hide hD
  clear h h2 hN hD hall n1 n3
  go_enter Tryd.func31, Tryd.ntmps31
  go_wp2_with fail
  refine (myAsked_in s gd L n HN.out _ hs HD.out H.out).mono ?_
  rintro e w1 ⟨W, Hh, m, g, cap, hG, rfl, hA, hb1⟩
  rw [H2.out]
  have q1 := hb1.alloc hb1.size (.cells #[.int .i64 (W : Int), .int .i64 (Hh : Int), .slice (some ⟨g, 0, none⟩) m cap] 50)
  clear hG hA hb1
  have D1 := hide (stAt_to (w0 := w) q1 HD.out rfl)
  go_wp2
  generalize w1.alloc (.cells #[.int .i64 (W : Int), .int .i64 (Hh : Int), .slice (some ⟨g, 0, none⟩) m cap] 50) = W1 at q1 D1 ⊢
  go_loopw [8, 23] (fun sm i wr => ∃ k : Nat, k ≤ n ∧ i = .int .i64 (k : Int) ∧ sm = .int .i64 (totS L k) ∧ Below w.heap.size w wr) (fun _ i _ => n - (intOf i).toNat)
  case atStart => exact ⟨0, Nat.zero_le _, rfl, rfl, q1⟩
  case round =>
    obtain ⟨k, hk, rfl, rfl, q⟩ := hrel
    clear q1
    obtain ⟨b0, b1⟩ := HTL.out k (by have := HN.out; omega)
    by_cases hlt : k < n
    · have hx : L[k]? = some (L[k]'(by have := HN.out; omega)) := List.getElem?_eq_getElem (by have := HN.out; omega)
      generalize L[k]'(by have := HN.out; omega) = u at hx
      obtain ⟨a0, a1, a2, a3, a4, a5, a6, a7⟩ := (stAt_to q HD.out rfl).cells0 hx
      have hki : (k : Int) < (n : Int) := by omega
      have hkn : (k : Int) ≤ (n : Int) := by omega
      have hk0 : (0 : Int) ≤ (k : Int) := by omega
      have HU := hide (HNEAR.out k u hx)
      have HS := hide (totS_succ hx)
      have HX := hide hx
      generalize hz : totS L k = z at b0 b1 HS ⊢
      clear hx hz
      go_upto_region 8 with (fail)
      have S1 := IsS.new (w := wr) (s := u) (ty := 57)
      have q2 := q.alloc q.size (.cells #[.int .i64 u.x, .int .i64 u.y, .int .i64 u.d.t, .int .i64 u.d.n, .int .i64 u.d.e, .int .i64 u.d.s, .int .i64 u.d.w, .int .i64 u.d.b] 57)
      clear a0 a1 a2 a3 a4 a5 a6 a7 q
      obtain ⟨Bs, hBs⟩ : ∃ Bs, Bs = wr.heap.size := ⟨_, rfl⟩
      rw [← hBs] at S1
      rw [← hBs]
      generalize wr.alloc (.cells #[.int .i64 u.x, .int .i64 u.y, .int .i64 u.d.t, .int .i64 u.d.n, .int .i64 u.d.e, .int .i64 u.d.s, .int .i64 u.d.w, .int .i64 u.d.b] 57) = W2 at S1 q2 ⊢
      clear hBs
      have HRL := hide (fun j (hj : j ≤ n) => rowT_le tch u L j (by have := HN.out; omega))
      go_wp2
      go_loopw [8, 29] (fun sm i wr => ∃ j : Nat, j ≤ n ∧ i = .int .i64 (j : Int) ∧ sm = .int .i64 (z + rowT tch u (L.take j)) ∧ IsS wr Bs u 57 ∧ Below w.heap.size w wr) (fun _ i _ => n - (intOf i).toNat)
      case atStart => exact ⟨0, Nat.zero_le _, rfl, by rw [show rowT tch u (L.take 0) = 0 from rfl, Int.add_zero], S1, q2⟩
      case round =>
        obtain ⟨j, hj, rfl, rfl, S, q⟩ := hrel
        clear S1 q2
        obtain ⟨r0, r1⟩ := HRL.out j hj
        by_cases hjl : j < n
        · have hx : L[j]? = some (L[j]'(by have := HN.out; omega)) := List.getElem?_eq_getElem (by have := HN.out; omega)
          generalize L[j]'(by have := HN.out; omega) = t at hx
          obtain ⟨a0, a1, a2, a3, a4, a5, a6, a7⟩ := (stAt_to q HD.out rfl).cells0 hx
          have hji : (j : Int) < (n : Int) := by omega
          have HT := hide (HNEAR.out j t hx)
          have HR := hide (rowT_snoc tch u hx)
          generalize hz2 : rowT tch u (L.take j) = r at r0 r1 HR ⊢
          clear hx hz2
          have hzr0 : 0 ≤ z + r := by omega
          have hzr1 : z + r ≤ 1000 := by omega
          obtain ⟨zr, hzr⟩ : ∃ zr, zr = z + r := ⟨_, rfl⟩
          rw [← hzr] at hzr0 hzr1 ⊢
          have HZR := hide hzr
          clear hzr
          go_upto_region 11 with (fail)
          have T1 := IsS.new (w := wr) (s := t) (ty := 57)
          have S2 := S.alloc (.cells #[.int .i64 t.x, .int .i64 t.y, .int .i64 t.d.t, .int .i64 t.d.n, .int .i64 t.d.e, .int .i64 t.d.s, .int .i64 t.d.w, .int .i64 t.d.b] 57)
          have q2 := q.alloc q.size (.cells #[.int .i64 t.x, .int .i64 t.y, .int .i64 t.d.t, .int .i64 t.d.n, .int .i64 t.d.e, .int .i64 t.d.s, .int .i64 t.d.w, .int .i64 t.d.b] 57)
          clear a0 a1 a2 a3 a4 a5 a6 a7 q S
          obtain ⟨Bt, hBt⟩ : ∃ Bt, Bt = wr.heap.size := ⟨_, rfl⟩
          rw [← hBt] at T1
          rw [← hBt]
          generalize wr.alloc (.cells #[.int .i64 t.x, .int .i64 t.y, .int .i64 t.d.t, .int .i64 t.d.n, .int .i64 t.d.e, .int .i64 t.d.s, .int .i64 t.d.w, .int .i64 t.d.b] 57) = W3 at T1 S2 q2 ⊢
          clear hBt
          obtain ⟨_, ⟨y0, y1, y2, y3, y4, y5, y6, y7⟩, -⟩ := S2.all
          obtain ⟨_, ⟨d0, d1, d2, d3, d4, d5, d6, d7⟩, -⟩ := T1.all
          obtain ⟨⟨u1, u2⟩, u3, u4⟩ := HU.out
          have tc : ∀ x1 x2 x3 x4 x5 x6 : Bool, decide (t.x = u.x + 1) = x1 → decide (t.y = u.y) = x2 → decide (u.d.e = t.d.w) = x3 → decide (t.x = u.x) = x4 → decide (t.y = u.y + 1) = x5 → decide (u.d.s = t.d.n) = x6 → tch u t = (x1 && (x2 && x3) || x4 && (x5 && x6)) := by
            intro x1 x2 x3 x4 x5 x6 h1 h2 h3 h4 h5 h6
            unfold tch tEast tSouth
            rw [h1, h2, h3, h4, h5, h6]
          have TC := hide tc
          clear tc
          by_cases c1 : t.x = u.x + 1
          · skip
            have c4 : ¬ t.x = u.x := by omega
            by_cases c2 : t.y = u.y
            · skip
              by_cases c3 : u.d.e = t.d.w
              · skip
                have HF := hide (show tch u t = true from by have := TC.out _ _ _ _ _ _ (decide_eq_true c1) (decide_eq_true c2) (decide_eq_true c3) (decide_eq_false c4) rfl rfl; rw [this]; simp)
                have e1 : (t.x == u.x + 1) = true := by simpa using c1
                have e4 : (t.x == u.x) = false := by simpa using c4
                have e2 : (t.y == u.y) = true := by simpa using c2
                have e3 : (u.d.e == t.d.w) = true := by simpa using c3
                clear c1 c4 c2 c3
                go_wp2
                go_roundw
                case rel => exact ⟨j + 1, by omega, by go_num, by rw [HR.out, HF.out, show oneB true = 1 from rfl, HZR.out, Int.add_assoc], S2, q2⟩
                case measure => simp [intOf] <;> omega
              · skip
                have HF := hide (show tch u t = false from by have := TC.out _ _ _ _ _ _ (decide_eq_true c1) (decide_eq_true c2) (decide_eq_false c3) (decide_eq_false c4) rfl rfl; rw [this]; simp)
                have e1 : (t.x == u.x + 1) = true := by simpa using c1
                have e4 : (t.x == u.x) = false := by simpa using c4
                have e2 : (t.y == u.y) = true := by simpa using c2
                have e3 : (u.d.e == t.d.w) = false := by simpa using c3
                clear c1 c4 c2 c3
                go_wp2
                go_roundw
                case rel => exact ⟨j + 1, by omega, by go_num, by rw [HR.out, HF.out, show oneB false = 0 from rfl, HZR.out, Int.add_zero], S2, q2⟩
                case measure => simp [intOf] <;> omega
            · skip
              have HF := hide (show tch u t = false from by have := TC.out _ _ _ _ _ _ (decide_eq_true c1) (decide_eq_false c2) rfl (decide_eq_false c4) rfl rfl; rw [this]; simp)
              have e1 : (t.x == u.x + 1) = true := by simpa using c1
              have e4 : (t.x == u.x) = false := by simpa using c4
              have e2 : (t.y == u.y) = false := by simpa using c2
              clear c1 c4 c2
              go_wp2
              go_roundw
              case rel => exact ⟨j + 1, by omega, by go_num, by rw [HR.out, HF.out, show oneB false = 0 from rfl, HZR.out, Int.add_zero], S2, q2⟩
              case measure => simp [intOf] <;> omega
          · skip
            by_cases c4 : t.x = u.x
            · skip
              by_cases c5 : t.y = u.y + 1
              · skip
                by_cases c6 : u.d.s = t.d.n
                · skip
                  have HF := hide (show tch u t = true from by have := TC.out _ _ _ _ _ _ (decide_eq_false c1) rfl rfl (decide_eq_true c4) (decide_eq_true c5) (decide_eq_true c6); rw [this]; simp)
                  have e1 : (t.x == u.x + 1) = false := by simpa using c1
                  have e4 : (t.x == u.x) = true := by simpa using c4
                  have e5 : (t.y == u.y + 1) = true := by simpa using c5
                  have e6 : (u.d.s == t.d.n) = true := by simpa using c6
                  clear c1 c4 c5 c6
                  go_wp2
                  go_roundw
                  case rel => exact ⟨j + 1, by omega, by go_num, by rw [HR.out, HF.out, show oneB true = 1 from rfl, HZR.out, Int.add_assoc], S2, q2⟩
                  case measure => simp [intOf] <;> omega
                · skip
                  have HF := hide (show tch u t = false from by have := TC.out _ _ _ _ _ _ (decide_eq_false c1) rfl rfl (decide_eq_true c4) (decide_eq_true c5) (decide_eq_false c6); rw [this]; simp)
                  have e1 : (t.x == u.x + 1) = false := by simpa using c1
                  have e4 : (t.x == u.x) = true := by simpa using c4
                  have e5 : (t.y == u.y + 1) = true := by simpa using c5
                  have e6 : (u.d.s == t.d.n) = false := by simpa using c6
                  clear c1 c4 c5 c6
                  go_wp2
                  go_roundw
                  case rel => exact ⟨j + 1, by omega, by go_num, by rw [HR.out, HF.out, show oneB false = 0 from rfl, HZR.out, Int.add_zero], S2, q2⟩
                  case measure => simp [intOf] <;> omega
              · skip
                have HF := hide (show tch u t = false from by have := TC.out _ _ _ _ _ _ (decide_eq_false c1) rfl rfl (decide_eq_true c4) (decide_eq_false c5) rfl; rw [this]; simp)
                have e1 : (t.x == u.x + 1) = false := by simpa using c1
                have e4 : (t.x == u.x) = true := by simpa using c4
                have e5 : (t.y == u.y + 1) = false := by simpa using c5
                clear c1 c4 c5
                go_wp2
                go_roundw
                case rel => exact ⟨j + 1, by omega, by go_num, by rw [HR.out, HF.out, show oneB false = 0 from rfl, HZR.out, Int.add_zero], S2, q2⟩
                case measure => simp [intOf] <;> omega
            · skip
              have HF := hide (show tch u t = false from by have := TC.out _ _ _ _ _ _ (decide_eq_false c1) rfl rfl (decide_eq_false c4) rfl rfl; rw [this]; simp)
              have e1 : (t.x == u.x + 1) = false := by simpa using c1
              have e4 : (t.x == u.x) = false := by simpa using c4
              clear c1 c4
              go_wp2
              go_roundw
              case rel => exact ⟨j + 1, by omega, by go_num, by rw [HR.out, HF.out, show oneB false = 0 from rfl, HZR.out, Int.add_zero], S2, q2⟩
              case measure => simp [intOf] <;> omega
        · obtain rfl : j = n := by omega
          have HRR := hide (show rowT tch u (L.take j) = rowT tch u L from by rw [List.take_of_length_le (by have := HN.out; omega)])
          generalize hz2 : rowT tch u (L.take j) = r at r0 r1 HRR ⊢
          clear hz2
          obtain ⟨zr, hzr⟩ : ∃ zr, zr = z + r := ⟨_, rfl⟩
          rw [← hzr]
          have HZR := hide hzr
          clear hzr S
          go_wp2
          go_roundw
          case rel => exact ⟨k + 1, by omega, by go_num, by rw [HS.out, HZR.out, HRR.out], q⟩
          case measure => simp [intOf] <;> omega
    · obtain rfl : k = n := by omega
      have HF := hide (show totS L k = totS L L.length from by rw [← HN.out])
      generalize hz : totS L k = z at HF b0 b1 ⊢
      clear hz
      go_wp2
      go_returns
      exact ⟨by rw [← HF.out]; rfl, q⟩
set_option maxHeartbeats 800000 in
theorem implTP_bad (s : ByteArray) (v : Value) (w : World) (hs : s.size ≤ 1048576) (hg : Glob w) (h : isBd s.data.toList = false) : Calls Tryd.prog 32 #[.string s, v] w fun e w' => e = .returned (.tuple #[.int .i64 0, .bool false]) ∧ Below w.heap.size w w' := by
  have H := hide h
  clear h
  go_enter Tryd.func32, Tryd.ntmps32
  go_wp2_with fail
  refine (rowsUD_bad s v _ hs hg H.out).mono ?_
  rintro e w1 ⟨rfl, hb1⟩
  have q1 := hb1
  go_wp2
  go_returns
  exact ⟨rfl, q1⟩
set_option maxHeartbeats 800000 in
theorem implTP_off (s : ByteArray) (gd : Nat) (L : List St) (n : Nat) (hN : n = L.length) (w : World) (hs : s.size ≤ 1048576) (hg : Glob w) (hD : StAt w gd 0 L) (h : isBd s.data.toList = true) (h2 : tog s.data.toList L = false) : Calls Tryd.prog 32 #[.string s, .slice (some ⟨gd, 0, none⟩) n n] w fun e w' => e = .returned (.tuple #[.int .i64 0, .bool false]) ∧ Below w.heap.size w w' := by
  have H := hide h
  have H2 := hide h2
  have HN := hide hN
  have HD := hide hD
  clear h h2 hN hD
  go_enter Tryd.func32, Tryd.ntmps32
  go_wp2_with fail
  refine (rowsUD_off s gd L n HN.out _ hs hg HD.out H.out H2.out).mono ?_
  rintro e w1 ⟨rfl, hb1⟩
  have q1 := hb1
  go_wp2
  go_returns
  exact ⟨rfl, q1⟩
set_option maxHeartbeats 3200000 in
theorem implTP_on (s : ByteArray) (gd : Nat) (L : List St) (n : Nat) (hN : n = L.length) (w : World) (hs : s.size ≤ 1048576) (hg : Glob w) (hD : StAt w gd 0 L) (h : isBd s.data.toList = true) (h2 : tog s.data.toList L = true) : Calls Tryd.prog 32 #[.string s, .slice (some ⟨gd, 0, none⟩) n n] w fun e w' => e = .returned (.tuple #[.int .i64 (totI L L.length), .bool true]) ∧ Below w.heap.size w w' := by
  obtain ⟨n1, n3, hall⟩ := tog_facts h2
  have HTL := hide (totI_le n3)
  have HNEAR := hide (show ∀ (i : Nat) (u : St), L[i]? = some u → (-100000 ≤ u.x ∧ u.x ≤ 100000) ∧ (-100000 ≤ u.y ∧ u.y ≤ 100000) from fun i u hi => floor_near h (Bool.and_eq_true_iff.1 (hall i u hi).1).1)
  have hn3 : n ≤ 3 := by omega
  have H := hide h
  have H2 := hide h2
  have HN := hide hN
  have HD := hide hD
  clear h h2 hN hD hall n1 n3
  go_enter Tryd.func32, Tryd.ntmps32
  go_wp2_with fail
  refine (rowsUD_on s gd L n HN.out _ hs hg HD.out H.out H2.out).mono ?_
  rintro e w1 ⟨gR, rfl, hR, q1⟩
  clear hR
  go_wp2
  go_loopw [8, 23] (fun sm i wr => ∃ k : Nat, k ≤ n ∧ i = .int .i64 (k : Int) ∧ sm = .int .i64 (totI L k) ∧ Below w.heap.size w wr) (fun _ i _ => n - (intOf i).toNat)
  case atStart => exact ⟨0, Nat.zero_le _, rfl, rfl, q1⟩
  case round =>
    obtain ⟨k, hk, rfl, rfl, q⟩ := hrel
    clear q1
    obtain ⟨b0, b1⟩ := HTL.out k (by have := HN.out; omega)
    by_cases hlt : k < n
    · have hx : L[k]? = some (L[k]'(by have := HN.out; omega)) := List.getElem?_eq_getElem (by have := HN.out; omega)
      generalize L[k]'(by have := HN.out; omega) = u at hx
      obtain ⟨a0, a1, a2, a3, a4, a5, a6, a7⟩ := (stAt_to q HD.out rfl).cells0 hx
      have hki : (k : Int) < (n : Int) := by omega
      have hkn : (k : Int) ≤ (n : Int) := by omega
      have hk0 : (0 : Int) ≤ (k : Int) := by omega
      have HU := hide (HNEAR.out k u hx)
      have HS := hide (totI_succ hx)
      have HX := hide hx
      generalize hz : totI L k = z at b0 b1 HS ⊢
      clear hx hz
      go_upto_region 8 with (fail)
      have S1 := IsS.new (w := wr) (s := u) (ty := 57)
      have q2 := q.alloc q.size (.cells #[.int .i64 u.x, .int .i64 u.y, .int .i64 u.d.t, .int .i64 u.d.n, .int .i64 u.d.e, .int .i64 u.d.s, .int .i64 u.d.w, .int .i64 u.d.b] 57)
      clear a0 a1 a2 a3 a4 a5 a6 a7 q
      obtain ⟨Bs, hBs⟩ : ∃ Bs, Bs = wr.heap.size := ⟨_, rfl⟩
      rw [← hBs] at S1
      rw [← hBs]
      generalize wr.alloc (.cells #[.int .i64 u.x, .int .i64 u.y, .int .i64 u.d.t, .int .i64 u.d.n, .int .i64 u.d.e, .int .i64 u.d.s, .int .i64 u.d.w, .int .i64 u.d.b] 57) = W2 at S1 q2 ⊢
      clear hBs
      have HMk := hide (show (L.take k).length = k from by rw [List.length_take]; have := HN.out; omega)
      have HRL := hide (fun j (hj : j ≤ k) => rowT_le tch2 u (L.take k) j (by have := HMk.out; omega))
      go_wp2
      go_loopw [8, 32] (fun sm i wr => ∃ j : Nat, j ≤ k ∧ i = .int .i64 (j : Int) ∧ sm = .int .i64 (z + rowT tch2 u ((L.take k).take j)) ∧ IsS wr Bs u 57 ∧ Below w.heap.size w wr) (fun _ i _ => k - (intOf i).toNat)
      case atStart => exact ⟨0, Nat.zero_le _, rfl, by rw [show rowT tch2 u ((L.take k).take 0) = 0 from rfl, Int.add_zero], S1, q2⟩
      case round =>
        obtain ⟨j, hj, rfl, rfl, S, q⟩ := hrel
        clear S1 q2
        obtain ⟨r0, r1⟩ := HRL.out j hj
        by_cases hjl : j < k
        · have hx : (L.take k)[j]? = some ((L.take k)[j]'(by have := HMk.out; omega)) := List.getElem?_eq_getElem (by have := HMk.out; omega)
          generalize (L.take k)[j]'(by have := HMk.out; omega) = t at hx
          obtain ⟨a0, a1, a2, a3, a4, a5, a6, a7⟩ := (stAt_to q (HD.out.take k) rfl).cells0 hx
          have hji : (j : Int) < (k : Int) := by omega
          have HT := hide (HNEAR.out j t (by rw [List.getElem?_take, if_pos hjl] at hx; exact hx))
          have HR := hide (rowT_snoc tch2 u hx)
          generalize hz2 : rowT tch2 u ((L.take k).take j) = r at r0 r1 HR ⊢
          clear hx hz2
          have hzr0 : 0 ≤ z + r := by omega
          have hzr1 : z + r ≤ 1000 := by omega
          obtain ⟨zr, hzr⟩ : ∃ zr, zr = z + r := ⟨_, rfl⟩
          rw [← hzr] at hzr0 hzr1 ⊢
          have HZR := hide hzr
          clear hzr
          go_upto_region 11 with (fail)
          have T1 := IsS.new (w := wr) (s := t) (ty := 57)
          have S2 := S.alloc (.cells #[.int .i64 t.x, .int .i64 t.y, .int .i64 t.d.t, .int .i64 t.d.n, .int .i64 t.d.e, .int .i64 t.d.s, .int .i64 t.d.w, .int .i64 t.d.b] 57)
          have q2 := q.alloc q.size (.cells #[.int .i64 t.x, .int .i64 t.y, .int .i64 t.d.t, .int .i64 t.d.n, .int .i64 t.d.e, .int .i64 t.d.s, .int .i64 t.d.w, .int .i64 t.d.b] 57)
          clear a0 a1 a2 a3 a4 a5 a6 a7 q S
          obtain ⟨Bt, hBt⟩ : ∃ Bt, Bt = wr.heap.size := ⟨_, rfl⟩
          rw [← hBt] at T1
          rw [← hBt]
          generalize wr.alloc (.cells #[.int .i64 t.x, .int .i64 t.y, .int .i64 t.d.t, .int .i64 t.d.n, .int .i64 t.d.e, .int .i64 t.d.s, .int .i64 t.d.w, .int .i64 t.d.b] 57) = W3 at T1 S2 q2 ⊢
          clear hBt
          obtain ⟨_, ⟨c0, c1, c2, c3, c4, c5, c6, c7⟩, -⟩ := S2.all
          obtain ⟨_, ⟨d0, d1, d2, d3, d4, d5, d6, d7⟩, -⟩ := T1.all
          go_wp2_with fail
          clear c0 c1 c2 c3 c4 c5 c6 c7 d0 d1 d2 d3 d4 d5 d6 d7
          refine (isTouching_any u t _ HU.out HT.out).mono ?_
          rintro e w4 ⟨rfl, hb4⟩
          have S4 := isS_to hb4 S2 rfl
          have q4 := below_to hb4 q2 q2.size rfl rfl rfl rfl
          clear hb4 S2 q2 T1
          cases hf : tch2 u t
          · have HF := hide hf
            clear hf
            go_wp2
            go_roundw
            case rel => exact ⟨j + 1, by omega, by go_num, by rw [HR.out, HF.out, show oneB false = 0 from rfl, HZR.out, Int.add_zero], S4, q4⟩
            case measure => simp [intOf] <;> omega
          · have HF := hide hf
            clear hf
            go_wp2
            go_roundw
            case rel => exact ⟨j + 1, by omega, by go_num, by rw [HR.out, HF.out, show oneB true = 1 from rfl, HZR.out, Int.add_assoc], S4, q4⟩
            case measure => simp [intOf] <;> omega
        · obtain rfl : k = j := by omega
          have HRR := hide (show rowT tch2 u ((L.take k).take k) = rowT tch2 u (L.take k) from by rw [List.take_of_length_le (by have := HMk.out; omega)])
          generalize hz2 : rowT tch2 u ((L.take k).take k) = r at r0 r1 HRR ⊢
          clear hz2
          obtain ⟨zr, hzr⟩ : ∃ zr, zr = z + r := ⟨_, rfl⟩
          rw [← hzr]
          have HZR := hide hzr
          clear hzr S
          go_wp2
          go_roundw
          case rel => exact ⟨k + 1, by omega, by go_num, by rw [HS.out, HZR.out, HRR.out], q⟩
          case measure => simp [intOf] <;> omega
    · obtain rfl : k = n := by omega
      have HF := hide (show totI L k = totI L L.length from by rw [← HN.out])
      generalize hz : totI L k = z at HF b0 b1 ⊢
      clear hz
      go_wp2
      go_returns
      exact ⟨by rw [← HF.out]; rfl, q⟩
/-- What TouchingPairs says. -/
def tpV (l : List UInt8) (L : List St) : Int := if adB l L = true then totS L L.length else 0
theorem specTP_any (s : ByteArray) (gd : Nat) (L : List St) (n : Nat) (hN : n = L.length) (w : World) (hs : s.size ≤ 1048576) (hD : StAt w gd 0 L) : Calls Tryd.prog 31 #[.string s, .slice (some ⟨gd, 0, none⟩) n n] w fun e w' => e = .returned (.tuple #[.int .i64 (tpV s.data.toList L), .bool (adB s.data.toList L)]) ∧ Below w.heap.size w w' := by
  unfold tpV
  cases h : isBd s.data.toList
  · rw [adB_no h, if_neg (by decide)]
    exact specTP_bad s _ w hs h
  · cases h2 : tog s.data.toList L
    · rw [adB_off h2, if_neg (by decide)]
      exact specTP_off s gd L n hN w hs hD h h2
    · rw [adB_on h h2, if_pos rfl]
      exact specTP_on s gd L n hN w hs hD h h2
theorem implTP_any (s : ByteArray) (gd : Nat) (L : List St) (n : Nat) (hN : n = L.length) (w : World) (hs : s.size ≤ 1048576) (hg : Glob w) (hD : StAt w gd 0 L) : Calls Tryd.prog 32 #[.string s, .slice (some ⟨gd, 0, none⟩) n n] w fun e w' => e = .returned (.tuple #[.int .i64 (tpV s.data.toList L), .bool (adB s.data.toList L)]) ∧ Below w.heap.size w w' := by
  unfold tpV
  cases h : isBd s.data.toList
  · rw [adB_no h, if_neg (by decide)]
    exact implTP_bad s _ w hs hg h
  · cases h2 : tog s.data.toList L
    · rw [adB_off h2, if_neg (by decide)]
      exact implTP_off s gd L n hN w hs hg hD h h2
    · rw [adB_on h h2, if_pos rfl]
      have hf := tog_facts h2
      rw [← tot_eq hf.1 hf.2.1]
      exact implTP_on s gd L n hN w hs hg hD h h2
end Go.Proofs.YtdndegonpdakkaaDoor
