/- The contract of the program's isLoop. -/
import Derived.Test.YtkiocklkpnjejaaLoopM
import Derived.Deep.MidRow
namespace Go.Proofs.Ytkiocklkpnjejaa
set_option maxRecDepth 100000
set_option linter.all false
open Go.RowKit

theorem rangeA {w : World} {b : Nat} {M : List Int} {ty : TypeId} (h : IsA w b M ty) : w.rangeAt b 0 (ints M) := by
  intro j v hv
  unfold IsA at h
  simpa [World.cell?, h] using hv
theorem index_two (p q : Int) : ∀ (j : Nat) (hj : j < 2) (wx : World), (Instr.index 86 (.agg #[.int .i64 p, .int .i64 q]) (.int .i64 (j : Int))).run Try.prog wx = .ok (.int .i64 ([p, q].getD j 0)) wx
  | 0, _, _ => by kernel_rfl
  | 1, _, _ => by kernel_rfl
set_option maxHeartbeats 3200000 in
theorem isLoop_any (g gc cc n c : Nat) (Bc : Nat) (L : List D) (w : World) (hn : n = L.length) (h4 : n ≤ 4) (hD : DAt w g 0 L) (hgood : ∀ (i : Nat) (d : D), L[i]? = some d → goodB d = true) (hC : w.ownsRow Bc 3 1 (.slice (some ⟨gc, 0, none⟩) n cc) n (ints (choice n c))) : Calls Try.prog 81 #[.slice (some ⟨g, 0, none⟩) n n, .slice (some ⟨gc, 0, none⟩) n cc] w fun e w' => e = .returned (.bool (lpB L n c)) ∧ Below w.heap.size w w' := by
  have HD := hide hD
  have HN := hide hn
  have HG := hide hgood
  have HLP := hide (show decide (cntU (numK L (choice n c) n) = eachU n 2) = lpB L n c from lp_cnt (by omega) (numK_good hgood _ n (by omega)))
  have HNL := hide (fun k => numK_len L n c k)
  have HDG := hide (fun k => choice_digit n c k)
  have HCL := hide (choice_len n c)
  obtain ⟨r, hr⟩ : ∃ r, r = lpB L n c := ⟨_, rfl⟩
  rw [← hr] at HLP ⊢
  clear hr
  obtain ⟨ch, hch⟩ : ∃ ch, ch = choice n c := ⟨_, rfl⟩
  rw [← hch] at HLP HNL HDG HCL hC
  clear hch
  have HC := hide hC
  have HEO := hide (fun W => eachOf_any n 2 h4 W)
  have h4i : (n : Int) ≤ 4 := by omega
  have A0 := IsA.new (w := w) (M := List.replicate 10 0) (ty := 80)
  have q : Below w.heap.size w (w.alloc (.cells (ints (List.replicate 10 0)).toArray 80)) := by go_grown
  have C0 := hC.alloc (.cells (ints (List.replicate 10 0)).toArray 80)
  rw [zeros_num] at A0 q C0
  have hgcl := (hC.lt gc rfl).2
  clear hD hn hgood hC
  go_enter Try.func81, Try.ntmps81
  go_upto_region 2 with (fail)
  generalize w.alloc _ = w1 at A0 q C0 ⊢
  obtain ⟨b, hb⟩ : ∃ b, b = w.heap.size := ⟨_, rfl⟩
  have hwb : w.heap.size ≤ b := by omega
  rw [← hb] at A0 ⊢
  have hgb : gc < b := by omega
  clear hb hgcl
  have HA := hide A0
  have HQ := hide q
  have HC1 := hide C0
  clear A0 q C0 HC
  go_wp2
  go_loopw [12, 6, 7, 9] (fun i _ _ _ wr => ∃ k : Nat, k ≤ n ∧ i = .int .i64 (k : Int) ∧ IsA wr b (cntU (numK L ch k)) 80 ∧ wr.ownsRow Bc 3 1 (.slice (some ⟨gc, 0, none⟩) n cc) n (ints ch) ∧ Below w.heap.size w wr) (fun i _ _ _ _ => n - (intOf i).toNat)
  case atStart => exact ⟨0, Nat.zero_le _, rfl, by show IsA _ _ (cntU []) _; rw [cntU_zero]; exact HA.out, HC1.out, HQ.out⟩
  case round =>
    obtain ⟨k, hk, rfl, A, C, q⟩ := hrel
    clear HA HC1 HQ
    by_cases hlt : k < n
    · have hki : (k : Int) < (n : Int) := by omega
      have hx : L[k]? = some (L[k]'(by have := HN.out; omega)) := List.getElem?_eq_getElem (by have := HN.out; omega)
      have hchx : ch[k]? = some (ch.getD k 0) := by
        have : k < ch.length := by rw [HCL.out]; exact hlt
        rw [List.getD_eq_getElem?_getD, List.getElem?_eq_getElem this]
        rfl
      generalize L[k]'(by have := HN.out; omega) = d at hx
      obtain ⟨c0, c1, c2, c3, c4, c5⟩ := (dAt_to q HD.out rfl).cells0 hx
      have hdg := HDG.out k
      obtain ⟨m, hm⟩ : ∃ m : Nat, ch.getD k 0 = (m : Int) := ⟨(ch.getD k 0).toNat, by omega⟩
      have hm3 : m < 3 := by omega
      rw [hm] at hchx
      have hmi : (m : Int) < 3 := by omega
      obtain ⟨x, y, hp, ix⟩ := index_pair d m hm3
      have HNS := hide (show numK L ch (k + 1) = numK L ch k ++ [x, y] from by
        show numK L ch k ++ pk _ _ = _
        congr 1
        rw [List.getD_eq_getElem?_getD, hx, hm]
        unfold pk
        rw [List.getD_eq_getElem?_getD]
        simp only [Option.getD_some, Int.toNat_natCast]
        rw [hp]
        rfl)
      have hg9 := pairs_good (HG.out k d hx) [x, y] (List.mem_of_getElem? hp)
      have hx9 := hg9 x (by simp)
      have hy9 := hg9 y (by simp)
      have ct := ints_cell C k _ hchx
      have HA := hide (A.alloc (.cells #[.int .i64 d.t, .int .i64 d.n, .int .i64 d.e, .int .i64 d.s, .int .i64 d.w, .int .i64 d.b] 30))
      have HC := hide (C.alloc (.cells #[.int .i64 d.t, .int .i64 d.n, .int .i64 d.e, .int .i64 d.s, .int .i64 d.w, .int .i64 d.b] 30))
      have HQ := hide (q.alloc q.size (.cells #[.int .i64 d.t, .int .i64 d.n, .int .i64 d.e, .int .i64 d.s, .int .i64 d.w, .int .i64 d.b] 30))
      have HX := hide (IsD.new (w := wr) (d := d) (ty := 30))
      have ct1 := ints_cell HC.out k _ hchx
      have HCX := hide hchx
      have HIX := hide ix
      clear hx A C q hdg hm hchx hp hg9 ct ix
      go_upto_region 5 with (fail)
      clear c0 c1 c2 c3 c4 c5
      obtain ⟨lx, ⟨c0, c1, c2, c3, c4, c5⟩, -⟩ := HX.out.all
      generalize wr.heap.size = bx at HX c0 c1 c2 c3 c4 c5 lx ⊢
      generalize wr.alloc (.cells #[.int .i64 d.t, .int .i64 d.n, .int .i64 d.e, .int .i64 d.s, .int .i64 d.w, .int .i64 d.b] 30) = W2 at HX HA HC HQ ct1 c0 c1 c2 c3 c4 c5 lx ⊢
      obtain ⟨PV, hPV⟩ : ∃ PV, PV = pairsV d := ⟨_, rfl⟩
      have HPO := hide (fun wx => pairsOf_any d wx)
      rw [← hPV] at HIX HPO
      have ix := HIX.out
      clear hPV HIX
      go_region_held3 (fun w' => w'.cell? ⟨bx, 0, none⟩ = some (.int .i64 d.t) ∧ w'.cell? ⟨bx, 1, none⟩ = some (.int .i64 d.n) ∧ w'.cell? ⟨bx, 2, none⟩ = some (.int .i64 d.e) ∧ w'.cell? ⟨bx, 3, none⟩ = some (.int .i64 d.s) ∧ w'.cell? ⟨bx, 4, none⟩ = some (.int .i64 d.w) ∧ w'.cell? ⟨bx, 5, none⟩ = some (.int .i64 d.b) ∧ w'.cell? ⟨gc, k, none⟩ = some (.int .i64 (m : Int))) (first | (refine ⟨?_, ?_, ?_, ?_, ?_, ?_, ?_⟩ <;> with_reducible assumption) | (refine ⟨?_, ?_, ?_, ?_, ?_, ?_, ?_⟩ <;> assumption))
        (first
          | (go_at_call 76; (refine (HPO.out _).mono ?_); rintro e w3 ⟨rfl, hb3⟩; have HA3 := hide (IsA.to hb3 HA.out rfl); have HC3 := hide (own_to hb3 HC.out rfl); have HQ3 := hide (below_to hb3 HQ.out HQ.out.size rfl rfl rfl rfl); have X3 := isD_to hb3 HX.out rfl; clear hb3 c0 c1 c2 c3 c4 c5 ct1; obtain ⟨lx3, ⟨c0, c1, c2, c3, c4, c5⟩, -⟩ := X3.all; have ct1 := ints_cell HC3.out k _ HCX.out))
      have iy := index_two x y
      clear c0 c1 c2 c3 c4 c5 lx3 X3 ct1 ix
      go_wp2
      go_loopw [24, 9] (fun jv _ wi => ∃ j : Nat, j ≤ 2 ∧ jv = .int .i64 (j : Int) ∧ IsA wi b (cntU (numK L ch k ++ [x, y].take j)) 80 ∧ wi.ownsRow Bc 3 1 (.slice (some ⟨gc, 0, none⟩) n cc) n (ints ch) ∧ Below w.heap.size w wi) (fun jv _ _ => 2 - (intOf jv).toNat)
      case atStart => exact ⟨0, Nat.zero_le _, rfl, by rw [List.take_zero, List.append_nil]; exact HA3.out, HC3.out, HQ3.out⟩
      case round =>
        obtain ⟨j, hj, rfl, A, C, q⟩ := hrel
        clear HA3 HC3 HQ3
        by_cases hj2 : j < 2
        · have hji : (j : Int) < 2 := by omega
          have iz := iy j hj2
          have hz : [x, y][j]? = some ([x, y].getD j 0) := by
            have : j < [x, y].length := by simpa using hj2
            rw [List.getD_eq_getElem?_getD, List.getElem?_eq_getElem this]
            rfl
          have hz9 : 0 ≤ [x, y].getD j 0 ∧ [x, y].getD j 0 ≤ 9 := by
            have hm := List.mem_of_getElem? hz
            simp only [List.mem_cons, List.not_mem_nil, or_false] at hm
            rcases hm with h | h <;> rw [h]
            · exact hx9
            · exact hy9
          have HT := hide (show [x, y].take (j + 1) = [x, y].take j ++ [[x, y].getD j 0] from by rw [List.take_add_one, hz]; rfl)
          generalize [x, y].getD j 0 = z at iz hz9 HT
          obtain ⟨v, rfl⟩ : ∃ v : Nat, z = (v : Int) := ⟨z.toNat, by omega⟩
          have hv10 : v < 10 := by omega
          have hvi : (v : Int) < 10 := by omega
          have hnl := HNL.out k
          obtain ⟨xs, hxs⟩ : ∃ xs, xs = numK L ch k ++ [x, y].take j := ⟨_, rfl⟩
          have hxl : xs.length ≤ 10 := by
            rw [hxs, List.length_append, hnl, List.length_take]
            omega
          have HXS := hide (show numK L ch k ++ [x, y].take (j + 1) = xs ++ [(v : Int)] from by rw [HT.out, ← List.append_assoc, hxs])
          rw [← hxs] at A
          obtain ⟨ct, cf⟩ := A.cell (cntU_get xs v hv10)
          have hcc : xs.count (v : Int) ≤ 10 := Nat.le_trans List.count_le_length hxl
          have HA := hide (A.set v (by rw [cntU_len]; exact hv10) (((xs.count (v : Int) : Nat) : Int) + 1))
          rw [cntU_snoc xs v hv10, ← HXS.out] at HA
          have HC := hide (ownsRow_setCell_other C (a := ⟨b, v, none⟩) (fun h => by have : gc = b := Option.some.inj h; omega) (.int .i64 (((xs.count (v : Int) : Nat) : Int) + 1)))
          have HQ := hide (q.setCell (p := ⟨b, v, none⟩) hwb (.int .i64 (((xs.count (v : Int) : Nat) : Int) + 1)))
          generalize xs.count (v : Int) = cn at ct hcc HA HC HQ
          have hci : (cn : Int) ≤ 10 := by omega
          clear A C q hz hz9 hxs hnl iy
          go_wp2
          go_roundw
          case rel => exact ⟨j + 1, by omega, by go_num, HA.out, HC.out, HQ.out⟩
          case measure => simp [intOf] <;> omega
        · obtain rfl : j = 2 := by omega
          have HA := hide A
          rw [show [x, y].take 2 = [x, y] from rfl, ← HNS.out] at HA
          clear A iy
          go_wp2
          go_roundw
          case rel => exact ⟨k + 1, by omega, by go_num, HA.out, C, q⟩
          case measure => simp [intOf] <;> omega
    · obtain rfl : k = n := by omega
      have HME := hide (eql_num (cntU (numK L ch k)) (eachU k 2) (cntU_len _) (eachU_len _ _))
      rw [HLP.out] at HME
      obtain ⟨M, hM⟩ : ∃ M, M = cntU (numK L ch k) := ⟨_, rfl⟩
      have HML := hide (show M.length = 10 from by rw [hM, cntU_len])
      rw [← hM] at A HME
      have rg := rangeA A
      have hum := und_num
      have hsm : (Try.prog.info? 80).map (·.size) = some (ints M).length := by rw [ints_len, HML.out]; exact size_num
      have HA := hide A
      obtain ⟨E, hE⟩ : ∃ E, E = (ints (eachU k 2)).toArray := ⟨_, rfl⟩
      rw [← hE] at HEO HME
      have heq := HME.out
      clear A C hM hE HME
      go_upto_region 11 with (fail)
      go_region_held3 (fun w' => w'.rangeAt b 0 (ints M)) (first | with_reducible assumption | assumption)
        (first
          | (go_at_call 98; (refine (HEO.out _).mono ?_); rintro e w3 ⟨rfl, hb3⟩; have q3 := below_to hb3 q q.size rfl rfl rfl rfl; have rg3 := rangeA (IsA.to hb3 HA.out rfl); clear hb3 rg; have rg := rg3; clear rg3))
      go_wp2
      go_returns
      exact ⟨rfl, q3⟩
end Go.Proofs.Ytkiocklkpnjejaa
