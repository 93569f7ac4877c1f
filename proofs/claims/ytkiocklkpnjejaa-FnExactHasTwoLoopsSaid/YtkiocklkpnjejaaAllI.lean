/- The program's AllLoops. -/
import Derived.Test.YtkiocklkpnjejaaRep
import Derived.Test.YtkiocklkpnjejaaIsLoop
import Derived.Test.YtkiocklkpnjejaaTow
namespace Go.Proofs.Ytkiocklkpnjejaa
set_option maxRecDepth 100000
set_option linter.all false
open Go.RowKit

def codeW (w : World) (g n : Nat) : Nat := codeL ((List.range n).map fun i => intOf ((w.cell? ⟨g, i, none⟩).getD undef))
theorem codeW_own {w : World} {B g cap n : Nat} {X : List Int} (h : w.ownsRow B 3 1 (.slice (some ⟨g, 0, none⟩) n cap) n (ints X)) (hl : X.length = n) : codeW w g n = codeL X := by
  unfold codeW
  congr 1
  apply List.ext_getElem?
  intro i
  by_cases hi : i < n
  · have hx : X[i]? = some (X[i]'(by omega)) := List.getElem?_eq_getElem (by omega)
    rw [List.getElem?_map, List.getElem?_range hi, hx, Option.map_some, ints_cell h i _ hx]
    rfl
  · rw [List.getElem?_eq_none (by simp; omega), List.getElem?_eq_none (by omega)]
theorem own_grownL {w w1 : World} {B g n cap z : Nat} {e : TypeId} {xs : List Value} {v : Value} (h : w.ownsRow B e z (.slice (some ⟨g, 0, none⟩) n cap) n xs) (hg : w.grownBy w1 v.ownBlock) (hne : ∀ k, v.ownBlock = some k → k ≠ g) : w1.ownsRow B e z (.slice (some ⟨g, 0, none⟩) n cap) n xs := by
  refine h.kept hg ?_
  cases hxb : (Value.slice (some ⟨g, 0, none⟩) n cap).ownBlock with
  | none => exact .inl rfl
  | some k => exact .inr (fun e => hne k e.symm (Option.some.inj (show some g = some k from hxb)).symm)
/-- All loops of a list of dice for a tower; else none. -/
def alL (L : List D) : List (List Int) := if towB L = true then loopsK L L.length (3 ^ L.length) else []
def AlPost (L : List D) (w : World) (e : Ending) (w' : World) : Prop := ∃ v, e = .returned (.tuple #[v, .bool (towB L)]) ∧ SS w' w.heap.size w'.heap.size v (alL L) ∧ Below w.heap.size w w'
set_option maxHeartbeats 800000 in
theorem implAL_no (g n : Nat) (L : List D) (w : World) (hn : n = L.length) (h4 : n ≤ 1048576) (hD : DAt w g 0 L) (h : towB L = false) : Calls Try.prog 42 #[.slice (some ⟨g, 0, none⟩) n n] w fun e w' => e = .returned (.tuple #[.slice none 0 0, .bool false]) ∧ Below w.heap.size w w' := by
  have HC := hide (isListForTower_any g n n L w hn h4 hD)
  rw [h] at HC
  clear hD hn h
  go_enter Try.func42, Try.ntmps42
  go_wp2_with fail
  refine HC.out.mono ?_
  rintro e w1 ⟨rfl, q1⟩
  go_wp2
  go_returns
  exact ⟨rfl, q1⟩
set_option maxHeartbeats 1000000 in
theorem implAL_yes (g n : Nat) (L : List D) (w : World) (hn : n = L.length) (h4 : n ≤ 1048576) (hD : DAt w g 0 L) (h : towB L = true) : Calls Try.prog 42 #[.slice (some ⟨g, 0, none⟩) n n] w fun e w' => ∃ v, e = .returned (.tuple #[v, .bool true]) ∧ SS w' w.heap.size w'.heap.size v (loopsK L n (3 ^ n)) ∧ Below w.heap.size w w' := by
  have HC := hide (isListForTower_any g n n L w hn h4 hD)
  rw [h] at HC
  have hl := towB_len h
  have hn4 : n ≤ 4 := by omega
  have hn1 : 1 ≤ n := by omega
  have HG := hide (show ∀ (i : Nat) (d : D), L[i]? = some d → goodB d = true from fun i d hi => towB_good h hi)
  have HD := hide hD
  have HN := hide hn
  have hp3 : 3 ^ n ≤ 81 := by
    have : n = 1 ∨ n = 2 ∨ n = 3 ∨ n = 4 := by omega
    rcases this with e | e | e | e <;> rw [e] <;> decide
  have hni : (n : Int) ≤ 4 := by omega
  have hni1 : (1 : Int) ≤ (n : Int) := by omega
  obtain ⟨i0, hi, hz0, hz1, hz2⟩ := info_parts info_intI
  have HI := hide hi
  have HZ0 := hide hz0
  have HZ1 := hide hz1
  have HZ2 := hide hz2
  clear hi hz0 hz1 hz2
  obtain ⟨i1, hi, hz0, hz1, hz2⟩ := info_parts info_intS
  have HJ := hide hi
  have HY0 := hide hz0
  have HY1 := hide hz1
  have HY2 := hide hz2
  clear hi hz0 hz1 hz2
  have HMR := hide (show (madeCells (Value.int .i64 0).cells (n * 1)).toList = ints (choice n 0) from by rw [made_rep n (List.mem_range.2 (by omega)), choice_zero n (List.mem_range.2 (by omega))]; simp [rep])
  clear hD hn h hl
  go_enter Try.func42, Try.ntmps42
  go_wp2_with fail
  refine HC.out.mono ?_
  rintro e w1 ⟨rfl, q1⟩
  go_wp2_with (first
    | (go_at_call 79; (refine (repeat_any w2.heap.size n _ hn1 hn4 (by show (w2.heap.push _)[w2.heap.size]? = _; simp)).mono ?_))
    | (at_make; refine wpList_make_full _ rfl _ _ 27 rfl w1.heap.size 3 i0 (.int .i64 0) 1 Try.underlying27 HI.out HZ0.out HZ1.out .i64 .i64 _ _ n rfl rfl (by omega) (by omega) (by rw [HZ2.out]; omega) (by unfold maxLen; omega) (Nat.le_refl _) ?_; intro w2 O2 g2; rw [HMR.out] at O2; have q2 : Below w1.heap.size w1 w2 := (Below.refl _ _).grown g2 (Nat.le_refl _) (fun j hj => by cases hj)))
  rintro e w3 ⟨gs, rfl, hgs, O3, hb3⟩
  have q2' := below_to q2 q1 q1.size rfl rfl rfl rfl
  have hw2 := q2.size
  have hgc2 : w1.heap.size < w2.heap.size := by have := (O2.lt w1.heap.size rfl).2; omega
  have hs2 : (w2.alloc (.cells #[.int .i64 3] 3)).heap.size = w2.heap.size + 1 := by simp
  have C3 := hide (own_to hb3 (O2.alloc (.cells #[.int .i64 3] 3)) rfl)
  have Q3 := hide (below_to hb3 (q2'.alloc q2'.size (.cells #[.int .i64 3] 3)) (q2'.alloc q2'.size (.cells #[.int .i64 3] 3)).size rfl rfl rfl rfl)
  have Z3 := hide O3
  have hne : gs ≠ w1.heap.size := by omega
  have hw1 := q1.size
  obtain ⟨B1, hB1⟩ : ∃ B1, B1 = w3.heap.size := ⟨_, rfl⟩
  have hgs1 : gs < B1 := by have := (O3.lt gs rfl).2; omega
  have hgc1 : w1.heap.size < B1 := by omega

  obtain ⟨Bs, hBs⟩ : ∃ Bs, Bs = (w2.alloc (.cells #[.int .i64 3] 3)).heap.size := ⟨_, rfl⟩
  rw [← hBs] at Z3
  have hgcw : w.heap.size ≤ w1.heap.size := by omega
  have hwB : w.heap.size ≤ B1 := by omega
  have hB1i : B1 ≤ w3.heap.size := by omega
  have HB1 := hide hB1
  clear O2 q2 q2' hb3 O3 q1 g2 hB1 hs2 hgs hw2 hgc2 hBs
  go_wp2
  go_loopw [4, 7] (fun v f wr => ∃ (c T : Nat), c ≤ 3 ^ n ∧ f = .bool (decide (c < 3 ^ n)) ∧ T ≤ wr.heap.size ∧ B1 ≤ wr.heap.size ∧ SS wr B1 T v (loopsK L n c) ∧ wr.ownsRow w1.heap.size 3 1 (.slice (some ⟨w1.heap.size, 0, none⟩) n n) n (ints (choice n c)) ∧ wr.ownsRow Bs 3 1 (.slice (some ⟨gs, 0, none⟩) n n) n (ints (List.replicate n 3)) ∧ Below w.heap.size w wr) (fun _ f wr => match f with | .bool true => 3 ^ n - codeW wr w1.heap.size n | _ => 0)
  case atStart => exact ⟨0, 0, Nat.zero_le _, by rw [decide_eq_true (Nat.pow_pos (by decide))], Nat.zero_le _, hB1i, ss_nil _ _ _, C3.out, Z3.out, Q3.out⟩
  case round =>
    obtain ⟨c, T, hc, rfl, hT, hB1w, S, C, Z, q⟩ := hrel
    clear C3 Z3 Q3
    by_cases hlt : c < 3 ^ n
    · have hd : decide (c < 3 ^ n) = true := decide_eq_true hlt
      rw [hd]
      have HNX := hide (nxt_choice n (List.mem_range.2 (by omega)) c (List.mem_range.2 hlt) hn1)
      have HCW := hide ((codeW_own C (choice_len n c)).trans (code_choice n (List.mem_range.2 (by omega)) c (List.mem_range.2 hlt)))
      have HDG := hide (show ∀ x ∈ choice n c, 0 ≤ x ∧ x ≤ 3 from fun x hx => by
        obtain ⟨i, hi⟩ := List.mem_iff_getElem?.1 hx
        have := choice_digit n c i
        rw [List.getD_eq_getElem?_getD, hi] at this
        simp at this
        omega)
      have HIL := hide (isLoop_any g w1.heap.size n n c w1.heap.size L wr HN.out hn4 (dAt_to q HD.out rfl) HG.out C)
      have HSU := hide (loopsK_succ L n c)
      have Hq := hide q
      have HS := hide S
      have HCC := hide C
      have HZZ := hide Z
      clear q S C Z hd
      go_wp2_with fail
      refine HIL.out.mono ?_
      rintro e w4 ⟨rfl, hb4⟩
      have S4 := hide (ss_to hb4 HS.out rfl)
      have C4 := hide (own_to hb4 HCC.out rfl)
      have Z4 := hide (own_to hb4 HZZ.out rfl)
      have Q4 := hide (below_to hb4 Hq.out Hq.out.size rfl rfl rfl rfl)
      have hw4 := hb4.size
      clear HS HCC HZZ Hq hb4 HIL
      cases hlp : lpB L n c
      · rw [hlp] at HSU
        have S6 := hide (show SS w4 B1 T _ (loopsK L n (c + 1)) from by rw [HSU.out]; simpa using S4.out)
        have C6 := C4
        have Z6 := Z4
        have Q6 := Q4
        have T6 := hide (show T ≤ w4.heap.size from by omega)
        clear S4 C4 Z4 Q4 hlp HSU
        go_wp2_with fail
        refine (nextChoice_any w1.heap.size n gs n n _ Bs (choice n c) _ (choice_len n c) hn4 HDG.out C6.out Z6.out hne).mono ?_
        rintro e w7 ⟨rfl, C7, k7⟩
        rw [HNX.out] at C7
        rw [HNX.out]
        have C8 := hide C7
        have Z8 := hide (own_kept k7 Z6.out (fun k hk he => hne (by have h1 : gs = k := Option.some.inj hk; have h2 : w1.heap.size = k := Option.some.inj he; omega)))
        have S8 := hide (ss_kept k7 S6.out (fun k hk1 _ he => by have : w1.heap.size = k := Option.some.inj he; omega))
        have Q8 := hide (Q6.out.trans (k7.below (B := w.heap.size) (fun k he => by have : w1.heap.size = k := Option.some.inj he; omega)))
        have B8 := hide (show B1 ≤ w7.heap.size from by rw [k7.size]; omega)
        have T8 := hide (show _ ≤ w7.heap.size from by rw [k7.size]; exact T6.out)
        clear C7 k7 C6 Z6 S6 Q6 T6
        go_wp2
        go_roundw
        case rel => exact ⟨c + 1, _, by omega, rfl, T8.out, B8.out, S8.out, C8.out, Z8.out, Q8.out⟩
        case measure =>
          have h1 := codeW_own C8.out (choice_len n (c + 1))
          have h2 := HCW.out
          by_cases h3 : c + 1 < 3 ^ n
          · rw [code_choice n (List.mem_range.2 (by omega)) (c + 1) (List.mem_range.2 h3)] at h1
            simp [h3, h1, h2]
            omega
          · simp [h3, h2]
            omega
      · rw [hlp, if_pos rfl] at HSU
        have hPl := loopsK_len L n c
        obtain ⟨P, hP⟩ : ∃ P, P = loopsK L n c := ⟨_, rfl⟩
        rw [← hP] at S4 HSU hPl
        obtain ⟨m, hm⟩ : ∃ m, m = P.length := ⟨_, rfl⟩
        obtain ⟨vs, s1, s2, s3, s4, s5⟩ := S4.out
        rw [← hm] at s1 s2 hPl
        have HS1 := hide (And.intro s1 (And.intro s3 (And.intro s4 s5)))
        have HO := hide s2
        have HM := hide hm
        have HCL := hide (Try.slices_Clone_int w1.heap.size 0 n n (choice n c) w4 (by rw [choice_len]; exact Nat.le_refl _) (by omega) (fun j hj => by
          rw [Nat.zero_add]
          have hx : (choice n c)[j]? = some ((choice n c).getD j 0) := by rw [List.getD_eq_getElem?_getD, List.getElem?_eq_getElem hj]; rfl
          exact ints_cell C4.out j _ hx))
        have hm81 : m ≤ 81 := by omega
        clear s1 s2 s3 s4 s5 S4 hlp hP hm hPl
        go_wp2_with (first
          | (go_at_call 77; (refine HCL.out.mono ?_); rintro e w5 ⟨u, rfl, hu, -, hb5⟩; rw [List.take_of_length_le (by rw [choice_len]; exact Nat.le_refl _)] at hu; obtain ⟨pu, cu, rfl⟩ := int_form hu; have HU := hide hu; have HO5 := hide (own_to hb5 HO.out rfl); have HQ5 := hide (below_to hb5 Q4.out Q4.out.size rfl rfl rfl rfl); have HB5 := hide hb5; have hs5 := hb5.size; clear hu hb5)
          | (at_builtin; (refine wpList_append_own_at _ rfl _ _ 51 rfl B1 27 i1 (.slice none 0 0) 1 24 Try.underlying51 HJ.out HY0.out HY1.out HY2.out rfl (by decide) _ _ _ rfl (HO5.out.alloc _) ⟨w5.heap.size, 0, none⟩ 1 1 [.slice pu n cu] rfl rfl (cell_one_newR _ _ _) (by intro z hz; simp only [List.mem_singleton] at hz; subst hz; exact one_slice HU.out) (by unfold maxLen; omega) (by omega) (by simp; omega) ?_); intro v' w6 hown hgr hnil hblk))
        have S6 := hide (show SS w6 B1 w6.heap.size v' (loopsK L n (c + 1)) from by
          rw [HSU.out]
          obtain ⟨h1, h3, h4, h5⟩ := HS1.out
          have hst : ∀ i l z, P[i]? = some l → vs[i]? = some z → (w5.alloc (.cells #[.slice pu n cu] 27)).ownsRow B1 3 1 z l.length (ints l) ∧ (∀ g, z.ownBlock = some g → g < T) ∧ (∀ g, z.ownBlock = some g → u4.ownBlock ≠ some g) := fun i l z hl hz => ⟨((own_to HB5.out (h4 i l z hl hz).1 rfl).alloc _), (h4 i l z hl hz).2⟩
          have hcl : (choice n c).length = n := choice_len n c
          refine ss_snoc (w1 := w5.alloc (.cells #[.slice pu n cu] 27)) (b := w4.heap.size) (by rw [← HM.out]; exact h1) h3 hst h5 (by rw [hcl]; exact HU.out.alloc _) (by omega) (by omega) (by simp; omega) (by rw [← HM.out]; exact hown) hgr hblk)
        have hvb : ∀ k, u4.ownBlock = some k → B1 ≤ k := fun k hk => (HO5.out.lt k hk).1
        have C6 := hide (own_grownL ((own_to HB5.out C4.out rfl).alloc (.cells #[.slice pu n cu] 27)) hgr (fun k hk => by have := hvb k hk; omega))
        have Z6 := hide (own_grownL ((own_to HB5.out Z4.out rfl).alloc (.cells #[.slice pu n cu] 27)) hgr (fun k hk => by have := hvb k hk; omega))
        have Q6 := hide ((HQ5.out.alloc HQ5.out.size (.cells #[.slice pu n cu] 27)).grown hgr (by have := HQ5.out.size; simp; omega) (fun j hj => by have := hvb j hj; omega))
        have T6 := hide (Nat.le_refl w6.heap.size)
        have hw6 : w5.heap.size + 1 ≤ w6.heap.size := by have := hgr.size; simpa using this
        clear hown hgr hnil hblk hvb HO5 HQ5 HU HB5 HCL HS1 HM HO C4 Z4 Q4 HSU
        go_wp2_with fail
        refine (nextChoice_any w1.heap.size n gs n n _ Bs (choice n c) _ (choice_len n c) hn4 HDG.out C6.out Z6.out hne).mono ?_
        rintro e w7 ⟨rfl, C7, k7⟩
        rw [HNX.out] at C7
        rw [HNX.out]
        have C8 := hide C7
        have Z8 := hide (own_kept k7 Z6.out (fun k hk he => hne (by have h1 : gs = k := Option.some.inj hk; have h2 : w1.heap.size = k := Option.some.inj he; omega)))
        have S8 := hide (ss_kept k7 S6.out (fun k hk1 _ he => by have : w1.heap.size = k := Option.some.inj he; omega))
        have Q8 := hide (Q6.out.trans (k7.below (B := w.heap.size) (fun k he => by have : w1.heap.size = k := Option.some.inj he; omega)))
        have B8 := hide (show B1 ≤ w7.heap.size from by rw [k7.size]; omega)
        have T8 := hide (show _ ≤ w7.heap.size from by rw [k7.size]; exact T6.out)
        clear C7 k7 C6 Z6 S6 Q6 T6
        go_wp2
        go_roundw
        case rel => exact ⟨c + 1, _, by omega, rfl, T8.out, B8.out, S8.out, C8.out, Z8.out, Q8.out⟩
        case measure =>
          have h1 := codeW_own C8.out (choice_len n (c + 1))
          have h2 := HCW.out
          by_cases h3 : c + 1 < 3 ^ n
          · rw [code_choice n (List.mem_range.2 (by omega)) (c + 1) (List.mem_range.2 h3)] at h1
            simp [h3, h1, h2]
            omega
          · simp [h3, h2]
            omega
    · obtain rfl : c = 3 ^ n := by omega
      have hd : decide (3 ^ n < 3 ^ n) = false := decide_eq_false hlt
      rw [hd]
      have HS := hide (ss_mono S hwB hT)
      clear S C Z
      go_wp2
      go_returns
      exact ⟨_, rfl, HS.out, q⟩
theorem implAL_any (g n : Nat) (L : List D) (w : World) (hn : n = L.length) (h4 : n ≤ 1048576) (hD : DAt w g 0 L) : Calls Try.prog 42 #[.slice (some ⟨g, 0, none⟩) n n] w (AlPost L w) := by
  unfold AlPost alL
  cases h1 : towB L
  · rw [if_neg (by decide)]
    exact (implAL_no g n L w hn h4 hD h1).mono fun e w' k => ⟨_, k.1, ss_nil _ _ _, k.2⟩
  · rw [if_pos rfl, ← hn]
    exact implAL_yes g n L w hn h4 hD h1
end Go.Proofs.Ytkiocklkpnjejaa
