/- ListColorings of both sides, and the walk of its law. -/
import Derived.Test.YtjikpkembcnfnaaDoorNextK
import Derived.Test.YtjikpkembcnfnaaDoorWaysL
import Derived.Test.YtjikpkembcnfnaaDoorFaces
import Derived.Test.YtjikpkembcnfnaaDoorEql
import Derived.Test.YtjikpkembcnfnaaDoorWalksCK
import Derived.Maps.AppendAt
import Derived.Deep.Cut
namespace Go.Proofs.YtjikpkembcnfnaaDoor
set_option maxRecDepth 100000
set_option linter.all false
open Go.RowKit

/-- The colouring of a number. -/
def digK (k c i : Nat) : Int := ((c / k ^ (5 - i) % k : Nat) : Int)
def dieK (k c : Nat) : D := ⟨digK k c 0, digK k c 1, digK k c 2, digK k c 3, digK k c 4, digK k c 5⟩
theorem fl_dieK (k c : Nat) : fl (dieK k c) = choiceK k c := rfl
theorem goodK {k : Nat} (hk : 0 < k) (h3 : k ≤ 3) (c : Nat) : goodB (dieK k c) = true := by
  have h : ∀ i, 0 ≤ digK k c i ∧ digK k c i ≤ 9 := fun i => by
    have := Nat.mod_lt (c / k ^ (5 - i)) hk
    unfold digK
    omega
  simp only [goodB, decide_eq_true_eq]
  exact ⟨(h 0).1, (h 0).2, (h 1).1, (h 1).2, (h 2).1, (h 2).2, (h 3).1, (h 3).2, (h 4).1, (h 4).2, (h 5).1, (h 5).2⟩
def codeK (k : Nat) (X : List Int) : Nat := X.foldl (fun a x => a * k + x.toNat) 0
theorem codeK_choice : ∀ k ∈ [1, 2, 3], ∀ c ∈ List.range (k ^ 6), codeK k (choiceK k c) = c := by decide +kernel
def codeM (k : Nat) (w : World) (b : Nat) : Nat := codeK k ((List.range 6).map fun i => intOf ((w.cell? ⟨b, i, none⟩).getD undef))
theorem codeM_is {k : Nat} {w : World} {b : Nat} {d : D} {ty : TypeId} (h : IsD w b d ty) : codeM k w b = codeK k (fl d) := by
  obtain ⟨-, ⟨c0, c1, c2, c3, c4, c5⟩, -⟩ := h.all
  simp [codeM, List.range_succ, c0, c1, c2, c3, c4, c5, intOf, fl]
theorem isA_die {w : World} {b : Nat} {d : D} {ty : TypeId} (h : IsD w b d ty) : IsA w b (fl d) ty := h
theorem isD_arr {w : World} {b : Nat} {d : D} {ty : TypeId} (h : IsA w b (fl d) ty) : IsD w b d ty := h
theorem isD_grown {w w1 : World} {b : Nat} {d : D} {ty : TypeId} {r : Option Nat} (h : IsD w b d ty) (hg : w.grownBy w1 r) (hne : some b ≠ r) : IsD w1 b d ty := (hg.block b h.lt hne).trans h
/-- Is a colouring the least of its turns? -/
def lcB (d : D) : Bool := decide (ldV d = d)
/-- Those of the first c colourings. -/
def lcL (k c : Nat) : List D := ((List.range c).map (dieK k)).filter lcB
theorem lcL_succ (k c : Nat) : lcL k (c + 1) = lcL k c ++ (if lcB (dieK k c) = true then [dieK k c] else []) := by
  unfold lcL
  rw [List.range_succ, List.map_append, List.filter_append]
  congr 1
  simp only [List.map_cons, List.map_nil, List.filter_cons, List.filter_nil]
theorem lcL_len (k c : Nat) : (lcL k c).length ≤ c := by
  have := List.length_filter_le lcB ((List.range c).map (dieK k))
  unfold lcL
  simp at this ⊢
  exact this
theorem pow6 {k : Nat} (h1 : 1 ≤ k) (h3 : k ≤ 3) : 0 < k ^ 6 ∧ k ^ 6 ≤ 729 := by
  have : k = 1 ∨ k = 2 ∨ k = 3 := by omega
  rcases this with rfl | rfl | rfl <;> decide
theorem mem123 {k : Nat} (h1 : 1 ≤ k) (h3 : k ≤ 3) : k ∈ [1, 2, 3] := by
  have : k = 1 ∨ k = 2 ∨ k = 3 := by omega
  rcases this with rfl | rfl | rfl <;> simp
def lcA (k : Int) : List D := if decide (1 ≤ k ∧ k ≤ 3) = true then lcL k.toNat (k.toNat ^ 6) else []
theorem lcA_len (k : Int) : (lcA k).length ≤ 100000 := by
  unfold lcA
  split
  · rename_i h
    have h' : 1 ≤ k ∧ k ≤ 3 := of_decide_eq_true h
    have := lcL_len k.toNat (k.toNat ^ 6)
    have := (pow6 (k := k.toNat) (by omega) (by omega)).2
    omega
  · simp
set_option maxHeartbeats 800000 in
theorem implLC_no (k : Int) (w : World) (h : decide (1 ≤ k ∧ k ≤ 3) = false) : Calls Tryd.prog 19 #[.int .i64 k] w fun e w' => e = .returned (.tuple #[.slice none 0 0, .bool false]) ∧ Below w.heap.size w w' := by
  have h' : ¬ (1 ≤ k ∧ k ≤ 3) := of_decide_eq_false h
  by_cases h1 : k < 1
  · clear h h'
    go_enter Tryd.func19, Tryd.ntmps19
    go_wp2
    go_returns
    exact ⟨rfl, Below.refl _ _⟩
  · have h2 : 3 < k := by omega
    clear h h'
    go_enter Tryd.func19, Tryd.ntmps19
    go_wp2
    go_returns
    exact ⟨rfl, Below.refl _ _⟩
theorem arr_start (w : World) : ∃ W, w.alloc (.cells #[.int .i64 0, .int .i64 0, .int .i64 0, .int .i64 0, .int .i64 0, .int .i64 0] 72) = W ∧ IsD W w.heap.size ⟨0, 0, 0, 0, 0, 0⟩ 72 ∧ Below w.heap.size w W := ⟨_, rfl, IsD.new (d := ⟨0, 0, 0, 0, 0, 0⟩), (Below.refl _ _).alloc (Nat.le_refl _) _⟩
theorem dieK_zero (k : Nat) (h1 : 1 ≤ k) (h3 : k ≤ 3) : dieK k 0 = ⟨0, 0, 0, 0, 0, 0⟩ := by
  have : k = 1 ∨ k = 2 ∨ k = 3 := by omega
  rcases this with rfl | rfl | rfl <;> decide
set_option maxHeartbeats 3200000 in
theorem implLC_yes (k : Nat) (w : World) (h1 : 1 ≤ k) (h3 : k ≤ 3) : Calls Tryd.prog 19 #[.int .i64 (k : Int)] w fun e w' => ∃ v, e = .returned (.tuple #[v, .bool true]) ∧ w'.ownsRow w.heap.size 30 6 v (lcL k (k ^ 6)).length (cellsW (lcL k (k ^ 6))) ∧ Below w.heap.size w w' := by
  obtain ⟨W0, hW, F0, q0⟩ := arr_start w
  have HW := hide hW
  rw [← dieK_zero k h1 h3] at F0
  have hki1 : (1 : Int) ≤ (k : Int) := by omega
  have hki3 : (k : Int) ≤ 3 := by omega
  obtain ⟨hp0, hp7⟩ := pow6 h1 h3
  obtain ⟨N, hN⟩ : ∃ N, N = k ^ 6 := ⟨_, rfl⟩
  have HNX := hide (nxtk_choice k (mem123 h1 h3))
  have HCC := hide (codeK_choice k (mem123 h1 h3))
  rw [← hN] at hp0 hp7 HNX HCC ⊢
  have hHB := hide (choiceK_bd (k := k) (by omega))
  have hGD := hide (goodK (k := k) (by omega) h3)
  obtain ⟨i0, hi, hz0, hz1, hz2⟩ := info_parts info_die
  have HI := hide hi
  have HZ0 := hide hz0
  have HZ1 := hide hz1
  have HZ2 := hide hz2
  have HK := hide (And.intro h1 h3)
  clear hW hN hi hz0 hz1 hz2 h1 h3
  go_enter Tryd.func19, Tryd.ntmps19
  go_upto_region 5 with (fail)
  rw [HW.out]
  go_wp2_with fail
  refine (repeat_any (k : Int) W0.heap.size 6 _ (by omega) (by omega) (by show (W0.heap.push _)[W0.heap.size]? = _; simp)).mono ?_
  rintro e w1 ⟨gs, rfl, hgs, O1, hb1⟩
  have q1 := below_to hb1 (q0.alloc q0.size (.cells #[.int .i64 (k : Int)] 3)) (by have := q0.size; simp; omega) rfl rfl rfl rfl
  have F1 := hide (isD_to hb1 (F0.alloc (.cells #[.int .i64 (k : Int)] 3)) rfl)
  have hfl := F0.lt
  have hne : gs ≠ w.heap.size := by simp at hgs; omega
  obtain ⟨Bs, hBs⟩ : ∃ Bs, Bs = (W0.alloc (.cells #[.int .i64 (k : Int)] 3)).heap.size := ⟨_, rfl⟩
  rw [← hBs] at O1
  have hgs1 : gs < w1.heap.size := (O1.lt gs rfl).2
  have hf1 : w.heap.size < w1.heap.size := F1.out.lt
  have HO1 := hide O1
  obtain ⟨B1, hB1⟩ : ∃ B1, B1 = w1.heap.size := ⟨_, rfl⟩
  rw [← hB1] at hgs1 hf1
  have hB1i : B1 ≤ w1.heap.size := by omega
  clear hb1 O1 q0 F0 hgs hBs hfl hB1
  go_wp2
  go_loopw [4, 7] (fun mv f wr => ∃ c : Nat, c ≤ N ∧ f = .bool (decide (c < N)) ∧ B1 ≤ wr.heap.size ∧ wr.ownsRow B1 30 6 mv (lcL k c).length (cellsW (lcL k c)) ∧ IsD wr w.heap.size (dieK k c) 72 ∧ wr.ownsRow Bs 3 1 (.slice (some ⟨gs, 0, none⟩) 6 6) 6 (ints (List.replicate 6 (k : Int))) ∧ Below w.heap.size w wr) (fun _ f wr => match f with | .bool true => N - codeM k wr w.heap.size | _ => 0)
  case atStart => exact ⟨0, Nat.zero_le _, by rw [decide_eq_true hp0], hB1i, ⟨rfl, .inl ⟨rfl, rfl⟩⟩, F1.out, HO1.out, q1⟩
  case round =>
    obtain ⟨c, hc, rfl, hB, O, F, S, q⟩ := hrel
    clear F1 HO1 q1
    by_cases hlt : c < N
    · have hd : decide (c < N) = true := decide_eq_true hlt
      rw [hd]
      have HN1 := hide (HNX.out c (List.mem_range.2 hlt))
      have HCM := hide ((codeM_is (k := k) F).trans ((congrArg (codeK k) (fl_dieK k c)).trans (HCC.out c (List.mem_range.2 hlt))))
      have HGD := hide (hGD.out c)
      have HBD := hide (hHB.out c)
      have HSU := hide (lcL_succ k c)
      have hlen := lcL_len k c
      have HFL := hide (fl_dieK k c)
      have HNXT := hide (show ∀ (W : World) (ch : List Int), ch = choiceK k c → IsA W w.heap.size ch 72 → W.ownsRow Bs 3 1 (.slice (some ⟨gs, 0, none⟩) 6 6) 6 (ints (List.replicate 6 (k : Int))) → Calls Tryd.prog 50 #[.slice (some ⟨w.heap.size, 0, none⟩) 6 6, .slice (some ⟨gs, 0, none⟩) 6 6, .int .i64 5] W fun e w' => e = .returned (.bool (decide (c + 1 < N))) ∧ IsD w' w.heap.size (dieK k (c + 1)) 72 ∧ Kept (some w.heap.size) W w' from fun W ch hch hA hS => by
        subst hch
        refine (nextChoiceK_any (k : Int) (by omega) w.heap.size 6 gs 6 6 Bs 72 (choiceK k c) W (choiceK_len k c) (by omega) HBD.out hA hS hne).mono ?_
        rintro e w' ⟨rfl, h2, h3⟩
        rw [HN1.out] at h2 ⊢
        exact ⟨rfl, h2, h3⟩)
      have HOO := hide O
      have HFF := hide F
      have HSS := hide S
      generalize hdk : dieK k c = d at F HGD HSU HFF HFL
      have HDK := hide hdk
      obtain ⟨lf, ⟨a0, a1, a2, a3, a4, a5⟩, -⟩ := F.all
      obtain ⟨lb, hlb⟩ : ∃ lb, lb = lcB d := ⟨_, rfl⟩
      have heq := fun wx => eql_die (ldV d) d wx
      have HLB := hide hlb
      have hlb2 : decide (ldV d = d) = lb := hlb.symm
      rw [hlb2] at heq
      rw [← hlb] at HSU
      generalize hy : ldV d = y at heq hlb2
      have HY := hide (show ldV d = y from hy)
      clear O F S hd hdk hlb hlb2 hy
      go_wp2_with fail
      refine (dieOf_any d _).mono ?_
      rintro e w2 ⟨rfl, hb2⟩
      have q2 := below_to hb2 q q.size rfl rfl rfl rfl
      have F2 := isD_to hb2 HFF.out rfl
      have O2 := own_to hb2 HOO.out rfl
      have S2 := own_to hb2 HSS.out rfl
      have hb2s := hb2.size
      clear hb2 HFF HOO HSS q a0 a1 a2 a3 a4 a5 lf
      have q3 := q2.alloc q2.size (.cells #[.int .i64 d.t, .int .i64 d.n, .int .i64 d.e, .int .i64 d.s, .int .i64 d.w, .int .i64 d.b] 30)
      have HF3 := hide (F2.alloc (.cells #[.int .i64 d.t, .int .i64 d.n, .int .i64 d.e, .int .i64 d.s, .int .i64 d.w, .int .i64 d.b] 30))
      have HO3 := hide (O2.alloc (.cells #[.int .i64 d.t, .int .i64 d.n, .int .i64 d.e, .int .i64 d.s, .int .i64 d.w, .int .i64 d.b] 30))
      have HS3 := hide (S2.alloc (.cells #[.int .i64 d.t, .int .i64 d.n, .int .i64 d.e, .int .i64 d.s, .int .i64 d.w, .int .i64 d.b] 30))
      have X3 : IsD (w2.alloc (.cells #[.int .i64 d.t, .int .i64 d.n, .int .i64 d.e, .int .i64 d.s, .int .i64 d.w, .int .i64 d.b] 30)) w2.heap.size d 30 := IsD.new
      have hz3 : B1 ≤ (w2.alloc (.cells #[.int .i64 d.t, .int .i64 d.n, .int .i64 d.e, .int .i64 d.s, .int .i64 d.w, .int .i64 d.b] 30)).heap.size := by simp; omega
      have hx3 : w.heap.size ≤ w2.heap.size := q2.size
      go_upto_region 10 with (fail)
      clear F2 O2 S2 q2 hb2s
      generalize w2.alloc (.cells #[.int .i64 d.t, .int .i64 d.n, .int .i64 d.e, .int .i64 d.s, .int .i64 d.w, .int .i64 d.b] 30) = w3 at HF3 HO3 HS3 X3 q3 hz3 ⊢
      generalize w2.heap.size = bx at X3 hx3 ⊢
      obtain ⟨lx, ⟨c0, c1, c2, c3, c4, c5⟩, -⟩ := X3.all
      go_wp2_with fail
      refine (implLD_any d _).mono ?_
      rintro e w4 ⟨rfl, hb4⟩
      rw [HY.out]
      have q4 := below_to hb4 q3 q3.size rfl rfl rfl rfl
      have HF4 := hide (isD_to hb4 HF3.out rfl)
      have HO4 := hide (own_to hb4 HO3.out rfl)
      have HS4 := hide (own_to hb4 HS3.out rfl)
      have X4 := isD_to hb4 X3 rfl
      have hz4 : B1 ≤ w4.heap.size := Nat.le_trans hz3 hb4.size
      clear hb4 HF3 HO3 HS3 X3 q3 c0 c1 c2 c3 c4 c5 lx hz3
      have q5 := q4.alloc q4.size (.cells #[.int .i64 y.t, .int .i64 y.n, .int .i64 y.e, .int .i64 y.s, .int .i64 y.w, .int .i64 y.b] 30)
      have HF5 := hide (HF4.out.alloc (.cells #[.int .i64 y.t, .int .i64 y.n, .int .i64 y.e, .int .i64 y.s, .int .i64 y.w, .int .i64 y.b] 30))
      have HO5 := hide (HO4.out.alloc (.cells #[.int .i64 y.t, .int .i64 y.n, .int .i64 y.e, .int .i64 y.s, .int .i64 y.w, .int .i64 y.b] 30))
      have HS5 := hide (HS4.out.alloc (.cells #[.int .i64 y.t, .int .i64 y.n, .int .i64 y.e, .int .i64 y.s, .int .i64 y.w, .int .i64 y.b] 30))
      have X5 := X4.alloc (.cells #[.int .i64 y.t, .int .i64 y.n, .int .i64 y.e, .int .i64 y.s, .int .i64 y.w, .int .i64 y.b] 30)
      have Y5 : IsD (w4.alloc (.cells #[.int .i64 y.t, .int .i64 y.n, .int .i64 y.e, .int .i64 y.s, .int .i64 y.w, .int .i64 y.b] 30)) w4.heap.size y 30 := IsD.new
      have hz5 : B1 ≤ (w4.alloc (.cells #[.int .i64 y.t, .int .i64 y.n, .int .i64 y.e, .int .i64 y.s, .int .i64 y.w, .int .i64 y.b] 30)).heap.size := by simp; omega
      go_upto_region 11 with (fail)
      clear HF4 HO4 HS4 X4 q4 hz4
      generalize w4.alloc (.cells #[.int .i64 y.t, .int .i64 y.n, .int .i64 y.e, .int .i64 y.s, .int .i64 y.w, .int .i64 y.b] 30) = w5 at HF5 HO5 HS5 X5 Y5 q5 hz5 ⊢
      generalize w4.heap.size = by5 at Y5 ⊢
      obtain ⟨lx, ⟨c0, c1, c2, c3, c4, c5⟩, -⟩ := X5.all
      obtain ⟨ly, ⟨d0, d1, d2, d3, d4, d5⟩, -⟩ := Y5.all
      have hq5 := q5.size
      have HQ5 := hide q5
      clear X5 Y5 q5
      cases lb with
      | false =>
        have HE := hide (show lcL k (c + 1) = lcL k c from by rw [HSU.out]; simp)
        rw [← HE.out] at HO5
        clear HSU HE
        go_wp2_with fail
        clear c0 c1 c2 c3 c4 c5 d0 d1 d2 d3 d4 d5
        refine (HNXT.out _ _ HFL.out (isA_die HF5.out) HS5.out).mono ?_
        rintro e w6 ⟨rfl, F6, k6⟩
        have HF6 := hide F6
        have HO6 := hide (own_kept k6 HO5.out (fun g hg he => by have h1 := (HO5.out.lt g hg).1; have h2 : w.heap.size = g := Option.some.inj he; omega))
        have HS6 := hide (own_kept k6 HS5.out (fun g hg he => hne (by have h1 : gs = g := Option.some.inj hg; have h2 : w.heap.size = g := Option.some.inj he; omega)))
        have HQ6 := hide (HQ5.out.trans (k6.below (B := w.heap.size) (fun g he => by have : w.heap.size = g := Option.some.inj he; omega)))
        have hz6 : B1 ≤ w6.heap.size := by rw [k6.size]; exact hz5
        clear F6 k6 HF5 HO5 HS5 HQ5
        go_wp2
        go_roundw
        case rel => exact ⟨c + 1, by omega, rfl, hz6, HO6.out, HF6.out, HS6.out, HQ6.out⟩
        case measure =>
          have h1 := codeM_is (k := k) HF6.out
          have h2 := HCM.out
          by_cases h3 : c + 1 < N
          · rw [fl_dieK, HCC.out (c + 1) (List.mem_range.2 h3)] at h1
            simp [h3, h1, h2]
            omega
          · simp [h3, h2]
            omega
      | true =>
        have HE := hide (show lcL k (c + 1) = lcL k c ++ [d] from by rw [HSU.out, if_pos rfl])
        have HLE := hide (show (lcL k (c + 1)).length = (lcL k c).length + 1 from by rw [HE.out, List.length_append]; rfl)
        clear HSU
        go_wp2_with (at_builtin; refine wpList_append_own_at _ rfl _ _ 40 rfl B1 30 i0 (.agg #[.int .i64 0, .int .i64 0, .int .i64 0, .int .i64 0, .int .i64 0, .int .i64 0]) 6 48 Tryd.underlying40 HI.out HZ0.out HZ1.out HZ2.out rfl (by decide) _ _ _ rfl (HO5.out.alloc _) ⟨w5.heap.size, 0, none⟩ 1 1 (dcells d) rfl rfl (dcells_cell (IsD.new (w := w5) (d := d) (ty := 30))) (dcells_one d) (by unfold maxLen; omega) (by omega) (by simp; omega) ?_; intro v' w6 hown hgr hnil hblk)
        have hvb : ∀ g, u4.ownBlock = some g → B1 ≤ g := fun g hg => (HO5.out.lt g hg).1
        have HO6 := hide (show w6.ownsRow B1 30 6 v' (lcL k (c + 1)).length (cellsW (lcL k (c + 1))) from by
          rw [HLE.out, HE.out, cellsW_append, cellsW_one]
          exact hown)
        have HF6 := hide (isD_grown (HF5.out.alloc (.cells #[.int .i64 d.t, .int .i64 d.n, .int .i64 d.e, .int .i64 d.s, .int .i64 d.w, .int .i64 d.b] 30)) hgr (fun h => by have := hvb _ h.symm; omega))
        have HS6 := hide (own_growth (HS5.out.alloc (.cells #[.int .i64 d.t, .int .i64 d.n, .int .i64 d.e, .int .i64 d.s, .int .i64 d.w, .int .i64 d.b] 30)) hgr (fun g hg he => by have h1 : gs = g := Option.some.inj hg; have := hvb _ he.symm; omega))
        have HQ6 := hide ((HQ5.out.alloc HQ5.out.size (.cells #[.int .i64 d.t, .int .i64 d.n, .int .i64 d.e, .int .i64 d.s, .int .i64 d.w, .int .i64 d.b] 30)).grown hgr (by simp; omega) (fun j hj => by have := hvb j hj; omega))
        have hz6 : B1 ≤ w6.heap.size := by have := hgr.size; simp at this; omega
        clear hown hgr hnil hblk HF5 HO5 HS5 HQ5
        go_wp2_with fail
        clear c0 c1 c2 c3 c4 c5 d0 d1 d2 d3 d4 d5
        refine (HNXT.out _ _ HFL.out (isA_die HF6.out) HS6.out).mono ?_
        rintro e w7 ⟨rfl, F7, k7⟩
        have HF7 := hide F7
        have HO7 := hide (own_kept k7 HO6.out (fun g hg he => by have h1 := (HO6.out.lt g hg).1; have h2 : w.heap.size = g := Option.some.inj he; omega))
        have HS7 := hide (own_kept k7 HS6.out (fun g hg he => hne (by have h1 : gs = g := Option.some.inj hg; have h2 : w.heap.size = g := Option.some.inj he; omega)))
        have HQ7 := hide (HQ6.out.trans (k7.below (B := w.heap.size) (fun g he => by have : w.heap.size = g := Option.some.inj he; omega)))
        have hz7 : B1 ≤ w7.heap.size := by rw [k7.size]; exact hz6
        clear F7 k7 HF6 HO6 HS6 HQ6
        go_wp2
        go_roundw
        case rel => exact ⟨c + 1, by omega, rfl, hz7, HO7.out, HF7.out, HS7.out, HQ7.out⟩
        case measure =>
          have h1 := codeM_is (k := k) HF7.out
          have h2 := HCM.out
          by_cases h3 : c + 1 < N
          · rw [fl_dieK, HCC.out (c + 1) (List.mem_range.2 h3)] at h1
            simp [h3, h1, h2]
            omega
          · simp [h3, h2]
            omega
    · obtain rfl : c = N := by omega
      have hd : decide (c < c) = false := by simp
      rw [hd]
      have HO := hide (own_mono O (show w.heap.size ≤ B1 from by omega))
      clear O F S
      go_wp2
      go_returns
      exact ⟨_, rfl, HO.out, q⟩
end Go.Proofs.YtjikpkembcnfnaaDoor
