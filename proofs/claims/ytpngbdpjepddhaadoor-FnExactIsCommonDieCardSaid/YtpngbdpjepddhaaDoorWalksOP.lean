/- The walks of the law of OppositeOf. -/
import Derived.Test.YtpngbdpjepddhaaDoorGood
import Derived.Test.YtpngbdpjepddhaaDoorTo
import Derived.Deep.Cut
namespace Go.Proofs.YtpngbdpjepddhaaDoor
set_option maxRecDepth 100000
set_option linter.all false
open Go.RowKit

/-- The program's table of opposite places. -/
def Tab (w : World) : Prop := 0 < w.heap.size ∧ w.cell? ⟨0, 0, none⟩ = some (.int .i64 5) ∧ w.cell? ⟨0, 1, none⟩ = some (.int .i64 3) ∧ w.cell? ⟨0, 2, none⟩ = some (.int .i64 4) ∧ w.cell? ⟨0, 3, none⟩ = some (.int .i64 1) ∧ w.cell? ⟨0, 4, none⟩ = some (.int .i64 2) ∧ w.cell? ⟨0, 5, none⟩ = some (.int .i64 0)
theorem tab_to {w w' : World} {B : Nat} (h : Tab w) (q : Below B w w') (hB : w.heap.size ≤ B) : Tab w' := by
  obtain ⟨hl, h0, h1, h2, h3, h4, h5⟩ := h
  have hc : ∀ j, w'.cell? ⟨0, j, none⟩ = w.cell? ⟨0, j, none⟩ := fun j => World.cell?_of_block (q.block 0 (by omega))
  exact ⟨Nat.lt_of_lt_of_le hl q.size, (hc 0).trans h0, (hc 1).trans h1, (hc 2).trans h2, (hc 3).trans h3, (hc 4).trans h4, (hc 5).trans h5⟩
def atN (d : D) : Nat → Int
  | 0 => d.t
  | 1 => d.n
  | 2 => d.e
  | 3 => d.s
  | 4 => d.w
  | _ => d.b
def acN : Nat → Nat
  | 0 => 5
  | 1 => 3
  | 2 => 4
  | 3 => 1
  | 4 => 2
  | _ => 0
theorem run_index6 (d : D) (k : Nat) (hk : k ≤ 5) (wx : World) : (Instr.index 37 (D.v d) (.int .i64 (k : Int))).run Tryd.prog wx = .ok (.int .i64 (atN d k)) wx := by
  rcases (by omega : k = 0 ∨ k = 1 ∨ k = 2 ∨ k = 3 ∨ k = 4 ∨ k = 5) with rfl | rfl | rfl | rfl | rfl | rfl <;> clear hk
  all_goals
    simp [Instr.index, run_underlying Tryd.underlying37, asIntOf, go_sem, atN]
/-- How many of the first k faces have a number; the last such place; what is opposite to it. -/
def cntP (d : D) (f : Int) : Nat → Int
  | 0 => 0
  | k + 1 => if atN d k = f then cntP d f k + 1 else cntP d f k
def lstP (d : D) (f : Int) : Nat → Nat
  | 0 => 0
  | k + 1 => if atN d k = f then k else lstP d f k
def oppP (d : D) (f : Int) : Nat → Int
  | 0 => 0
  | k + 1 => if atN d k = f then atN d (acN k) else oppP d f k
theorem opp_lst (d : D) (f : Int) : ∀ k, cntP d f k ≠ 0 → oppP d f k = atN d (acN (lstP d f k))
  | 0, h => absurd rfl h
  | k + 1, h => by
    unfold cntP at h
    unfold oppP lstP
    split
    · rfl
    · rename_i hn
      rw [if_neg hn] at h
      exact opp_lst d f k h
theorem lst_le (d : D) (f : Int) : ∀ k, k ≤ 6 → lstP d f k ≤ 5
  | 0, _ => by simp [lstP]
  | k + 1, h => by
    unfold lstP
    split
    · omega
    · exact lst_le d f k (by omega)
theorem cnt_near (d : D) (f : Int) : ∀ k : Nat, 0 ≤ cntP d f k ∧ cntP d f k ≤ k
  | 0 => by simp [cntP]
  | k + 1 => by
    have := cnt_near d f k
    unfold cntP
    split <;> omega
/-- What OppositeOf answers. -/
def opF (d : D) (f : Int) : Bool := goodB d && decide (cntP d f 6 = 1)
def opV (d : D) (f : Int) : Int := if opF d f = true then oppP d f 6 else 0

set_option maxHeartbeats 800000 in
theorem diAcross_any (k : Nat) (w : World) (h : k ≤ 5) : Calls Tryd.prog 15 #[.int .i64 (k : Int)] w fun e w' => e = .returned (.int .i64 ((acN k : Nat) : Int)) ∧ w = w' := by
  rcases (by omega : k = 0 ∨ k = 1 ∨ k = 2 ∨ k = 3 ∨ k = 4 ∨ k = 5) with rfl | rfl | rfl | rfl | rfl | rfl <;> clear h
  all_goals
    go_enter Tryd.func15, Tryd.ntmps15
    go_wp2
    go_returns
    exact ⟨rfl, rfl⟩
theorem cells_at {w : World} {b : Nat} {d : D} {ty : TypeId} (h : IsD w b d ty) (k : Nat) (hk : k ≤ 5) : w.cell? ⟨b, k, none⟩ = some (.int .i64 (atN d k)) := by
  obtain ⟨-, ⟨c0, c1, c2, c3, c4, c5⟩, -⟩ := h.all
  match k, hk with
  | 0, _ => exact c0
  | 1, _ => exact c1
  | 2, _ => exact c2
  | 3, _ => exact c3
  | 4, _ => exact c4
  | 5, _ => exact c5

set_option maxHeartbeats 800000 in
theorem specOP_no (d : D) (f : Int) (w : World) (h : goodB d = false) : Calls Tryd.prog 6 #[D.v d, .int .i64 f] w fun e w' => e = .returned (.tuple #[.int .i64 0, .bool false]) ∧ Below w.heap.size w w' := by
  have H := hide h
  clear h
  go_enter Tryd.func6, Tryd.ntmps6
  go_wp2_with fail
  refine (diGood_any d _).mono ?_
  rintro e w1 ⟨rfl, hb1⟩
  rw [H.out]
  have q1 : Below w.heap.size w w1 := below_after (by go_grown) hb1 (by simp)
  clear hb1
  go_wp2
  go_returns
  exact ⟨rfl, q1⟩

set_option maxHeartbeats 800000 in
theorem implOP_no (d : D) (f : Int) (w : World) (h : goodB d = false) : Calls Tryd.prog 8 #[D.v d, .int .i64 f] w fun e w' => e = .returned (.tuple #[.int .i64 0, .bool false]) ∧ Below w.heap.size w w' := by
  have H := hide h
  clear h
  go_enter Tryd.func8, Tryd.ntmps8
  go_wp2_with fail
  refine (isDie_any d _).mono ?_
  rintro e w1 ⟨rfl, hb1⟩
  rw [H.out]
  have q1 : Below w.heap.size w w1 := below_after (by go_grown) hb1 (by simp)
  clear hb1
  go_wp2
  go_returns
  exact ⟨rfl, q1⟩

set_option maxHeartbeats 3200000 in
theorem specOP_one (d : D) (f : Int) (w : World) (h : goodB d = true) (h1 : cntP d f 6 = 1) : Calls Tryd.prog 6 #[D.v d, .int .i64 f] w fun e w' => e = .returned (.tuple #[.int .i64 (oppP d f 6), .bool true]) ∧ Below w.heap.size w w' := by
  have H := hide h
  have H1 := hide h1
  clear h h1
  go_enter Tryd.func6, Tryd.ntmps6
  go_wp2_with fail
  refine (diGood_any d _).mono ?_
  rintro e w1 ⟨rfl, hb1⟩
  rw [H.out]
  have I1 := isD_to hb1 (IsD.new (w := w) (d := d) (ty := 26)) rfl
  have q1 : Below w.heap.size w w1 := below_after (by go_grown) hb1 (by simp)
  clear hb1
  obtain ⟨l1, ⟨a0, a1, a2, a3, a4, a5⟩, -⟩ := I1.all
  go_wp2_with fail
  clear a0 a1 a2 a3 a4 a5 l1
  refine (diFaces_any d _).mono ?_
  rintro e w2 ⟨rfl, rfl⟩
  have I2 := (I1.alloc (.cells #[.int .i64 d.t, .int .i64 d.n, .int .i64 d.e, .int .i64 d.s, .int .i64 d.w, .int .i64 d.b] 26)).alloc (.cells #[.int .i64 d.t, .int .i64 d.n, .int .i64 d.e, .int .i64 d.s, .int .i64 d.w, .int .i64 d.b] 3)
  have F2 := IsD.new (w := w1.alloc (.cells #[.int .i64 d.t, .int .i64 d.n, .int .i64 d.e, .int .i64 d.s, .int .i64 d.w, .int .i64 d.b] 26)) (d := d) (ty := 3)
  have q2 := (q1.alloc q1.size (.cells #[.int .i64 d.t, .int .i64 d.n, .int .i64 d.e, .int .i64 d.s, .int .i64 d.w, .int .i64 d.b] 26)).alloc (by have := q1.size; simp; omega) (.cells #[.int .i64 d.t, .int .i64 d.n, .int .i64 d.e, .int .i64 d.s, .int .i64 d.w, .int .i64 d.b] 3)
  clear I1 q1
  simp only [World.size_alloc] at F2 ⊢
  generalize (w1.alloc (.cells #[.int .i64 d.t, .int .i64 d.n, .int .i64 d.e, .int .i64 d.s, .int .i64 d.w, .int .i64 d.b] 26)).alloc (.cells #[.int .i64 d.t, .int .i64 d.n, .int .i64 d.e, .int .i64 d.s, .int .i64 d.w, .int .i64 d.b] 3) = w2 at I2 F2 q2 ⊢
  generalize w1.heap.size + 1 = b at F2 ⊢
  have HF := hide F2
  have HQ := hide q2
  clear F2 q2
  go_wp2
  go_loop [16, 8, 9, 6, 7] (fun i _ _ p n => ∃ k : Nat, k ≤ 6 ∧ i = .int .i64 (k : Int) ∧ p = .int .i64 ((lstP d f k : Nat) : Int) ∧ n = .int .i64 (cntP d f k)) (fun i _ _ _ _ => 6 - (intOf i).toNat)
  case atStart => exact ⟨0, by omega, rfl, rfl, rfl⟩
  case round =>
    obtain ⟨k, hk, rfl, rfl, rfl⟩ := hrel
    by_cases hlt : k < 6
    · have c0 := cells_at HF.out k (by omega)
      have hn := cnt_near d f k
      have HC := hide (show cntP d f (k + 1) = if atN d k = f then cntP d f k + 1 else cntP d f k from rfl)
      have HL := hide (show lstP d f (k + 1) = if atN d k = f then k else lstP d f k from rfl)
      generalize cntP d f k = c at hn HC
      generalize lstP d f k = l at HL
      generalize atN d k = y at c0 HC HL
      have hk6 : (k : Int) < 6 := by omega
      by_cases e : y = f
      · have e1 : (y == f) = true := by simp [e]
        have HC2 := hide (HC.out.trans (if_pos e))
        have HL2 := hide (HL.out.trans (if_pos e))
        have w1q : IntKind.i64.wrap (c + 1) = c + 1 := IntWalk.i64_in _ (by omega)
        clear HC HL
        go_wp2
        go_round
        case rel => exact ⟨k + 1, by omega, by go_num, by rw [HL2.out], by rw [HC2.out]⟩
        case measure => simp [intOf] <;> omega
      · have e1 : (y == f) = false := by simp [e]
        have HC2 := hide (HC.out.trans (if_neg e))
        have HL2 := hide (HL.out.trans (if_neg e))
        clear HC HL
        go_wp2
        go_round
        case rel => exact ⟨k + 1, by omega, by go_num, by rw [HL2.out], by rw [HC2.out]⟩
        case measure => simp [intOf] <;> omega
    · obtain rfl : k = 6 := by omega
      have h1 := H1.out
      have HO := hide (opp_lst d f 6 (by omega))
      have hl := lst_le d f 6 (by omega)
      generalize hc : cntP d f 6 = c at h1
      have HCC := hide hc
      have HV := hide h1
      have e1 : (c != 1) = false := by simp [h1]
      clear hc
      generalize lstP d f 6 = p at HO hl
      obtain ⟨l1, ⟨a0, a1, a2, a3, a4, a5⟩, -⟩ := I2.all
      clear h1 hk hlt
      go_wp2_with fail
      clear a0 a1 a2 a3 a4 a5 l1
      refine (diFaces_any d _).mono ?_
      rintro e w3 ⟨rfl, rfl⟩
      have F3 := IsD.new (w := w2.alloc (.cells #[.int .i64 d.t, .int .i64 d.n, .int .i64 d.e, .int .i64 d.s, .int .i64 d.w, .int .i64 d.b] 26)) (d := d) (ty := 3)
      have hq2 := HQ.out
      have q3 := (hq2.alloc hq2.size (.cells #[.int .i64 d.t, .int .i64 d.n, .int .i64 d.e, .int .i64 d.s, .int .i64 d.w, .int .i64 d.b] 26)).alloc (by have := hq2.size; simp; omega) (.cells #[.int .i64 d.t, .int .i64 d.n, .int .i64 d.e, .int .i64 d.s, .int .i64 d.w, .int .i64 d.b] 3)
      clear hq2
      simp only [World.size_alloc] at F3 ⊢
      generalize (w2.alloc (.cells #[.int .i64 d.t, .int .i64 d.n, .int .i64 d.e, .int .i64 d.s, .int .i64 d.w, .int .i64 d.b] 26)).alloc (.cells #[.int .i64 d.t, .int .i64 d.n, .int .i64 d.e, .int .i64 d.s, .int .i64 d.w, .int .i64 d.b] 3) = w3 at F3 q3 ⊢
      generalize w2.heap.size + 1 = b3 at F3 ⊢
      have c0 := cells_at F3 (acN p) (by unfold acN; split <;> omega)
      have ha : acN p ≤ 5 := by unfold acN; split <;> omega
      have ha6 : ((acN p : Nat) : Int) < 6 := by omega
      clear F3
      go_wp2_with fail
      refine (diAcross_any p _ hl).mono ?_
      rintro e w4 ⟨rfl, rfl⟩
      generalize acN p = a at c0 ha ha6 HO ⊢
      generalize atN d a = y at c0 HO
      go_wp2
      go_returns
      exact ⟨by rw [HO.out]; rfl, q3⟩

set_option maxHeartbeats 3200000 in
theorem specOP_not (d : D) (f : Int) (w : World) (h : goodB d = true) (h1 : ¬ cntP d f 6 = 1) : Calls Tryd.prog 6 #[D.v d, .int .i64 f] w fun e w' => e = .returned (.tuple #[.int .i64 0, .bool false]) ∧ Below w.heap.size w w' := by
  have H := hide h
  have H1 := hide h1
  clear h h1
  go_enter Tryd.func6, Tryd.ntmps6
  go_wp2_with fail
  refine (diGood_any d _).mono ?_
  rintro e w1 ⟨rfl, hb1⟩
  rw [H.out]
  have I1 := isD_to hb1 (IsD.new (w := w) (d := d) (ty := 26)) rfl
  have q1 : Below w.heap.size w w1 := below_after (by go_grown) hb1 (by simp)
  clear hb1
  obtain ⟨l1, ⟨a0, a1, a2, a3, a4, a5⟩, -⟩ := I1.all
  go_wp2_with fail
  clear a0 a1 a2 a3 a4 a5 l1
  refine (diFaces_any d _).mono ?_
  rintro e w2 ⟨rfl, rfl⟩
  have I2 := (I1.alloc (.cells #[.int .i64 d.t, .int .i64 d.n, .int .i64 d.e, .int .i64 d.s, .int .i64 d.w, .int .i64 d.b] 26)).alloc (.cells #[.int .i64 d.t, .int .i64 d.n, .int .i64 d.e, .int .i64 d.s, .int .i64 d.w, .int .i64 d.b] 3)
  have F2 := IsD.new (w := w1.alloc (.cells #[.int .i64 d.t, .int .i64 d.n, .int .i64 d.e, .int .i64 d.s, .int .i64 d.w, .int .i64 d.b] 26)) (d := d) (ty := 3)
  have q2 := (q1.alloc q1.size (.cells #[.int .i64 d.t, .int .i64 d.n, .int .i64 d.e, .int .i64 d.s, .int .i64 d.w, .int .i64 d.b] 26)).alloc (by have := q1.size; simp; omega) (.cells #[.int .i64 d.t, .int .i64 d.n, .int .i64 d.e, .int .i64 d.s, .int .i64 d.w, .int .i64 d.b] 3)
  clear I1 q1
  simp only [World.size_alloc] at F2 ⊢
  generalize (w1.alloc (.cells #[.int .i64 d.t, .int .i64 d.n, .int .i64 d.e, .int .i64 d.s, .int .i64 d.w, .int .i64 d.b] 26)).alloc (.cells #[.int .i64 d.t, .int .i64 d.n, .int .i64 d.e, .int .i64 d.s, .int .i64 d.w, .int .i64 d.b] 3) = w2 at I2 F2 q2 ⊢
  generalize w1.heap.size + 1 = b at F2 ⊢
  have HF := hide F2
  have HQ := hide q2
  clear F2 q2
  go_wp2
  go_loop [16, 8, 9, 6, 7] (fun i _ _ p n => ∃ k : Nat, k ≤ 6 ∧ i = .int .i64 (k : Int) ∧ p = .int .i64 ((lstP d f k : Nat) : Int) ∧ n = .int .i64 (cntP d f k)) (fun i _ _ _ _ => 6 - (intOf i).toNat)
  case atStart => exact ⟨0, by omega, rfl, rfl, rfl⟩
  case round =>
    obtain ⟨k, hk, rfl, rfl, rfl⟩ := hrel
    by_cases hlt : k < 6
    · have c0 := cells_at HF.out k (by omega)
      have hn := cnt_near d f k
      have HC := hide (show cntP d f (k + 1) = if atN d k = f then cntP d f k + 1 else cntP d f k from rfl)
      have HL := hide (show lstP d f (k + 1) = if atN d k = f then k else lstP d f k from rfl)
      generalize cntP d f k = c at hn HC
      generalize lstP d f k = l at HL
      generalize atN d k = y at c0 HC HL
      have hk6 : (k : Int) < 6 := by omega
      by_cases e : y = f
      · have e1 : (y == f) = true := by simp [e]
        have HC2 := hide (HC.out.trans (if_pos e))
        have HL2 := hide (HL.out.trans (if_pos e))
        have w1q : IntKind.i64.wrap (c + 1) = c + 1 := IntWalk.i64_in _ (by omega)
        clear HC HL
        go_wp2
        go_round
        case rel => exact ⟨k + 1, by omega, by go_num, by rw [HL2.out], by rw [HC2.out]⟩
        case measure => simp [intOf] <;> omega
      · have e1 : (y == f) = false := by simp [e]
        have HC2 := hide (HC.out.trans (if_neg e))
        have HL2 := hide (HL.out.trans (if_neg e))
        clear HC HL
        go_wp2
        go_round
        case rel => exact ⟨k + 1, by omega, by go_num, by rw [HL2.out], by rw [HC2.out]⟩
        case measure => simp [intOf] <;> omega
    · obtain rfl : k = 6 := by omega
      have h1 := H1.out
      have hn := cnt_near d f 6
      generalize hc : cntP d f 6 = c at hn h1
      have HCC := hide hc
      have HV := hide h1
      have e1 : (c != 1) = true := by simpa using h1
      clear hc
      go_wp2
      go_returns
      exact ⟨rfl, HQ.out⟩

set_option maxHeartbeats 3200000 in
theorem implOP_one (d : D) (f : Int) (w : World) (hT : Tab w) (h : goodB d = true) (h1 : cntP d f 6 = 1) : Calls Tryd.prog 8 #[D.v d, .int .i64 f] w fun e w' => e = .returned (.tuple #[.int .i64 (oppP d f 6), .bool true]) ∧ Below w.heap.size w w' := by
  have H := hide h
  have H1 := hide h1
  clear h h1
  have hTT := hide hT
  clear hT
  go_enter Tryd.func8, Tryd.ntmps8
  go_wp2_with fail
  refine (isDie_any d _).mono ?_
  rintro e w1 ⟨rfl, hb1⟩
  rw [H.out]
  have I1 := isD_to hb1 (IsD.new (w := w) (d := d) (ty := 26)) rfl
  have q1 : Below w.heap.size w w1 := below_after (by go_grown) hb1 (by simp)
  clear hb1
  obtain ⟨l1, ⟨a0, a1, a2, a3, a4, a5⟩, -⟩ := I1.all
  go_wp2_with fail
  clear a0 a1 a2 a3 a4 a5 l1
  refine (facesOf_any d _).mono ?_
  rintro e w2 ⟨rfl, hb2⟩
  have q2 := below_to hb2 q1 q1.size rfl rfl rfl rfl
  have F3 := IsD.new (w := w2) (d := d) (ty := 37)
  have q3 := q2.alloc q2.size (.cells #[.int .i64 d.t, .int .i64 d.n, .int .i64 d.e, .int .i64 d.s, .int .i64 d.w, .int .i64 d.b] 37)
  have T3 := hide (tab_to hTT.out q3 (Nat.le_refl _))
  clear hb2 I1 q1 q2
  go_upto_region 5 with (fail)
  generalize w2.heap.size = b at F3 ⊢
  generalize w2.alloc (.cells #[.int .i64 d.t, .int .i64 d.n, .int .i64 d.e, .int .i64 d.s, .int .i64 d.w, .int .i64 d.b] 37) = w3 at F3 q3 T3 ⊢
  obtain ⟨l3, ⟨a0, a1, a2, a3, a4, a5⟩, -⟩ := F3.all
  obtain ⟨lg, g0, g1, g2, g3, g4, g5⟩ := T3.out
  clear T3 F3
  go_wp2
  go_loop [17, 9, 10, 7, 8] (fun i _ _ o n => ∃ k : Nat, k ≤ 6 ∧ i = .int .i64 (k : Int) ∧ o = .int .i64 (oppP d f k) ∧ n = .int .i64 (cntP d f k)) (fun i _ _ _ _ => 6 - (intOf i).toNat)
  case atStart => exact ⟨0, by omega, rfl, rfl, rfl⟩
  case round =>
    obtain ⟨k, hk, rfl, rfl, rfl⟩ := hrel
    by_cases hlt : k < 6
    · rcases (by omega : k = 0 ∨ k = 1 ∨ k = 2 ∨ k = 3 ∨ k = 4 ∨ k = 5) with rfl | rfl | rfl | rfl | rfl | rfl <;> clear hk hlt
      · have HC := hide (show cntP d f 1 = if d.t = f then cntP d f 0 + 1 else cntP d f 0 from rfl)
        have HO := hide (show oppP d f 1 = if d.t = f then d.b else oppP d f 0 from rfl)
        have hn := cnt_near d f 0
        have ixq : ∀ wx : World, (Instr.index 37 (D.v d) (.int .i64 0)).run Tryd.prog wx = .ok (.int .i64 d.t) wx := fun wx => run_index6 d 0 (by omega) wx
        generalize cntP d f 0 = c at hn HC
        generalize oppP d f 0 = o at HO
        by_cases e : d.t = f
        · have e1 : (d.t == f) = true := by simp [e]
          have HC2 := hide (HC.out.trans (if_pos e))
          have HO2 := hide (HO.out.trans (if_pos e))
          have w1q : IntKind.i64.wrap (c + 1) = c + 1 := IntWalk.i64_in _ (by omega)
          clear HC HO e
          go_wp2
          go_round
          case rel => exact ⟨1, by omega, by go_num, by rw [HO2.out], by rw [HC2.out]⟩
          case measure => simp [intOf] <;> omega
        · have e1 : (d.t == f) = false := by simp [e]
          have HC2 := hide (HC.out.trans (if_neg e))
          have HO2 := hide (HO.out.trans (if_neg e))
          clear HC HO e
          go_wp2
          go_round
          case rel => exact ⟨1, by omega, by go_num, by rw [HO2.out], by rw [HC2.out]⟩
          case measure => simp [intOf] <;> omega
      · have HC := hide (show cntP d f 2 = if d.n = f then cntP d f 1 + 1 else cntP d f 1 from rfl)
        have HO := hide (show oppP d f 2 = if d.n = f then d.s else oppP d f 1 from rfl)
        have hn := cnt_near d f 1
        have ixq : ∀ wx : World, (Instr.index 37 (D.v d) (.int .i64 1)).run Tryd.prog wx = .ok (.int .i64 d.n) wx := fun wx => run_index6 d 1 (by omega) wx
        generalize cntP d f 1 = c at hn HC
        generalize oppP d f 1 = o at HO
        by_cases e : d.n = f
        · have e1 : (d.n == f) = true := by simp [e]
          have HC2 := hide (HC.out.trans (if_pos e))
          have HO2 := hide (HO.out.trans (if_pos e))
          have w1q : IntKind.i64.wrap (c + 1) = c + 1 := IntWalk.i64_in _ (by omega)
          clear HC HO e
          go_wp2
          go_round
          case rel => exact ⟨2, by omega, by go_num, by rw [HO2.out], by rw [HC2.out]⟩
          case measure => simp [intOf] <;> omega
        · have e1 : (d.n == f) = false := by simp [e]
          have HC2 := hide (HC.out.trans (if_neg e))
          have HO2 := hide (HO.out.trans (if_neg e))
          clear HC HO e
          go_wp2
          go_round
          case rel => exact ⟨2, by omega, by go_num, by rw [HO2.out], by rw [HC2.out]⟩
          case measure => simp [intOf] <;> omega
      · have HC := hide (show cntP d f 3 = if d.e = f then cntP d f 2 + 1 else cntP d f 2 from rfl)
        have HO := hide (show oppP d f 3 = if d.e = f then d.w else oppP d f 2 from rfl)
        have hn := cnt_near d f 2
        have ixq : ∀ wx : World, (Instr.index 37 (D.v d) (.int .i64 2)).run Tryd.prog wx = .ok (.int .i64 d.e) wx := fun wx => run_index6 d 2 (by omega) wx
        generalize cntP d f 2 = c at hn HC
        generalize oppP d f 2 = o at HO
        by_cases e : d.e = f
        · have e1 : (d.e == f) = true := by simp [e]
          have HC2 := hide (HC.out.trans (if_pos e))
          have HO2 := hide (HO.out.trans (if_pos e))
          have w1q : IntKind.i64.wrap (c + 1) = c + 1 := IntWalk.i64_in _ (by omega)
          clear HC HO e
          go_wp2
          go_round
          case rel => exact ⟨3, by omega, by go_num, by rw [HO2.out], by rw [HC2.out]⟩
          case measure => simp [intOf] <;> omega
        · have e1 : (d.e == f) = false := by simp [e]
          have HC2 := hide (HC.out.trans (if_neg e))
          have HO2 := hide (HO.out.trans (if_neg e))
          clear HC HO e
          go_wp2
          go_round
          case rel => exact ⟨3, by omega, by go_num, by rw [HO2.out], by rw [HC2.out]⟩
          case measure => simp [intOf] <;> omega
      · have HC := hide (show cntP d f 4 = if d.s = f then cntP d f 3 + 1 else cntP d f 3 from rfl)
        have HO := hide (show oppP d f 4 = if d.s = f then d.n else oppP d f 3 from rfl)
        have hn := cnt_near d f 3
        have ixq : ∀ wx : World, (Instr.index 37 (D.v d) (.int .i64 3)).run Tryd.prog wx = .ok (.int .i64 d.s) wx := fun wx => run_index6 d 3 (by omega) wx
        generalize cntP d f 3 = c at hn HC
        generalize oppP d f 3 = o at HO
        by_cases e : d.s = f
        · have e1 : (d.s == f) = true := by simp [e]
          have HC2 := hide (HC.out.trans (if_pos e))
          have HO2 := hide (HO.out.trans (if_pos e))
          have w1q : IntKind.i64.wrap (c + 1) = c + 1 := IntWalk.i64_in _ (by omega)
          clear HC HO e
          go_wp2
          go_round
          case rel => exact ⟨4, by omega, by go_num, by rw [HO2.out], by rw [HC2.out]⟩
          case measure => simp [intOf] <;> omega
        · have e1 : (d.s == f) = false := by simp [e]
          have HC2 := hide (HC.out.trans (if_neg e))
          have HO2 := hide (HO.out.trans (if_neg e))
          clear HC HO e
          go_wp2
          go_round
          case rel => exact ⟨4, by omega, by go_num, by rw [HO2.out], by rw [HC2.out]⟩
          case measure => simp [intOf] <;> omega
      · have HC := hide (show cntP d f 5 = if d.w = f then cntP d f 4 + 1 else cntP d f 4 from rfl)
        have HO := hide (show oppP d f 5 = if d.w = f then d.e else oppP d f 4 from rfl)
        have hn := cnt_near d f 4
        have ixq : ∀ wx : World, (Instr.index 37 (D.v d) (.int .i64 4)).run Tryd.prog wx = .ok (.int .i64 d.w) wx := fun wx => run_index6 d 4 (by omega) wx
        generalize cntP d f 4 = c at hn HC
        generalize oppP d f 4 = o at HO
        by_cases e : d.w = f
        · have e1 : (d.w == f) = true := by simp [e]
          have HC2 := hide (HC.out.trans (if_pos e))
          have HO2 := hide (HO.out.trans (if_pos e))
          have w1q : IntKind.i64.wrap (c + 1) = c + 1 := IntWalk.i64_in _ (by omega)
          clear HC HO e
          go_wp2
          go_round
          case rel => exact ⟨5, by omega, by go_num, by rw [HO2.out], by rw [HC2.out]⟩
          case measure => simp [intOf] <;> omega
        · have e1 : (d.w == f) = false := by simp [e]
          have HC2 := hide (HC.out.trans (if_neg e))
          have HO2 := hide (HO.out.trans (if_neg e))
          clear HC HO e
          go_wp2
          go_round
          case rel => exact ⟨5, by omega, by go_num, by rw [HO2.out], by rw [HC2.out]⟩
          case measure => simp [intOf] <;> omega
      · have HC := hide (show cntP d f 6 = if d.b = f then cntP d f 5 + 1 else cntP d f 5 from rfl)
        have HO := hide (show oppP d f 6 = if d.b = f then d.t else oppP d f 5 from rfl)
        have hn := cnt_near d f 5
        have ixq : ∀ wx : World, (Instr.index 37 (D.v d) (.int .i64 5)).run Tryd.prog wx = .ok (.int .i64 d.b) wx := fun wx => run_index6 d 5 (by omega) wx
        generalize cntP d f 5 = c at hn HC
        generalize oppP d f 5 = o at HO
        by_cases e : d.b = f
        · have e1 : (d.b == f) = true := by simp [e]
          have HC2 := hide (HC.out.trans (if_pos e))
          have HO2 := hide (HO.out.trans (if_pos e))
          have w1q : IntKind.i64.wrap (c + 1) = c + 1 := IntWalk.i64_in _ (by omega)
          clear HC HO e
          go_wp2
          go_round
          case rel => exact ⟨6, by omega, by go_num, by rw [HO2.out], by rw [HC2.out]⟩
          case measure => simp [intOf] <;> omega
        · have e1 : (d.b == f) = false := by simp [e]
          have HC2 := hide (HC.out.trans (if_neg e))
          have HO2 := hide (HO.out.trans (if_neg e))
          clear HC HO e
          go_wp2
          go_round
          case rel => exact ⟨6, by omega, by go_num, by rw [HO2.out], by rw [HC2.out]⟩
          case measure => simp [intOf] <;> omega
    · obtain rfl : k = 6 := by omega
      have h1 := H1.out
      generalize hc : cntP d f 6 = c at h1
      have HCC := hide hc
      have HV := hide h1
      have e1 : (c != 1) = false := by simp [h1]
      generalize ho : oppP d f 6 = o
      have HO := hide ho
      clear h1 hk hlt ho hc
      go_wp2
      go_returns
      exact ⟨by rw [HO.out]; rfl, q3⟩

set_option maxHeartbeats 3200000 in
theorem implOP_not (d : D) (f : Int) (w : World) (hT : Tab w) (h : goodB d = true) (h1 : ¬ cntP d f 6 = 1) : Calls Tryd.prog 8 #[D.v d, .int .i64 f] w fun e w' => e = .returned (.tuple #[.int .i64 0, .bool false]) ∧ Below w.heap.size w w' := by
  have H := hide h
  have H1 := hide h1
  clear h h1
  have hTT := hide hT
  clear hT
  go_enter Tryd.func8, Tryd.ntmps8
  go_wp2_with fail
  refine (isDie_any d _).mono ?_
  rintro e w1 ⟨rfl, hb1⟩
  rw [H.out]
  have I1 := isD_to hb1 (IsD.new (w := w) (d := d) (ty := 26)) rfl
  have q1 : Below w.heap.size w w1 := below_after (by go_grown) hb1 (by simp)
  clear hb1
  obtain ⟨l1, ⟨a0, a1, a2, a3, a4, a5⟩, -⟩ := I1.all
  go_wp2_with fail
  clear a0 a1 a2 a3 a4 a5 l1
  refine (facesOf_any d _).mono ?_
  rintro e w2 ⟨rfl, hb2⟩
  have q2 := below_to hb2 q1 q1.size rfl rfl rfl rfl
  have F3 := IsD.new (w := w2) (d := d) (ty := 37)
  have q3 := q2.alloc q2.size (.cells #[.int .i64 d.t, .int .i64 d.n, .int .i64 d.e, .int .i64 d.s, .int .i64 d.w, .int .i64 d.b] 37)
  have T3 := hide (tab_to hTT.out q3 (Nat.le_refl _))
  clear hb2 I1 q1 q2
  go_upto_region 5 with (fail)
  generalize w2.heap.size = b at F3 ⊢
  generalize w2.alloc (.cells #[.int .i64 d.t, .int .i64 d.n, .int .i64 d.e, .int .i64 d.s, .int .i64 d.w, .int .i64 d.b] 37) = w3 at F3 q3 T3 ⊢
  obtain ⟨l3, ⟨a0, a1, a2, a3, a4, a5⟩, -⟩ := F3.all
  obtain ⟨lg, g0, g1, g2, g3, g4, g5⟩ := T3.out
  clear T3 F3
  go_wp2
  go_loop [17, 9, 10, 7, 8] (fun i _ _ o n => ∃ k : Nat, k ≤ 6 ∧ i = .int .i64 (k : Int) ∧ o = .int .i64 (oppP d f k) ∧ n = .int .i64 (cntP d f k)) (fun i _ _ _ _ => 6 - (intOf i).toNat)
  case atStart => exact ⟨0, by omega, rfl, rfl, rfl⟩
  case round =>
    obtain ⟨k, hk, rfl, rfl, rfl⟩ := hrel
    by_cases hlt : k < 6
    · rcases (by omega : k = 0 ∨ k = 1 ∨ k = 2 ∨ k = 3 ∨ k = 4 ∨ k = 5) with rfl | rfl | rfl | rfl | rfl | rfl <;> clear hk hlt
      · have HC := hide (show cntP d f 1 = if d.t = f then cntP d f 0 + 1 else cntP d f 0 from rfl)
        have HO := hide (show oppP d f 1 = if d.t = f then d.b else oppP d f 0 from rfl)
        have hn := cnt_near d f 0
        have ixq : ∀ wx : World, (Instr.index 37 (D.v d) (.int .i64 0)).run Tryd.prog wx = .ok (.int .i64 d.t) wx := fun wx => run_index6 d 0 (by omega) wx
        generalize cntP d f 0 = c at hn HC
        generalize oppP d f 0 = o at HO
        by_cases e : d.t = f
        · have e1 : (d.t == f) = true := by simp [e]
          have HC2 := hide (HC.out.trans (if_pos e))
          have HO2 := hide (HO.out.trans (if_pos e))
          have w1q : IntKind.i64.wrap (c + 1) = c + 1 := IntWalk.i64_in _ (by omega)
          clear HC HO e
          go_wp2
          go_round
          case rel => exact ⟨1, by omega, by go_num, by rw [HO2.out], by rw [HC2.out]⟩
          case measure => simp [intOf] <;> omega
        · have e1 : (d.t == f) = false := by simp [e]
          have HC2 := hide (HC.out.trans (if_neg e))
          have HO2 := hide (HO.out.trans (if_neg e))
          clear HC HO e
          go_wp2
          go_round
          case rel => exact ⟨1, by omega, by go_num, by rw [HO2.out], by rw [HC2.out]⟩
          case measure => simp [intOf] <;> omega
      · have HC := hide (show cntP d f 2 = if d.n = f then cntP d f 1 + 1 else cntP d f 1 from rfl)
        have HO := hide (show oppP d f 2 = if d.n = f then d.s else oppP d f 1 from rfl)
        have hn := cnt_near d f 1
        have ixq : ∀ wx : World, (Instr.index 37 (D.v d) (.int .i64 1)).run Tryd.prog wx = .ok (.int .i64 d.n) wx := fun wx => run_index6 d 1 (by omega) wx
        generalize cntP d f 1 = c at hn HC
        generalize oppP d f 1 = o at HO
        by_cases e : d.n = f
        · have e1 : (d.n == f) = true := by simp [e]
          have HC2 := hide (HC.out.trans (if_pos e))
          have HO2 := hide (HO.out.trans (if_pos e))
          have w1q : IntKind.i64.wrap (c + 1) = c + 1 := IntWalk.i64_in _ (by omega)
          clear HC HO e
          go_wp2
          go_round
          case rel => exact ⟨2, by omega, by go_num, by rw [HO2.out], by rw [HC2.out]⟩
          case measure => simp [intOf] <;> omega
        · have e1 : (d.n == f) = false := by simp [e]
          have HC2 := hide (HC.out.trans (if_neg e))
          have HO2 := hide (HO.out.trans (if_neg e))
          clear HC HO e
          go_wp2
          go_round
          case rel => exact ⟨2, by omega, by go_num, by rw [HO2.out], by rw [HC2.out]⟩
          case measure => simp [intOf] <;> omega
      · have HC := hide (show cntP d f 3 = if d.e = f then cntP d f 2 + 1 else cntP d f 2 from rfl)
        have HO := hide (show oppP d f 3 = if d.e = f then d.w else oppP d f 2 from rfl)
        have hn := cnt_near d f 2
        have ixq : ∀ wx : World, (Instr.index 37 (D.v d) (.int .i64 2)).run Tryd.prog wx = .ok (.int .i64 d.e) wx := fun wx => run_index6 d 2 (by omega) wx
        generalize cntP d f 2 = c at hn HC
        generalize oppP d f 2 = o at HO
        by_cases e : d.e = f
        · have e1 : (d.e == f) = true := by simp [e]
          have HC2 := hide (HC.out.trans (if_pos e))
          have HO2 := hide (HO.out.trans (if_pos e))
          have w1q : IntKind.i64.wrap (c + 1) = c + 1 := IntWalk.i64_in _ (by omega)
          clear HC HO e
          go_wp2
          go_round
          case rel => exact ⟨3, by omega, by go_num, by rw [HO2.out], by rw [HC2.out]⟩
          case measure => simp [intOf] <;> omega
        · have e1 : (d.e == f) = false := by simp [e]
          have HC2 := hide (HC.out.trans (if_neg e))
          have HO2 := hide (HO.out.trans (if_neg e))
          clear HC HO e
          go_wp2
          go_round
          case rel => exact ⟨3, by omega, by go_num, by rw [HO2.out], by rw [HC2.out]⟩
          case measure => simp [intOf] <;> omega
      · have HC := hide (show cntP d f 4 = if d.s = f then cntP d f 3 + 1 else cntP d f 3 from rfl)
        have HO := hide (show oppP d f 4 = if d.s = f then d.n else oppP d f 3 from rfl)
        have hn := cnt_near d f 3
        have ixq : ∀ wx : World, (Instr.index 37 (D.v d) (.int .i64 3)).run Tryd.prog wx = .ok (.int .i64 d.s) wx := fun wx => run_index6 d 3 (by omega) wx
        generalize cntP d f 3 = c at hn HC
        generalize oppP d f 3 = o at HO
        by_cases e : d.s = f
        · have e1 : (d.s == f) = true := by simp [e]
          have HC2 := hide (HC.out.trans (if_pos e))
          have HO2 := hide (HO.out.trans (if_pos e))
          have w1q : IntKind.i64.wrap (c + 1) = c + 1 := IntWalk.i64_in _ (by omega)
          clear HC HO e
          go_wp2
          go_round
          case rel => exact ⟨4, by omega, by go_num, by rw [HO2.out], by rw [HC2.out]⟩
          case measure => simp [intOf] <;> omega
        · have e1 : (d.s == f) = false := by simp [e]
          have HC2 := hide (HC.out.trans (if_neg e))
          have HO2 := hide (HO.out.trans (if_neg e))
          clear HC HO e
          go_wp2
          go_round
          case rel => exact ⟨4, by omega, by go_num, by rw [HO2.out], by rw [HC2.out]⟩
          case measure => simp [intOf] <;> omega
      · have HC := hide (show cntP d f 5 = if d.w = f then cntP d f 4 + 1 else cntP d f 4 from rfl)
        have HO := hide (show oppP d f 5 = if d.w = f then d.e else oppP d f 4 from rfl)
        have hn := cnt_near d f 4
        have ixq : ∀ wx : World, (Instr.index 37 (D.v d) (.int .i64 4)).run Tryd.prog wx = .ok (.int .i64 d.w) wx := fun wx => run_index6 d 4 (by omega) wx
        generalize cntP d f 4 = c at hn HC
        generalize oppP d f 4 = o at HO
        by_cases e : d.w = f
        · have e1 : (d.w == f) = true := by simp [e]
          have HC2 := hide (HC.out.trans (if_pos e))
          have HO2 := hide (HO.out.trans (if_pos e))
          have w1q : IntKind.i64.wrap (c + 1) = c + 1 := IntWalk.i64_in _ (by omega)
          clear HC HO e
          go_wp2
          go_round
          case rel => exact ⟨5, by omega, by go_num, by rw [HO2.out], by rw [HC2.out]⟩
          case measure => simp [intOf] <;> omega
        · have e1 : (d.w == f) = false := by simp [e]
          have HC2 := hide (HC.out.trans (if_neg e))
          have HO2 := hide (HO.out.trans (if_neg e))
          clear HC HO e
          go_wp2
          go_round
          case rel => exact ⟨5, by omega, by go_num, by rw [HO2.out], by rw [HC2.out]⟩
          case measure => simp [intOf] <;> omega
      · have HC := hide (show cntP d f 6 = if d.b = f then cntP d f 5 + 1 else cntP d f 5 from rfl)
        have HO := hide (show oppP d f 6 = if d.b = f then d.t else oppP d f 5 from rfl)
        have hn := cnt_near d f 5
        have ixq : ∀ wx : World, (Instr.index 37 (D.v d) (.int .i64 5)).run Tryd.prog wx = .ok (.int .i64 d.b) wx := fun wx => run_index6 d 5 (by omega) wx
        generalize cntP d f 5 = c at hn HC
        generalize oppP d f 5 = o at HO
        by_cases e : d.b = f
        · have e1 : (d.b == f) = true := by simp [e]
          have HC2 := hide (HC.out.trans (if_pos e))
          have HO2 := hide (HO.out.trans (if_pos e))
          have w1q : IntKind.i64.wrap (c + 1) = c + 1 := IntWalk.i64_in _ (by omega)
          clear HC HO e
          go_wp2
          go_round
          case rel => exact ⟨6, by omega, by go_num, by rw [HO2.out], by rw [HC2.out]⟩
          case measure => simp [intOf] <;> omega
        · have e1 : (d.b == f) = false := by simp [e]
          have HC2 := hide (HC.out.trans (if_neg e))
          have HO2 := hide (HO.out.trans (if_neg e))
          clear HC HO e
          go_wp2
          go_round
          case rel => exact ⟨6, by omega, by go_num, by rw [HO2.out], by rw [HC2.out]⟩
          case measure => simp [intOf] <;> omega
    · obtain rfl : k = 6 := by omega
      have h1 := H1.out
      generalize hc : cntP d f 6 = c at h1
      have HCC := hide hc
      have HV := hide h1
      have e1 : (c != 1) = true := by simpa using h1
      generalize oppP d f 6 = o
      clear hc
      go_wp2
      go_returns
      exact ⟨rfl, q3⟩
theorem specOP_any (d : D) (f : Int) (w : World) : Calls Tryd.prog 6 #[D.v d, .int .i64 f] w fun e w' => e = .returned (.tuple #[.int .i64 (opV d f), .bool (opF d f)]) ∧ Below w.heap.size w w' := by
  unfold opV
  cases h : goodB d
  · have e : opF d f = false := by simp [opF, h]
    rw [e, if_neg (by decide)]
    exact specOP_no d f w h
  · have e : opF d f = decide (cntP d f 6 = 1) := by simp [opF, h]
    rw [e]
    by_cases h1 : cntP d f 6 = 1
    · rw [decide_eq_true h1, if_pos rfl]
      exact specOP_one d f w h h1
    · rw [decide_eq_false h1, if_neg (by decide)]
      exact specOP_not d f w h h1
theorem implOP_any (d : D) (f : Int) (w : World) (hT : Tab w) : Calls Tryd.prog 8 #[D.v d, .int .i64 f] w fun e w' => e = .returned (.tuple #[.int .i64 (opV d f), .bool (opF d f)]) ∧ Below w.heap.size w w' := by
  unfold opV
  cases h : goodB d
  · have e : opF d f = false := by simp [opF, h]
    rw [e, if_neg (by decide)]
    exact implOP_no d f w h
  · have e : opF d f = decide (cntP d f 6 = 1) := by simp [opF, h]
    rw [e]
    by_cases h1 : cntP d f 6 = 1
    · rw [decide_eq_true h1, if_pos rfl]
      exact implOP_one d f w hT h h1
    · rw [decide_eq_false h1, if_neg (by decide)]
      exact implOP_not d f w hT h h1

set_option maxHeartbeats 1600000 in
theorem walk_OppositeOf (d : D) (f : Int) (_hf : (Lit.int .i64 f).wf = true) (w : World) (hT : Tab w) : Calls Tryd.prog 3 #[D.v d, .int .i64 f] w fun e w' => e = .returned (.bool true) ∧ Below w.heap.size w w' := by
  have HT := hide hT
  clear hT
  go_enter Tryd.func3, Tryd.ntmps3
  go_wp2_with fail
  refine (toDie_any d _).mono ?_
  rintro e w1 ⟨rfl, hb1⟩
  have I1 := isD_to hb1 (IsD.new (w := w) (d := d) (ty := 23)) rfl
  have q1 : Below w.heap.size w w1 := below_after (by go_grown) hb1 (by simp)
  clear hb1
  go_wp2_with fail
  refine (specOP_any d f _).mono ?_
  rintro e w2 ⟨rfl, hb2⟩
  have I2 := isD_to hb2 I1 rfl
  have q2 := below_to hb2 q1 q1.size rfl rfl rfl rfl
  generalize hy : opV d f = y
  generalize hg : opF d f = g
  have HY := hide hy
  have HG := hide hg
  clear hb2 I1 q1 hy hg
  obtain ⟨l1, ⟨a0, a1, a2, a3, a4, a5⟩, -⟩ := I2.all
  go_wp2_with fail
  clear a0 a1 a2 a3 a4 a5 l1
  refine (toDie_any d _).mono ?_
  rintro e w3 ⟨rfl, hb3⟩
  have q3 := below_to hb3 q2 q2.size rfl rfl rfl rfl
  have T3 := hide (tab_to HT.out q3 (Nat.le_refl _))
  clear hb3 I2 q2
  go_wp2_with fail
  refine (implOP_any d f _ T3.out).mono ?_
  rintro e w4 ⟨rfl, hb4⟩
  have q4 := below_to hb4 q3 q3.size rfl rfl rfl rfl
  rw [HY.out, HG.out]
  have e1 : (g != g) = false := by simp
  go_wp2
  go_returns
  exact ⟨rfl, q4⟩
end Go.Proofs.YtpngbdpjepddhaaDoor
