/- Is there a puzzle: IsPuzzle of the program and of the model. -/
import Derived.Test.YtgehcjmhgfhkdaaDoorGoals
namespace Go.Proofs.YtgehcjmhgfhkdaaDoor
set_option maxRecDepth 100000
set_option linter.all false
open Go.RowKit

/-- Is there a puzzle? -/
def onP (p : Pz) : Bool := isBd p.b.data.toList && stL p.b.data.toList p.s
def goalP (p : Pz) : Bool := floorL p.b.data.toList p.x p.y && (decide (0 ≤ p.t) && decide (p.t ≤ 9))
def pzB (p : Pz) : Bool := onP p && goalP p
abbrev pzCells (p : Pz) : Array Value := #[.string p.b, .int .i64 p.s.x, .int .i64 p.s.y, .int .i64 p.s.d.t, .int .i64 p.s.d.n, .int .i64 p.s.d.e, .int .i64 p.s.d.s, .int .i64 p.s.d.w, .int .i64 p.s.d.b, .int .i64 p.x, .int .i64 p.y, .int .i64 p.t]
theorem pz_start (p : Pz) (w : World) : ∃ W, w.alloc (.cells #[.string p.b, .int .i64 p.s.x, .int .i64 p.s.y, .int .i64 p.s.d.t, .int .i64 p.s.d.n, .int .i64 p.s.d.e, .int .i64 p.s.d.s, .int .i64 p.s.d.w, .int .i64 p.s.d.b, .int .i64 p.x, .int .i64 p.y, .int .i64 p.t] 34) = W ∧ IsPz W w.heap.size p 34 ∧ Below w.heap.size w W := ⟨_, rfl, IsPz.new, (Below.refl _ _).alloc (Nat.le_refl _) _⟩
/-- rowsUnder, by what it says. -/
theorem rowsU_no (s : ByteArray) (t : St) (w : World) (hs : s.size ≤ 1048576) (hg : Glob w) (h : (isBd s.data.toList && stL s.data.toList t) = false) : Calls Tryd.prog 32 #[.string s, St.v t] w fun e w' => e = .returned (.tuple #[.slice none 0 0, .bool false]) ∧ Below w.heap.size w w' := by
  cases h1 : isBd s.data.toList with
  | false => exact rowsUnder_bad s t w hs hg h1
  | true =>
    rw [h1] at h
    exact rowsUnder_off s t w hs hg h1 h
set_option maxHeartbeats 800000 in
theorem implIP_any (p : Pz) (w : World) (hs : p.b.size ≤ 1048576) (hg : Glob w) : Calls Tryd.prog 13 #[Pz.v p] w fun e w' => e = .returned (.bool (pzB p)) ∧ Below w.heap.size w w' := by
  obtain ⟨W0, hW, P0, q0⟩ := pz_start p w
  have HW := hide hW
  have HG := hide (glob_to q0 hg rfl)
  have HP := hide P0
  have HQ := hide q0
  obtain ⟨l0, ⟨a0, a1, a2, a3, a4, a5, a6, a7, a8, a9, a10, a11⟩, -⟩ := P0.all
  clear hW hg P0 q0
  cases h : onP p with
  | false =>
    have HR := hide (fun wx hx => rowsU_no p.b p.s wx hs hx h)
    have HE := hide (show pzB p = false from by unfold pzB; rw [h]; rfl)
    rw [HE.out]
    clear h hs
    go_enter Tryd.func13, Tryd.ntmps13
    go_upto_region 1 with (fail)
    rw [HW.out]
    go_wp2_with fail
    refine (HR.out _ HG.out).mono ?_
    rintro e w1 ⟨rfl, hb1⟩
    have q1 := below_to hb1 HQ.out HQ.out.size rfl rfl rfl rfl
    clear hb1
    go_wp2
    go_returns
    exact ⟨rfl, q1⟩
  | true =>
    have h' := h
    unfold onP at h'
    rw [Bool.and_eq_true] at h'
    have HR := hide (fun wx hx => rowsUnder_on p.b p.s wx hs hx h'.1 h'.2)
    have HO := hide (goalsOf_any p)
    have HA := hide (fun (g R : Nat) (wx : World) (h1 : RowsAt wx R (rowsB p.b)) (h2 : GoalsAt wx g p.x p.y p.t) => agreeR_any p.b p.x p.y p.t g R wx hs h'.1 h1 h2)
    have HE := hide (show (floorL p.b.data.toList p.x p.y && (decide (0 ≤ p.t) && decide (p.t ≤ 9))) = pzB p from by unfold pzB goalP; rw [h]; rfl)
    clear h h' hs
    generalize (rowsB p.b).length = n at HR HA
    go_enter Tryd.func13, Tryd.ntmps13
    go_upto_region 1 with (fail)
    rw [HW.out]
    go_wp2_with fail
    refine (HR.out _ HG.out).mono ?_
    rintro e w1 ⟨rfl, hR, hb1⟩
    have HR1 := hide hR
    have q1 := below_to hb1 HQ.out HQ.out.size rfl rfl rfl rfl
    have P1 := isPz_to hb1 HP.out rfl
    clear hb1 a0 a1 a2 a3 a4 a5 a6 a7 a8 a9 a10 a11 l0 hR HP HQ
    obtain ⟨l1, ⟨a0, a1, a2, a3, a4, a5, a6, a7, a8, a9, a10, a11⟩, -⟩ := P1.all
    go_wp2_with fail
    refine (HO.out _).mono ?_
    rintro e w2 ⟨g, rfl, -, hG, hb2⟩
    have HG2 := hide hG
    have HR2 := hide (rowsAt_to hb2 HR1.out rfl)
    have q2 := below_to hb2 q1 q1.size rfl rfl rfl rfl
    clear hb2 hG HR1 q1 P1 a0 a1 a2 a3 a4 a5 a6 a7 a8 a9 a10 a11 l1
    go_wp2_with fail
    refine (HA.out _ _ _ HR2.out HG2.out).mono ?_
    rintro e w3 ⟨rfl, hb3⟩
    have q3 := below_to hb3 q2 q2.size rfl rfl rfl rfl
    clear hb3 q2
    rw [HE.out]
    go_wp2
    go_returns
    exact ⟨rfl, q3⟩
theorem boAskN (s : ByteArray) (t : St) (w : World) (hs : s.size ≤ 1048576) (h : (isBd s.data.toList && stL s.data.toList t) = false) : Calls Tryd.prog 59 #[.string s, St.v t] w fun e w' => ∃ (x y : Int) (a : Option Addr) (n c : Nat), e = .returned (.tuple #[.agg #[.int .i64 x, .int .i64 y, .slice a n c], .bool false]) ∧ Below w.heap.size w w' := by
  cases h1 : isBd s.data.toList with
  | false =>
    refine (boAsked_bad s t w hs h1).mono ?_
    rintro e w' ⟨rfl, hb⟩
    exact ⟨0, 0, none, 0, 0, rfl, hb⟩
  | true =>
    rw [h1] at h
    have h' : stL s.data.toList t = false := h
    refine (boAsked_in s t w hs h1).mono ?_
    rintro e w' ⟨W, H, n, g, cap, -, rfl, -, hb⟩
    rw [h']
    exact ⟨(W : Int), (H : Int), some ⟨g, 0, none⟩, n, cap, rfl, hb⟩
set_option maxHeartbeats 800000 in
theorem puGood_any (p : Pz) (w : World) (hs : p.b.size ≤ 1048576) : Calls Tryd.prog 30 #[Pz.v p] w fun e w' => e = .returned (.bool (pzB p)) ∧ Below w.heap.size w w' := by
  obtain ⟨W0, hW, P0, q0⟩ := pz_start p w
  have HW := hide hW
  have HP := hide P0
  have HQ := hide q0
  obtain ⟨l0, ⟨a0, a1, a2, a3, a4, a5, a6, a7, a8, a9, a10, a11⟩, -⟩ := P0.all
  clear hW P0 q0
  cases h : onP p with
  | false =>
    have HR := hide (fun wx => boAskN p.b p.s wx hs h)
    have HE := hide (show pzB p = false from by unfold pzB; rw [h]; rfl)
    rw [HE.out]
    clear h hs
    go_enter Tryd.func30, Tryd.ntmps30
    go_upto_region 1 with (fail)
    rw [HW.out]
    go_wp2_with fail
    refine (HR.out _).mono ?_
    rintro e w1 ⟨x, y, sa, sn, sc, rfl, hb1⟩
    have q1 := below_to hb1 HQ.out HQ.out.size rfl rfl rfl rfl
    clear hb1
    go_wp2
    go_returns
    exact ⟨rfl, q1.alloc q1.size _⟩
  | true =>
    have h' := h
    unfold onP at h'
    rw [Bool.and_eq_true] at h'
    have HR := hide (fun wx => boAsked_in p.b p.s wx hs h'.1)
    have HST := hide h'.2
    have HE := hide (show pzB p = (floorL p.b.data.toList p.x p.y && decide (0 ≤ p.t ∧ p.t ≤ 9)) from by unfold pzB goalP; rw [h, Bool.decide_and]; rfl)
    clear h h' hs
    go_enter Tryd.func30, Tryd.ntmps30
    go_upto_region 1 with (fail)
    rw [HW.out]
    go_wp2_with fail
    refine (HR.out _).mono ?_
    rintro e w1 ⟨W, H, n, g, cap, hgr, rfl, hA, hb1⟩
    rw [HST.out]
    have HGR := hide hgr
    have q1 := below_to hb1 HQ.out HQ.out.size rfl rfl rfl rfl
    have P1 := isPz_to hb1 HP.out rfl
    clear hb1 a0 a1 a2 a3 a4 a5 a6 a7 a8 a9 a10 a11 l0 HP HQ hgr
    have P2 := P1.alloc (.cells #[.int .i64 (W : Int), .int .i64 (H : Int), .slice (some ⟨g, 0, none⟩) n cap] 77)
    have HA2 := hide (show BytesAt (w1.alloc (.cells #[.int .i64 (W : Int), .int .i64 (H : Int), .slice (some ⟨g, 0, none⟩) n cap] 77)) g (splitP p.b.data.toList).flatten from bytesAt_to (w0 := w1) ((Below.refl _ _).alloc (Nat.le_refl _) _) hA rfl)
    have q2 := q1.alloc q1.size (.cells #[.int .i64 (W : Int), .int .i64 (H : Int), .slice (some ⟨g, 0, none⟩) n cap] 77)
    have G2 : IsG (w1.alloc (.cells #[.int .i64 (W : Int), .int .i64 (H : Int), .slice (some ⟨g, 0, none⟩) n cap] 77)) w1.heap.size (W : Int) (H : Int) (.slice (some ⟨g, 0, none⟩) n cap) := IsG.new
    have HFL := hide (fun (wx : World) (hx : BytesAt wx g (splitP p.b.data.toList).flatten) => boFloor_any p.b.data.toList W H n HGR.out g cap p.x p.y wx hx)
    have HIN := hide (l1In_any p.t 0 9)
    obtain ⟨fl, hfl⟩ : ∃ b, b = floorL p.b.data.toList p.x p.y := ⟨_, rfl⟩
    obtain ⟨tp, htp⟩ : ∃ b, b = decide (0 ≤ p.t ∧ p.t ≤ 9) := ⟨_, rfl⟩
    rw [← hfl] at HFL HE
    rw [← htp] at HIN HE
    clear hfl htp hA
    obtain ⟨l1, ⟨a0, a1, a2, a3, a4, a5, a6, a7, a8, a9, a10, a11⟩, -⟩ := P1.all
    clear P1 q1
    go_upto_region 2 with (fail)
    generalize w1.alloc (.cells #[.int .i64 (W : Int), .int .i64 (H : Int), .slice (some ⟨g, 0, none⟩) n cap] 77) = w2 at P2 HA2 q2 G2 ⊢
    generalize w1.heap.size = gb at G2 ⊢
    clear a0 a1 a2 a3 a4 a5 a6 a7 a8 a9 a10 a11 l1
    obtain ⟨l2, ⟨a0, a1, a2, a3, a4, a5, a6, a7, a8, a9, a10, a11⟩, -⟩ := P2.all
    obtain ⟨l3, ⟨g0, g1, g2⟩, -⟩ := G2.all
    go_wp2_with fail
    refine (HFL.out _ HA2.out).mono ?_
    rintro e w3 ⟨rfl, hb3⟩
    have q3 := below_to hb3 q2 q2.size rfl rfl rfl rfl
    have P3 := isPz_to hb3 P2 rfl
    clear hb3 q2 P2 G2 a0 a1 a2 a3 a4 a5 a6 a7 a8 a9 a10 a11 l2 g0 g1 g2 l3
    cases fl with
    | false =>
      go_wp2
      go_returns
      exact ⟨ret_bool (by rw [HE.out]; rfl), q3⟩
    | true =>
      obtain ⟨l2, ⟨a0, a1, a2, a3, a4, a5, a6, a7, a8, a9, a10, a11⟩, -⟩ := P3.all
      go_wp2_with fail
      refine (HIN.out _).mono ?_
      rintro e w4 ⟨rfl, rfl⟩
      go_wp2
      go_returns
      exact ⟨ret_bool (by rw [HE.out]; rfl), q3⟩
theorem specIP_any (p : Pz) (w : World) (hs : p.b.size ≤ 1048576) : Calls Tryd.prog 11 #[Pz.v p] w fun e w' => e = .returned (.bool (pzB p)) ∧ Below w.heap.size w w' := by
  obtain ⟨W0, hW, P0, q0⟩ := pz_start p w
  have HW := hide hW
  have HR := hide (fun wx => puGood_any p wx hs)
  obtain ⟨l0, ⟨a0, a1, a2, a3, a4, a5, a6, a7, a8, a9, a10, a11⟩, -⟩ := P0.all
  clear hW P0 hs
  generalize pzB p = z at HR ⊢
  go_enter Tryd.func11, Tryd.ntmps11
  go_upto_region 1 with (fail)
  rw [HW.out]
  go_wp2_with fail
  refine (HR.out _).mono ?_
  rintro e w1 ⟨rfl, hb1⟩
  have q1 := below_to hb1 q0 q0.size rfl rfl rfl rfl
  clear hb1
  go_wp2
  go_returns
  exact ⟨rfl, q1⟩
end Go.Proofs.YtgehcjmhgfhkdaaDoor
