/- The model of sixes: a step from a cell to the next one. -/
import Derived.Test.YtbfclnigjijkbaaNeA
import Derived.Deep.QuietTactic
import Derived.BigQuiet
namespace Go.Proofs.Ytbfclnigjijkbaa
set_option maxRecDepth 100000
set_option linter.all false
open Go.RowKit

/-- The number of the cell next to one, or -1. -/
def stepI (l : List UInt8) (W i k : Nat) : Int :=
  if digL l (nextX ((i % W : Nat) : Int) (k : Int)) (nextY ((i / W : Nat) : Int) (k : Int)) = true then nextY ((i / W : Nat) : Int) (k : Int) * (W : Int) + nextX ((i % W : Nat) : Int) (k : Int) else -1
theorem next_bd (x k : Int) : x - 1 ≤ nextX x k ∧ nextX x k ≤ x + 1 ∧ x - 1 ≤ nextY x k ∧ nextY x k ≤ x + 1 := by
  unfold nextX nextY
  (repeat' split) <;> omega
theorem dig_dot {c : UInt8} (h : okN c = true) : isDig c = true ↔ ¬ (c.toNat : Int) = 46 := by
  rw [okN_int] at h
  constructor
  · intro hd
    unfold isDig at hd
    rw [decide_eq_true_eq] at hd
    omega
  · intro hn
    rw [decide_eq_false hn, Bool.false_or] at h
    exact h
theorem below_nN {B : Nat} {a b : World} {n : Nat} (h : Below B a b) : Below B a (b.drewN n) := ⟨h.os, h.tape, h.output, h.size, h.block⟩
set_option maxHeartbeats 3200000 in
theorem neStep_any (l : List UInt8) (W H n g cap : Nat) (hG : Grid6 l W H) (hn : n = W * H) (i : Nat) (hi : i < n) (k : Nat) (hk : k < 4) (w : World) (hA : ByN w g (flatL l)) : Calls Try.prog 40 #[gN W H n g cap, .int .i64 (i : Int), .int .i64 (k : Int)] w fun e w' => e = .returned (.int .i64 (stepI l W i k)) ∧ Below w.heap.size w w' := by
  obtain ⟨a, ha⟩ : ∃ a, a = i % W := ⟨_, rfl⟩
  obtain ⟨b, hb⟩ : ∃ b, b = i / W := ⟨_, rfl⟩
  have hw1 := hG.w1
  have hw6 := hG.w6
  have hh6 := hG.h6
  have haW : a < W := by rw [ha]; exact Nat.mod_lt _ hw1
  have hbH : b < H := by rw [hb, Nat.div_lt_iff_lt_mul hw1, Nat.mul_comm, ← hn]; exact hi
  have hn36 : n ≤ 36 := by rw [hn]; exact Nat.mul_le_mul hw6 hG.h6
  have hrem : Int.tmod (i : Int) (W : Int) = (a : Int) := by rw [ha]; exact (Int.ofNat_tmod i W).symm
  have hquo : Int.tdiv (i : Int) (W : Int) = (b : Int) := by rw [hb]; exact (Int.ofNat_tdiv i W).symm
  have hw0 : ((W : Int) == 0) = false := beq_eq_false_iff_ne.2 (by omega)
  have hwn : ¬ (W : Int) = 0 := by omega
  have HS := hide (show stepI l W i k = if digL l (nextX (a : Int) (k : Int)) (nextY (b : Int) (k : Int)) = true then nextY (b : Int) (k : Int) * (W : Int) + nextX (a : Int) (k : Int) else -1 from by rw [ha, hb]; rfl)
  have bx := next_bd (a : Int) (k : Int)
  have by' := next_bd (b : Int) (k : Int)
  have HBN := hide (fun wx => boNext_any (a : Int) (b : Int) (k : Int) wx (by omega) (by omega))
  obtain ⟨x, hx⟩ : ∃ x, x = nextX (a : Int) (k : Int) := ⟨_, rfl⟩
  obtain ⟨y, hy⟩ : ∃ y, y = nextY (b : Int) (k : Int) := ⟨_, rfl⟩
  rw [← hx, ← hy] at HBN HS
  rw [← hx] at bx
  rw [← hy] at by'
  have hwm : IntKind.i64.wrap ((W : Int) - 1) = (W : Int) - 1 := IntWalk.i64_in _ (by omega)
  have hhm : IntKind.i64.wrap ((H : Int) - 1) = (H : Int) - 1 := IntWalk.i64_in _ (by omega)
  generalize stepI l W i k = r at HS ⊢
  have hbd : -1 ≤ x ∧ x ≤ 6 ∧ -1 ≤ y ∧ y ≤ 6 := by omega
  clear ha hb hx hy bx by'
  have HA := hide hA
  have HGG := hide hG
  have HNN := hide hn
  clear hA hG hn
  by_cases cx : 0 ≤ x ∧ x ≤ (W : Int) - 1
  · by_cases cy : 0 ≤ y ∧ y ≤ (H : Int) - 1
    · obtain ⟨xx, rfl⟩ : ∃ xx : Nat, x = (xx : Int) := ⟨x.toNat, by omega⟩
      obtain ⟨yy, rfl⟩ : ∃ yy : Nat, y = (yy : Int) := ⟨y.toNat, by omega⟩
      have hxW : xx < W := by omega
      have hyH : yy < H := by omega
      have hat := HGG.out.at hxW hyH
      have hmem : cellI (splitP l) (xx : Int) (yy : Int) ∈ flatL l := List.mem_of_getElem? hat
      have hok : okN (cellI (splitP l) (xx : Int) (yy : Int)) = true := by
        unfold flatL at hmem
        obtain ⟨rr, hr, hc⟩ := List.mem_flatten.1 hmem
        exact List.all_eq_true.1 (HGG.out.ok rr hr) _ hc
      have hlt := HGG.out.lt hxW hyH
      rw [← HNN.out] at hlt
      have hdd := dig_dot hok
      have hdl : digL l (xx : Int) (yy : Int) = isDig (cellI (splitP l) (xx : Int) (yy : Int)) := rfl
      rw [hdl] at HS
      generalize cellI (splitP l) (xx : Int) (yy : Int) = c at hat hok hdd HS
      have hm : (yy : Int) * (W : Int) = ((yy * W : Nat) : Int) := by simp
      rw [hm] at HS
      generalize hq : yy * W = q at hat hlt HS hm
      have HAT := hide hat
      have hwq : IntKind.i64.wrap ((yy : Int) * (W : Int)) = (q : Int) := by rw [hm]; exact IntWalk.i64_in _ (by omega)
      have hwp : IntKind.i64.wrap ((q : Int) + (xx : Int)) = ((q + xx : Nat) : Int) := by rw [IntWalk.i64_in _ (by omega)]; omega
      have hpi : ((q + xx : Nat) : Int) < (n : Int) := by omega
      have e1 : decide (0 ≤ (xx : Int) ∧ (xx : Int) ≤ (W : Int) - 1) = true := decide_eq_true cx
      have e2 : decide (0 ≤ (yy : Int) ∧ (yy : Int) ≤ (H : Int) - 1) = true := decide_eq_true cy
      have HIN := hide (fun wx => l1In_any (xx : Int) 0 ((W : Int) - 1) wx)
      have HIM := hide (fun wx => l1In_any (yy : Int) 0 ((H : Int) - 1) wx)
      simp only [e1] at HIN
      simp only [e2] at HIM
      clear hat hok cx cy hdl hmem e1 e2 hm hq
      by_cases h46 : (c.toNat : Int) = 46
      · have hnd : ¬ isDig c = true := fun hd => hdd.1 hd h46
        have HR := hide (HS.out.trans (if_neg hnd))
        obtain ⟨r1, r2⟩ := byte_eq h46
        clear HS hdd hnd h46
        go_enter Try.func40, Try.ntmps40
        go_wp2_with fail
        have G0 := IsGN.new (w := w) (x := (W : Int)) (y := (H : Int)) (v := .slice (some ⟨g, 0, none⟩) n cap)
        have q0 : Below w.heap.size w (w.alloc (.cells #[.int .i64 (W : Int), .int .i64 (H : Int), .slice (some ⟨g, 0, none⟩) n cap] 37)) := by go_grown
        have A0 := byN_to ((Below.refl _ _).alloc (Nat.le_refl _) (.cells #[.int .i64 (W : Int), .int .i64 (H : Int), .slice (some ⟨g, 0, none⟩) n cap] 37)) HA.out rfl
        generalize w.alloc (.cells #[.int .i64 (W : Int), .int .i64 (H : Int), .slice (some ⟨g, 0, none⟩) n cap] 37) = W0 at G0 q0 A0 ⊢
        obtain ⟨l0, ⟨a0, a1, a2⟩, -⟩ := G0.all
        have c0 := A0.2 (q + xx) c HAT.out
        have HQ0 := hide q0
        clear q0 A0 G0 l0
        go_quiet ((go_at_call 56; refine Calls.quiet_of_same ((HBN.out _).mono fun e w' hp => ⟨hp.1, hp.2.symm⟩)))
        go_wp2_with (first | (go_at_call 57; (with_reducible refine (HIN.out _).mono ?_); rintro e w2 ⟨rfl, rfl⟩) | (go_at_call 57; (with_reducible refine (HIM.out _).mono ?_); rintro e w2 ⟨rfl, rfl⟩))
        go_returns
        exact ⟨by rw [HR.out]; rfl, below_nN HQ0.out⟩
      · have hyd : isDig c = true := hdd.2 h46
        have HR := hide (HS.out.trans (if_pos hyd))
        obtain ⟨r1, r2⟩ := byte_ne h46
        clear HS hdd hyd h46
        go_enter Try.func40, Try.ntmps40
        go_wp2_with fail
        have G0 := IsGN.new (w := w) (x := (W : Int)) (y := (H : Int)) (v := .slice (some ⟨g, 0, none⟩) n cap)
        have q0 : Below w.heap.size w (w.alloc (.cells #[.int .i64 (W : Int), .int .i64 (H : Int), .slice (some ⟨g, 0, none⟩) n cap] 37)) := by go_grown
        have A0 := byN_to ((Below.refl _ _).alloc (Nat.le_refl _) (.cells #[.int .i64 (W : Int), .int .i64 (H : Int), .slice (some ⟨g, 0, none⟩) n cap] 37)) HA.out rfl
        generalize w.alloc (.cells #[.int .i64 (W : Int), .int .i64 (H : Int), .slice (some ⟨g, 0, none⟩) n cap] 37) = W0 at G0 q0 A0 ⊢
        obtain ⟨l0, ⟨a0, a1, a2⟩, -⟩ := G0.all
        have c0 := A0.2 (q + xx) c HAT.out
        have HQ0 := hide q0
        clear q0 A0 G0 l0
        go_quiet ((go_at_call 56; refine Calls.quiet_of_same ((HBN.out _).mono fun e w' hp => ⟨hp.1, hp.2.symm⟩)))
        go_wp2_with (first | (go_at_call 57; (with_reducible refine (HIN.out _).mono ?_); rintro e w2 ⟨rfl, rfl⟩) | (go_at_call 57; (with_reducible refine (HIM.out _).mono ?_); rintro e w2 ⟨rfl, rfl⟩))
        go_returns
        exact ⟨by rw [HR.out]; rfl, below_nN HQ0.out⟩
    · have hnd : ¬ digL l x y = true := fun hd => cy (by have := HGG.out.in hd; omega)
      have HR := hide (HS.out.trans (if_neg hnd))
      have e1 : decide (0 ≤ x ∧ x ≤ (W : Int) - 1) = true := decide_eq_true cx
      have e2 : decide (0 ≤ y ∧ y ≤ (H : Int) - 1) = false := decide_eq_false cy
      have HIN := hide (fun wx => l1In_any x 0 ((W : Int) - 1) wx)
      have HIM := hide (fun wx => l1In_any y 0 ((H : Int) - 1) wx)
      simp only [e1] at HIN
      simp only [e2] at HIM
      clear cx cy e1 e2 HS hnd
      go_enter Try.func40, Try.ntmps40
      go_wp2_with fail
      have G0 := IsGN.new (w := w) (x := (W : Int)) (y := (H : Int)) (v := .slice (some ⟨g, 0, none⟩) n cap)
      have q0 : Below w.heap.size w (w.alloc (.cells #[.int .i64 (W : Int), .int .i64 (H : Int), .slice (some ⟨g, 0, none⟩) n cap] 37)) := by go_grown
      have A0 := byN_to ((Below.refl _ _).alloc (Nat.le_refl _) (.cells #[.int .i64 (W : Int), .int .i64 (H : Int), .slice (some ⟨g, 0, none⟩) n cap] 37)) HA.out rfl
      generalize w.alloc (.cells #[.int .i64 (W : Int), .int .i64 (H : Int), .slice (some ⟨g, 0, none⟩) n cap] 37) = W0 at G0 q0 A0 ⊢
      obtain ⟨l0, ⟨a0, a1, a2⟩, -⟩ := G0.all
      have HQ0 := hide q0
      clear q0 A0 G0 l0
      go_quiet ((go_at_call 56; refine Calls.quiet_of_same ((HBN.out _).mono fun e w' hp => ⟨hp.1, hp.2.symm⟩)))
      go_wp2_with (first | (go_at_call 57; (with_reducible refine (HIN.out _).mono ?_); rintro e w2 ⟨rfl, rfl⟩) | (go_at_call 57; (with_reducible refine (HIM.out _).mono ?_); rintro e w2 ⟨rfl, rfl⟩))
      go_returns
      exact ⟨by rw [HR.out]; rfl, below_nN HQ0.out⟩
  · have hnd : ¬ digL l x y = true := fun hd => cx (by have := HGG.out.in hd; omega)
    have HR := hide (HS.out.trans (if_neg hnd))
    have e1 : decide (0 ≤ x ∧ x ≤ (W : Int) - 1) = false := decide_eq_false cx
    have HIN := hide (fun wx => l1In_any x 0 ((W : Int) - 1) wx)
    have HIM := hide (fun wx => l1In_any y 0 ((H : Int) - 1) wx)
    simp only [e1] at HIN
    clear cx e1 HS hnd
    go_enter Try.func40, Try.ntmps40
    go_wp2_with fail
    have G0 := IsGN.new (w := w) (x := (W : Int)) (y := (H : Int)) (v := .slice (some ⟨g, 0, none⟩) n cap)
    have q0 : Below w.heap.size w (w.alloc (.cells #[.int .i64 (W : Int), .int .i64 (H : Int), .slice (some ⟨g, 0, none⟩) n cap] 37)) := by go_grown
    have A0 := byN_to ((Below.refl _ _).alloc (Nat.le_refl _) (.cells #[.int .i64 (W : Int), .int .i64 (H : Int), .slice (some ⟨g, 0, none⟩) n cap] 37)) HA.out rfl
    generalize w.alloc (.cells #[.int .i64 (W : Int), .int .i64 (H : Int), .slice (some ⟨g, 0, none⟩) n cap] 37) = W0 at G0 q0 A0 ⊢
    obtain ⟨l0, ⟨a0, a1, a2⟩, -⟩ := G0.all
    have HQ0 := hide q0
    clear q0 A0 G0 l0
    go_quiet ((go_at_call 56; refine Calls.quiet_of_same ((HBN.out _).mono fun e w' hp => ⟨hp.1, hp.2.symm⟩)))
    go_wp2_with (first | (go_at_call 57; (with_reducible refine (HIN.out _).mono ?_); rintro e w2 ⟨rfl, rfl⟩) | (go_at_call 57; (with_reducible refine (HIM.out _).mono ?_); rintro e w2 ⟨rfl, rfl⟩))
    go_returns
    exact ⟨by rw [HR.out]; rfl, below_nN HQ0.out⟩
end Go.Proofs.Ytbfclnigjijkbaa
