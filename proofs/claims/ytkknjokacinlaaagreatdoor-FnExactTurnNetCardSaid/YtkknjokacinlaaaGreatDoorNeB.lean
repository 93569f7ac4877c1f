/- The model of sixes: the digits, steps from cell to cell. The model of sixes: a step from a cell to the next one. -/
import Derived.Test.YtkknjokacinlaaaGreatDoorNeRead
import Derived.Test.YtkknjokacinlaaaGreatDoorNet
import Derived.Test.YtkknjokacinlaaaGreatDoorInts
import Derived.Test.YtkknjokacinlaaaGreatDoorNext
import Derived.Test.YtkknjokacinlaaaGreatDoorDie
import Derived.Deep.QuietTactic
import Derived.BigQuiet
namespace Go.Proofs.YtkknjokacinlaaaGreatDoor
set_option maxRecDepth 100000
set_option linter.all false
open Go.RowKit

/-- Block g holds signs, one by one. -/
def ByN (w : World) (g : Nat) (F : List UInt8) : Prop := g < w.heap.size ∧ ∀ (j : Nat) (c : UInt8), F[j]? = some c → w.cell? ⟨g, j, none⟩ = some (.int .u8 (c.toNat : Int))
theorem byN_to {w w0 w1 : World} {g : Nat} {F : List UInt8} (hb : Below w0.heap.size w0 w1) (h : ByN w g F) (e : w0.heap = w.heap) : ByN w1 g F := by
  have hs := hb.size
  refine ⟨by rw [e] at hs; have := h.1; omega, fun j c hc => ?_⟩
  rw [hb.cell (p := ⟨g, j, none⟩) (by rw [e]; exact h.1)]
  have h5 : w0.heap[(⟨g, j, none⟩ : Addr).block]? = w.heap[(⟨g, j, none⟩ : Addr).block]? := by rw [e]
  rw [World.cell?_of_block h5]
  exact h.2 j c hc
theorem ByN.kept {w w1 : World} {g : Nat} {F : List UInt8} {row : Option Nat} (h : ByN w g F) (hk : w.grownBy w1 row) (hne : some g ≠ row) : ByN w1 g F :=
  ⟨Nat.lt_of_lt_of_le h.1 hk.size, fun j c hc => by rw [World.cell?_of_block (a := ⟨g, j, none⟩) (hk.block g h.1 hne)]; exact h.2 j c hc⟩
theorem byN_own {w : World} {B g n cap : Nat} {F : List UInt8} (O : w.ownsRow B 5 1 (.slice (some ⟨g, 0, none⟩) n cap) n (bytesV F)) (hn : n = F.length) : ByN w g F := by
  refine ⟨(O.lt g rfl).2, fun j c hc => ?_⟩
  have hj := (List.getElem?_eq_some_iff.1 hc).1
  rw [O.cellAt j (by omega)]
  unfold bytesV
  rw [List.getElem?_map, hc]
  rfl
/-- A grid's value. -/
abbrev gN (W H n g cap : Nat) : Value := .agg #[.int .i64 (W : Int), .int .i64 (H : Int), .slice (some ⟨g, 0, none⟩) n cap]
/-- The digits among the first k signs. -/
def digK (F : List UInt8) (k : Nat) : List Nat := (List.range k).filter fun i => isDig (F.getD i 0)
theorem digK_snoc {F : List UInt8} {k : Nat} {c : UInt8} (h : F[k]? = some c) : digK F (k + 1) = if isDig c = true then digK F k ++ [k] else digK F k := by
  unfold digK
  rw [List.range_succ, List.filter_append]
  have e : F.getD k 0 = c := by rw [List.getD_eq_getElem?_getD, h]; rfl
  simp only [List.filter_cons, List.filter_nil, e]
  split <;> simp
theorem digK_len (F : List UInt8) (k : Nat) : (digK F k).length ≤ k := by
  unfold digK
  exact Nat.le_trans (List.length_filter_le _ _) (by simp)
theorem digK_digs (l : List UInt8) : digK (flatL l) (flatL l).length = digs l := rfl
/-- Numbers of cells. -/
def natI (D : List Nat) : List Int := D.map (fun (i : Nat) => (i : Int))
theorem natI_len (D : List Nat) : (natI D).length = D.length := by simp [natI]
theorem natI_snoc (D : List Nat) (i : Nat) : natI (D ++ [i]) = natI D ++ [(i : Int)] := by simp [natI]
theorem natI_get {D : List Nat} {k i : Nat} (h : D[k]? = some i) : (natI D)[k]? = some (i : Int) := by unfold natI; rw [List.getElem?_map, h]; rfl
theorem own_grown {w w1 : World} {B : Nat} {e : TypeId} {z : Nat} {v : Value} {n : Nat} {xs : List Value} {g : Nat} (h : w.ownsRow B e z v n xs) (hk : w.grownBy w1 (some g)) (hg : g < B) : w1.ownsRow B e z v n xs :=
  h.kept hk (.inr (fun e => by have := (h.lt _ e).1; omega))

set_option maxHeartbeats 1600000 in
theorem neDigits_any (F : List UInt8) (W H n g cap : Nat) (hn : F.length = n) (h41 : n ≤ 41) (hok : ∀ c ∈ F, okN c = true) (w : World) (hA : ByN w g F) : Calls Tryz.prog 19 #[gN W H n g cap] w fun e w' => ∃ v, e = .returned v ∧ w'.ownsRow w.heap.size 3 1 v (digK F n).length (ints (natI (digK F n))) ∧ Below w.heap.size w w' := by
  obtain ⟨i0, hi, hz0, hz1, hz2⟩ := info_parts info_intI
  have HI := hide hi
  have HZ0 := hide hz0
  have HZ1 := hide hz1
  have HZ2 := hide hz2
  clear hi hz0 hz1 hz2
  have HN := hide hn
  have HOK := hide hok
  have HA := hide hA
  clear hn hok hA
  go_enter Tryz.func19, Tryz.ntmps19
  go_wp2
  have q0 : Below w.heap.size w (w.alloc (.cells #[.int .i64 (W : Int), .int .i64 (H : Int), .slice (some ⟨g, 0, none⟩) n cap] 27)) := by go_grown
  have HA0 := hide (byN_to ((Below.refl _ _).alloc (Nat.le_refl _) (.cells #[.int .i64 (W : Int), .int .i64 (H : Int), .slice (some ⟨g, 0, none⟩) n cap] 27)) HA.out rfl)
  have HQ0 := hide q0
  clear q0
  go_loopw [9, 3, 4, 5] (fun i vv _ _ wr => ∃ (k : Nat) (v : Value), k ≤ n ∧ i = .int .i64 (k : Int) ∧ v = vv ∧ ByN wr g F ∧ wr.ownsRow w.heap.size 3 1 v (digK F k).length (ints (natI (digK F k))) ∧ Below w.heap.size w wr) (fun i _ _ _ _ => n - (intOf i).toNat)
  case atStart => exact ⟨0, .slice none 0 0, Nat.zero_le _, rfl, rfl, HA0.out, World.ownsRow_nil _ _ _ _, HQ0.out⟩
  case round =>
    obtain ⟨k, v, hk, rfl, rfl, A, O, hb⟩ := hrel
    clear HA0 HQ0
    by_cases hlt : k < n
    · have hki : (k : Int) < (n : Int) := by omega
      have hc := List.getElem?_eq_getElem (l := F) (i := k) (by have := HN.out; omega)
      generalize F[k]'(by have := HN.out; omega) = c at hc
      have c0 := A.2 k c hc
      have HC := hide (digK_snoc hc)
      have hkc := HOK.out c (List.mem_of_getElem? hc)
      clear hc
      rw [okN_int] at hkc
      cases hd : isDig c
      · rw [hd, Bool.or_false, decide_eq_true_eq] at hkc
        obtain ⟨r1, r2⟩ := byte_eq hkc
        have HD := hide (HC.out.trans (if_neg (by rw [hd]; simp)))
        have HO := hide O
        have HAA := hide A
        clear hd hkc O A HC
        go_wp2
        go_roundw
        case rel => exact ⟨k + 1, _, by omega, by go_num, rfl, HAA.out, by rw [HD.out]; exact HO.out, hb⟩
        case measure => simp [intOf] <;> omega
      · have h46 : ¬ (c.toNat : Int) = 46 := by
          unfold isDig at hd
          rw [decide_eq_true_eq] at hd
          omega
        obtain ⟨r1, r2⟩ := byte_ne h46
        have HD := hide (HC.out.trans (if_pos hd))
        have hsz := hb.size
        have hgw := HA.out.1
        have hle := digK_len F k
        have HJ := hide (show ∀ (v' : Value) (w4 : World), w4.ownsRow w.heap.size 3 1 v' ((digK F k).length + 1) (ints (natI (digK F k)) ++ [.int .i64 (k : Int)]) → (wr.alloc (.cells #[.int .i64 (k : Int)] 3)).grownBy w4 v.ownBlock →
            ByN w4 g F ∧ w4.ownsRow w.heap.size 3 1 v' (digK F (k + 1)).length (ints (natI (digK F (k + 1)))) ∧ Below w.heap.size w w4 from by
          intro v' w4 h1 h2
          have hne : ∀ j, v.ownBlock = some j → w.heap.size ≤ j := fun j e => (O.lt j e).1
          refine ⟨(byN_to ((Below.refl _ _).alloc (Nat.le_refl _) _) A rfl).kept h2 (fun e => by have := hne g e.symm; omega), ?_, (hb.alloc hsz _).grown h2 (by show w.heap.size ≤ (World.alloc _ _).heap.size; simp; omega) hne⟩
          rw [HD.out, List.length_append, natI_snoc, ints_snoc]
          exact h1)
        have HO := hide O
        clear hd h46 O A HC HD hkc
        generalize digK F k = Dk at HO HJ hle
        go_wp2_with (at_builtin; refine wpList_append_own_at _ rfl _ _ 28 rfl w.heap.size 3 i0 (.int .i64 0) 1 8 Tryz.underlying28 HI.out HZ0.out HZ1.out HZ2.out rfl (by decide) _ _ _ rfl (HO.out.alloc _) ⟨wr.heap.size, 0, none⟩ 1 1 [.int .i64 (k : Int)] rfl rfl ?c1 ?c2 ?c3 ?c4 ?c5 ?_)
        case c1 => exact cell_one_newR wr (.int .i64 (k : Int)) 3
        case c2 =>
          intro u hu
          simp only [List.mem_singleton] at hu
          subst hu
          rfl
        case c3 => unfold maxLen; omega
        case c4 => omega
        case c5 => simp; omega
        · intro v' w4 hown4 hg4 _ _
          have HK := hide (HJ.out v' w4 hown4 hg4)
          clear hown4 hg4
          go_wp2
          go_roundw
          case rel => exact ⟨k + 1, _, by omega, by go_num, rfl, HK.out.1, HK.out.2.1, HK.out.2.2⟩
          case measure => simp [intOf] <;> omega
    · obtain rfl : k = n := by omega
      have HO := hide O
      clear O A
      go_wp2
      go_returns
      exact ⟨v, rfl, HO.out, hb⟩
end Go.Proofs.YtkknjokacinlaaaGreatDoor
namespace Go.Proofs.YtkknjokacinlaaaGreatDoor
set_option maxRecDepth 100000
set_option linter.all false
open Go.RowKit

/-- The number of the cell next to one, or -1. -/
def stepI (l : List UInt8) (W i k : Nat) : Int :=
  if digL l (nextX ((i % W : Nat) : Int) (k : Int)) (nextY ((i / W : Nat) : Int) (k : Int)) = true then nextY ((i / W : Nat) : Int) (k : Int) * (W : Int) + nextX ((i % W : Nat) : Int) (k : Int) else -1
theorem next_bd (x k : Int) : x - 1 ≤ nextX x k ∧ nextX x k ≤ x + 1 ∧ x - 1 ≤ nextY x k ∧ nextY x k ≤ x + 1 := by
  unfold nextX nextY
  (repeat' split) <;> omega
theorem dig_dot {c : UInt8} (h : okN c = true) : isDig c = true ↔ ¬ (c.toNat : Int) = 46 := by
  rw [okN_int] at h
  constructor
  · intro hd
    unfold isDig at hd
    rw [decide_eq_true_eq] at hd
    omega
  · intro hn
    rw [decide_eq_false hn, Bool.false_or] at h
    exact h
theorem below_nN {B : Nat} {a b : World} {n : Nat} (h : Below B a b) : Below B a (b.drewN n) := ⟨h.os, h.tape, h.output, h.size, h.block⟩
set_option maxHeartbeats 3200000 in
theorem neStep_any (l : List UInt8) (W H n g cap : Nat) (hG : Grid6 l W H) (hn : n = W * H) (i : Nat) (hi : i < n) (k : Nat) (hk : k < 4) (w : World) (hA : ByN w g (flatL l)) : Calls Tryz.prog 22 #[gN W H n g cap, .int .i64 (i : Int), .int .i64 (k : Int)] w fun e w' => e = .returned (.int .i64 (stepI l W i k)) ∧ Below w.heap.size w w' := by
  obtain ⟨a, ha⟩ : ∃ a, a = i % W := ⟨_, rfl⟩
  obtain ⟨b, hb⟩ : ∃ b, b = i / W := ⟨_, rfl⟩
  have hw1 := hG.w1
  have hw6 := hG.w6
  have hh6 := hG.h6
  have haW : a < W := by rw [ha]; exact Nat.mod_lt _ hw1
  have hbH : b < H := by rw [hb, Nat.div_lt_iff_lt_mul hw1, Nat.mul_comm, ← hn]; exact hi
  have hn36 : n ≤ 36 := by rw [hn]; exact Nat.mul_le_mul hw6 hG.h6
  have hrem : Int.tmod (i : Int) (W : Int) = (a : Int) := by rw [ha]; exact (Int.ofNat_tmod i W).symm
  have hquo : Int.tdiv (i : Int) (W : Int) = (b : Int) := by rw [hb]; exact (Int.ofNat_tdiv i W).symm
  have hw0 : ((W : Int) == 0) = false := beq_eq_false_iff_ne.2 (by omega)
  have hwn : ¬ (W : Int) = 0 := by omega
  have HS := hide (show stepI l W i k = if digL l (nextX (a : Int) (k : Int)) (nextY (b : Int) (k : Int)) = true then nextY (b : Int) (k : Int) * (W : Int) + nextX (a : Int) (k : Int) else -1 from by rw [ha, hb]; rfl)
  have bx := next_bd (a : Int) (k : Int)
  have by' := next_bd (b : Int) (k : Int)
  have HBN := hide (fun wx => boNext_any (a : Int) (b : Int) (k : Int) wx (by omega) (by omega))
  obtain ⟨x, hx⟩ : ∃ x, x = nextX (a : Int) (k : Int) := ⟨_, rfl⟩
  obtain ⟨y, hy⟩ : ∃ y, y = nextY (b : Int) (k : Int) := ⟨_, rfl⟩
  rw [← hx, ← hy] at HBN HS
  rw [← hx] at bx
  rw [← hy] at by'
  have hwm : IntKind.i64.wrap ((W : Int) - 1) = (W : Int) - 1 := IntWalk.i64_in _ (by omega)
  have hhm : IntKind.i64.wrap ((H : Int) - 1) = (H : Int) - 1 := IntWalk.i64_in _ (by omega)
  generalize stepI l W i k = r at HS ⊢
  have hbd : -1 ≤ x ∧ x ≤ 6 ∧ -1 ≤ y ∧ y ≤ 6 := by omega
  clear ha hb hx hy bx by'
  have HA := hide hA
  have HGG := hide hG
  have HNN := hide hn
  clear hA hG hn
  by_cases cx : 0 ≤ x ∧ x ≤ (W : Int) - 1
  · by_cases cy : 0 ≤ y ∧ y ≤ (H : Int) - 1
    · obtain ⟨xx, rfl⟩ : ∃ xx : Nat, x = (xx : Int) := ⟨x.toNat, by omega⟩
      obtain ⟨yy, rfl⟩ : ∃ yy : Nat, y = (yy : Int) := ⟨y.toNat, by omega⟩
      have hxW : xx < W := by omega
      have hyH : yy < H := by omega
      have hat := HGG.out.at hxW hyH
      have hmem : cellI (splitP l) (xx : Int) (yy : Int) ∈ flatL l := List.mem_of_getElem? hat
      have hok : okN (cellI (splitP l) (xx : Int) (yy : Int)) = true := by
        unfold flatL at hmem
        obtain ⟨rr, hr, hc⟩ := List.mem_flatten.1 hmem
        exact List.all_eq_true.1 (HGG.out.ok rr hr) _ hc
      have hlt := HGG.out.lt hxW hyH
      rw [← HNN.out] at hlt
      have hdd := dig_dot hok
      have hdl : digL l (xx : Int) (yy : Int) = isDig (cellI (splitP l) (xx : Int) (yy : Int)) := rfl
      rw [hdl] at HS
      generalize cellI (splitP l) (xx : Int) (yy : Int) = c at hat hok hdd HS
      have hm : (yy : Int) * (W : Int) = ((yy * W : Nat) : Int) := by simp
      rw [hm] at HS
      generalize hq : yy * W = q at hat hlt HS hm
      have HAT := hide hat
      have hwq : IntKind.i64.wrap ((yy : Int) * (W : Int)) = (q : Int) := by rw [hm]; exact IntWalk.i64_in _ (by omega)
      have hwp : IntKind.i64.wrap ((q : Int) + (xx : Int)) = ((q + xx : Nat) : Int) := by rw [IntWalk.i64_in _ (by omega)]; omega
      have hpi : ((q + xx : Nat) : Int) < (n : Int) := by omega
      have e1 : decide (0 ≤ (xx : Int) ∧ (xx : Int) ≤ (W : Int) - 1) = true := decide_eq_true cx
      have e2 : decide (0 ≤ (yy : Int) ∧ (yy : Int) ≤ (H : Int) - 1) = true := decide_eq_true cy
      have HIN := hide (fun wx => l1In_any (xx : Int) 0 ((W : Int) - 1) wx)
      have HIM := hide (fun wx => l1In_any (yy : Int) 0 ((H : Int) - 1) wx)
      simp only [e1] at HIN
      simp only [e2] at HIM
      clear hat hok cx cy hdl hmem e1 e2 hm hq
      by_cases h46 : (c.toNat : Int) = 46
      · have hnd : ¬ isDig c = true := fun hd => hdd.1 hd h46
        have HR := hide (HS.out.trans (if_neg hnd))
        obtain ⟨r1, r2⟩ := byte_eq h46
        clear HS hdd hnd h46
        go_enter Tryz.func22, Tryz.ntmps22
        go_wp2_with fail
        have G0 := IsGN.new (w := w) (x := (W : Int)) (y := (H : Int)) (v := .slice (some ⟨g, 0, none⟩) n cap)
        have q0 : Below w.heap.size w (w.alloc (.cells #[.int .i64 (W : Int), .int .i64 (H : Int), .slice (some ⟨g, 0, none⟩) n cap] 27)) := by go_grown
        have A0 := byN_to ((Below.refl _ _).alloc (Nat.le_refl _) (.cells #[.int .i64 (W : Int), .int .i64 (H : Int), .slice (some ⟨g, 0, none⟩) n cap] 27)) HA.out rfl
        generalize w.alloc (.cells #[.int .i64 (W : Int), .int .i64 (H : Int), .slice (some ⟨g, 0, none⟩) n cap] 27) = W0 at G0 q0 A0 ⊢
        obtain ⟨l0, ⟨a0, a1, a2⟩, -⟩ := G0.all
        have c0 := A0.2 (q + xx) c HAT.out
        have HQ0 := hide q0
        clear q0 A0 G0 l0
        go_quiet ((go_at_call 31; refine Calls.quiet_of_same ((HBN.out _).mono fun e w' hp => ⟨hp.1, hp.2.symm⟩)))
        go_wp2_with (first | (go_at_call 32; (with_reducible refine (HIN.out _).mono ?_); rintro e w2 ⟨rfl, rfl⟩) | (go_at_call 32; (with_reducible refine (HIM.out _).mono ?_); rintro e w2 ⟨rfl, rfl⟩))
        go_returns
        exact ⟨by rw [HR.out]; rfl, below_nN HQ0.out⟩
      · have hyd : isDig c = true := hdd.2 h46
        have HR := hide (HS.out.trans (if_pos hyd))
        obtain ⟨r1, r2⟩ := byte_ne h46
        clear HS hdd hyd h46
        go_enter Tryz.func22, Tryz.ntmps22
        go_wp2_with fail
        have G0 := IsGN.new (w := w) (x := (W : Int)) (y := (H : Int)) (v := .slice (some ⟨g, 0, none⟩) n cap)
        have q0 : Below w.heap.size w (w.alloc (.cells #[.int .i64 (W : Int), .int .i64 (H : Int), .slice (some ⟨g, 0, none⟩) n cap] 27)) := by go_grown
        have A0 := byN_to ((Below.refl _ _).alloc (Nat.le_refl _) (.cells #[.int .i64 (W : Int), .int .i64 (H : Int), .slice (some ⟨g, 0, none⟩) n cap] 27)) HA.out rfl
        generalize w.alloc (.cells #[.int .i64 (W : Int), .int .i64 (H : Int), .slice (some ⟨g, 0, none⟩) n cap] 27) = W0 at G0 q0 A0 ⊢
        obtain ⟨l0, ⟨a0, a1, a2⟩, -⟩ := G0.all
        have c0 := A0.2 (q + xx) c HAT.out
        have HQ0 := hide q0
        clear q0 A0 G0 l0
        go_quiet ((go_at_call 31; refine Calls.quiet_of_same ((HBN.out _).mono fun e w' hp => ⟨hp.1, hp.2.symm⟩)))
        go_wp2_with (first | (go_at_call 32; (with_reducible refine (HIN.out _).mono ?_); rintro e w2 ⟨rfl, rfl⟩) | (go_at_call 32; (with_reducible refine (HIM.out _).mono ?_); rintro e w2 ⟨rfl, rfl⟩))
        go_returns
        exact ⟨by rw [HR.out]; rfl, below_nN HQ0.out⟩
    · have hnd : ¬ digL l x y = true := fun hd => cy (by have := HGG.out.in hd; omega)
      have HR := hide (HS.out.trans (if_neg hnd))
      have e1 : decide (0 ≤ x ∧ x ≤ (W : Int) - 1) = true := decide_eq_true cx
      have e2 : decide (0 ≤ y ∧ y ≤ (H : Int) - 1) = false := decide_eq_false cy
      have HIN := hide (fun wx => l1In_any x 0 ((W : Int) - 1) wx)
      have HIM := hide (fun wx => l1In_any y 0 ((H : Int) - 1) wx)
      simp only [e1] at HIN
      simp only [e2] at HIM
      clear cx cy e1 e2 HS hnd
      go_enter Tryz.func22, Tryz.ntmps22
      go_wp2_with fail
      have G0 := IsGN.new (w := w) (x := (W : Int)) (y := (H : Int)) (v := .slice (some ⟨g, 0, none⟩) n cap)
      have q0 : Below w.heap.size w (w.alloc (.cells #[.int .i64 (W : Int), .int .i64 (H : Int), .slice (some ⟨g, 0, none⟩) n cap] 27)) := by go_grown
      have A0 := byN_to ((Below.refl _ _).alloc (Nat.le_refl _) (.cells #[.int .i64 (W : Int), .int .i64 (H : Int), .slice (some ⟨g, 0, none⟩) n cap] 27)) HA.out rfl
      generalize w.alloc (.cells #[.int .i64 (W : Int), .int .i64 (H : Int), .slice (some ⟨g, 0, none⟩) n cap] 27) = W0 at G0 q0 A0 ⊢
      obtain ⟨l0, ⟨a0, a1, a2⟩, -⟩ := G0.all
      have HQ0 := hide q0
      clear q0 A0 G0 l0
      go_quiet ((go_at_call 31; refine Calls.quiet_of_same ((HBN.out _).mono fun e w' hp => ⟨hp.1, hp.2.symm⟩)))
      go_wp2_with (first | (go_at_call 32; (with_reducible refine (HIN.out _).mono ?_); rintro e w2 ⟨rfl, rfl⟩) | (go_at_call 32; (with_reducible refine (HIM.out _).mono ?_); rintro e w2 ⟨rfl, rfl⟩))
      go_returns
      exact ⟨by rw [HR.out]; rfl, below_nN HQ0.out⟩
  · have hnd : ¬ digL l x y = true := fun hd => cx (by have := HGG.out.in hd; omega)
    have HR := hide (HS.out.trans (if_neg hnd))
    have e1 : decide (0 ≤ x ∧ x ≤ (W : Int) - 1) = false := decide_eq_false cx
    have HIN := hide (fun wx => l1In_any x 0 ((W : Int) - 1) wx)
    have HIM := hide (fun wx => l1In_any y 0 ((H : Int) - 1) wx)
    simp only [e1] at HIN
    clear cx e1 HS hnd
    go_enter Tryz.func22, Tryz.ntmps22
    go_wp2_with fail
    have G0 := IsGN.new (w := w) (x := (W : Int)) (y := (H : Int)) (v := .slice (some ⟨g, 0, none⟩) n cap)
    have q0 : Below w.heap.size w (w.alloc (.cells #[.int .i64 (W : Int), .int .i64 (H : Int), .slice (some ⟨g, 0, none⟩) n cap] 27)) := by go_grown
    have A0 := byN_to ((Below.refl _ _).alloc (Nat.le_refl _) (.cells #[.int .i64 (W : Int), .int .i64 (H : Int), .slice (some ⟨g, 0, none⟩) n cap] 27)) HA.out rfl
    generalize w.alloc (.cells #[.int .i64 (W : Int), .int .i64 (H : Int), .slice (some ⟨g, 0, none⟩) n cap] 27) = W0 at G0 q0 A0 ⊢
    obtain ⟨l0, ⟨a0, a1, a2⟩, -⟩ := G0.all
    have HQ0 := hide q0
    clear q0 A0 G0 l0
    go_quiet ((go_at_call 31; refine Calls.quiet_of_same ((HBN.out _).mono fun e w' hp => ⟨hp.1, hp.2.symm⟩)))
    go_wp2_with (first | (go_at_call 32; (with_reducible refine (HIN.out _).mono ?_); rintro e w2 ⟨rfl, rfl⟩) | (go_at_call 32; (with_reducible refine (HIM.out _).mono ?_); rintro e w2 ⟨rfl, rfl⟩))
    go_returns
    exact ⟨by rw [HR.out]; rfl, below_nN HQ0.out⟩
end Go.Proofs.YtkknjokacinlaaaGreatDoor
