/- All moves: the program's allRolls and allMoves. The moves that can be made: the program's possibleMoves of a group. DiceMoves of the model and of the program. -/
import Derived.Test.YtdndegonpdakkaaDoorStrs
import Derived.Test.YtdndegonpdakkaaDoorShelf
import Derived.Test.YtdndegonpdakkaaDoorRowsOf
import Derived.Shelf.Strings.Explode
import Derived.Maps.AppendAt
import Derived.Test.YtdndegonpdakkaaDoorMyMv
import Derived.Deep.WholeRow
import Derived.Test.YtdndegonpdakkaaDoorSumD
namespace Go.Proofs.YtdndegonpdakkaaDoor
set_option maxRecDepth 100000
set_option linter.all false
open Go.RowKit

theorem own_grown {w w' : World} {r : Option Nat} {b : Nat} {e : TypeId} {z : Nat} {v : Value} {n : Nat} {xs : List Value} (hb : w.grownBy w' r) (h : w.ownsRow b e z v n xs) (hl : ∀ g, v.ownBlock = some g → r ≠ some g) : w'.ownsRow b e z v n xs := by
  have hlt := h.lt
  obtain ⟨h1, h2⟩ := h
  refine ⟨h1, ?_⟩
  rcases h2 with h2 | ⟨g, cap, cur, hv, hg, hh, q⟩
  · exact .inl h2
  · have hv2 : v.ownBlock = some g := by rw [hv]; rfl
    exact .inr ⟨g, cap, cur, hv, hg, by rw [hb.block g (hlt g hv2).2 (fun e => hl g hv2 e.symm)]; exact hh, q⟩
theorem own_apart1 {w w1 : World} {b b1 : Nat} {e e1 : TypeId} {z z1 : Nat} {v v1 : Value} {n n1 : Nat} {xs xs1 : List Value} (h : w.ownsRow b e z v n xs) (h1 : w1.ownsRow b1 e1 z1 v1 n1 xs1) (hb : w.heap.size ≤ b1) : ∀ g, v1.ownBlock = some g → v.ownBlock ≠ some g := fun g hg hv => by
  have := (h.lt g hv).2
  have := (h1.lt g hg).1
  omega
/-- strings.Split of a text by the empty one. -/
theorem split_chars (s : ByteArray) (w : World) (hs : s.size ≤ 100) (ha : ∀ (j : Nat) b, s.data.toList[j]? = some b → b.toNat < 128) : Calls Tryd.prog 70 #[.string s, .string ⟨#[]⟩] w fun e w' => ∃ v, e = .returned v ∧ w'.ownsRow w.heap.size 9 1 v s.size ((Lib.charsB s).map Value.string) ∧ Below w.heap.size w w' := by
  refine (Any.strings_Split_chars Tryd.lays146 (by kernel_rfl) s ⟨#[]⟩ w rfl (by omega) ha).mono ?_
  rintro e w' ⟨rfl, rfl⟩
  have hl : ((Lib.charsB s).map Value.string).length = s.size := by
    rw [List.length_map]
    exact Lib.charsUpTo_length s s.size
  have hnew : ∀ (x : World) (o : Obj), (x.alloc o).heap[x.heap.size]? = some o := by
    intro x o
    show (x.heap.push o)[x.heap.size]? = _
    simp
  generalize (Lib.charsB s).map Value.string = cs at hl
  refine ⟨_, rfl, ⟨by rw [hl]; omega, .inr ⟨_, s.size, cs.toArray, rfl, ?_, hnew _ _, Nat.le_refl _, by unfold maxLen; omega, ?_, ?_⟩⟩, ?_⟩
  · show w.heap.size ≤ (w.alloc _).heap.size
    simp
  · rw [List.size_toArray, hl, Nat.mul_one]
  · show List.take (s.size * 1) cs = cs
    exact List.take_of_length_le (by omega)
  exact ((Below.refl w.heap.size w).alloc (Nat.le_refl _) _).alloc (by simp) _
theorem info_strM : (Tryd.prog.info? 9).map (fun i => (i.zero, i.size, i.bytes)) = some (some (.string ⟨#[]⟩), 1, 16) := by kernel_rfl
/-- The signs of rolls, of dice, and all moves. -/
def rollsL : List (List UInt8) := [[110], [101], [115], [119]]
def ixL : List (List UInt8) := [[48], [49], [50]]
def movesL : List (List UInt8) := ixL.flatMap fun x => rollsL.map fun y => x ++ y
theorem movesL_at (k j : Nat) (hk : k < 3) (hj : j < 4) : ∃ x y, ixL[k]? = some x ∧ rollsL[j]? = some y ∧ (⟨x.toArray⟩ : ByteArray).size = 1 ∧ (⟨y.toArray⟩ : ByteArray).size = 1 ∧ movesL.take (4 * k + j + 1) = movesL.take (4 * k + j) ++ [x ++ y] := by
  match k, hk, j, hj with
  | 0, _, 0, _ => exact ⟨_, _, rfl, rfl, rfl, rfl, rfl⟩
  | 0, _, 1, _ => exact ⟨_, _, rfl, rfl, rfl, rfl, rfl⟩
  | 0, _, 2, _ => exact ⟨_, _, rfl, rfl, rfl, rfl, rfl⟩
  | 0, _, 3, _ => exact ⟨_, _, rfl, rfl, rfl, rfl, rfl⟩
  | 1, _, 0, _ => exact ⟨_, _, rfl, rfl, rfl, rfl, rfl⟩
  | 1, _, 1, _ => exact ⟨_, _, rfl, rfl, rfl, rfl, rfl⟩
  | 1, _, 2, _ => exact ⟨_, _, rfl, rfl, rfl, rfl, rfl⟩
  | 1, _, 3, _ => exact ⟨_, _, rfl, rfl, rfl, rfl, rfl⟩
  | 2, _, 0, _ => exact ⟨_, _, rfl, rfl, rfl, rfl, rfl⟩
  | 2, _, 1, _ => exact ⟨_, _, rfl, rfl, rfl, rfl, rfl⟩
  | 2, _, 2, _ => exact ⟨_, _, rfl, rfl, rfl, rfl, rfl⟩
  | 2, _, 3, _ => exact ⟨_, _, rfl, rfl, rfl, rfl, rfl⟩
theorem chars_rolls : (Lib.charsB ⟨#[110, 101, 115, 119]⟩).map Value.string = strs rollsL := by kernel_rfl
theorem chars_ix : (Lib.charsB ⟨#[48, 49, 50]⟩).map Value.string = strs ixL := by kernel_rfl
theorem ascii_of (l : List UInt8) (h : l.all (fun b => decide (b.toNat < 128)) = true) : ∀ (j : Nat) b, l[j]? = some b → b.toNat < 128 := fun _ _ hb => of_decide_eq_true (List.all_eq_true.1 h _ (List.mem_of_getElem? hb))
theorem allRolls_any (w : World) : Calls Tryd.prog 71 #[] w fun e w' => ∃ v, e = .returned v ∧ w'.ownsRow w.heap.size 9 1 v 4 (strs rollsL) ∧ Below w.heap.size w w' := by
  go_enter Tryd.func71, Tryd.ntmps71
  go_wp2_with fail
  refine (split_chars ⟨#[110, 101, 115, 119]⟩ _ (by decide) (ascii_of _ (by decide))).mono ?_
  rintro e w1 ⟨v, rfl, O, hb⟩
  rw [chars_rolls] at O
  go_wp2
  go_returns
  exact ⟨_, rfl, O, hb⟩
/-- The state of allMoves: the rows of indices, of rolls, of m moves, apart. -/
structure AmI (w wr : World) (v6 v12 v : Value) (m : Nat) : Prop where
  ix : wr.ownsRow w.heap.size 9 1 v6 3 (strs ixL)
  rolls : wr.ownsRow w.heap.size 9 1 v12 4 (strs rollsL)
  row : wr.ownsRow w.heap.size 9 1 v m (strs (movesL.take m))
  ap6 : ∀ g, v6.ownBlock = some g → v.ownBlock ≠ some g
  ap12 : ∀ g, v12.ownBlock = some g → v.ownBlock ≠ some g
  below : Below w.heap.size w wr
theorem AmI.app {w wr w' : World} {v6 v12 v v' u : Value} {m : Nat} {x : List UInt8} {t : TypeId} (h : AmI w wr v6 v12 v m) (hO : w'.ownsRow w.heap.size 9 1 v' (m + 1) (strs (movesL.take m) ++ [sV x])) (hm : movesL.take (m + 1) = movesL.take m ++ [x]) (hg : (wr.alloc (.cells #[u] t)).grownBy w' v.ownBlock) (hv : v'.ownBlock = v.ownBlock ∨ v'.ownBlock = some (wr.alloc (.cells #[u] t)).heap.size) : AmI w w' v6 v12 v' (m + 1) := by
  have hsz := h.below.size
  have ap : ∀ (y : Value) (n : Nat) (xs : List Value), wr.ownsRow w.heap.size 9 1 y n xs → (∀ g, y.ownBlock = some g → v.ownBlock ≠ some g) → ∀ g, y.ownBlock = some g → v'.ownBlock ≠ some g := by
    intro y n xs hy h1 g hg2 e
    rcases hv with e2 | e2
    · exact h1 g hg2 (e2.symm.trans e)
    · have h3 := (hy.lt g hg2).2
      rw [e] at e2
      injection e2 with e2
      simp at e2
      omega
  refine ⟨own_grown hg (h.ix.alloc _) h.ap6, own_grown hg (h.rolls.alloc _) h.ap12, ?_, ap _ _ _ h.ix h.ap6, ap _ _ _ h.rolls h.ap12, (h.below.alloc hsz _).grown hg (by simp; omega) (fun k hk => (h.row.lt k hk).1)⟩
  rw [hm, strs_snoc]
  exact hO
set_option maxHeartbeats 800000 in
theorem allMoves_any (w : World) : Calls Tryd.prog 47 #[] w fun e w' => ∃ v, e = .returned v ∧ w'.ownsRow w.heap.size 9 1 v 12 (strs movesL) ∧ Below w.heap.size w w' := by
  obtain ⟨i0, hi, hz0, hz1, hz2⟩ := info_parts info_strM
  have HI := hide hi
  have HZ0 := hide hz0
  have HZ1 := hide hz1
  have HZ2 := hide hz2
  clear hi hz0 hz1 hz2
  go_enter Tryd.func47, Tryd.ntmps47
  go_wp2_with fail
  refine (split_chars ⟨#[48, 49, 50]⟩ _ (by decide) (ascii_of _ (by decide))).mono ?_
  rintro e w1 ⟨v6, rfl, O6, hb⟩
  rw [chars_ix] at O6
  have O6 : w1.ownsRow w.heap.size 9 1 v6 3 (strs ixL) := O6
  obtain ⟨g6, c6, rfl, -, -⟩ := own_form O6 (by omega)
  have HO6 := hide O6
  have HB1 := hide hb
  clear O6 hb
  go_wp2
  go_loopw [1, 8] (fun mv i wr => ∃ (k : Nat) (v : Value), k ≤ 3 ∧ i = .int .i64 (k : Int) ∧ v = mv ∧ wr.ownsRow w.heap.size 9 1 (.slice (some ⟨g6, 0, none⟩) 3 c6) 3 (strs ixL) ∧ wr.ownsRow w.heap.size 9 1 v (4 * k) (strs (movesL.take (4 * k))) ∧ (∀ g, (Value.slice (some ⟨g6, 0, none⟩) 3 c6).ownBlock = some g → v.ownBlock ≠ some g) ∧ Below w.heap.size w wr) (fun _ i _ => 3 - (intOf i).toNat)
  case atStart => exact ⟨0, _, by omega, rfl, rfl, HO6.out, ⟨rfl, .inl ⟨rfl, rfl⟩⟩, (fun g _ e => by cases e), HB1.out⟩
  case round =>
    obtain ⟨k, v, hk, rfl, rfl, R6, RV, RA, RB⟩ := hrel
    clear HO6 HB1
    by_cases hlt : k < 3
    · have hki : (k : Int) < 3 := by omega
      obtain ⟨x, y0, hx, -, -, -, -⟩ := movesL_at k 0 hlt (by omega)
      have c6k := strs_cell R6 k x hx
      have HX := hide hx
      have HR6 := hide R6
      have HRV := hide RV
      have HRA := hide RA
      have HRB := hide RB
      have w1q : IntKind.i64.wrap ((k : Int) + 1) = (k : Int) + 1 := IntWalk.i64_in _ (by omega)
      clear hx R6 RV RA RB
      go_wp2_with fail
      refine (allRolls_any _).mono ?_
      rintro e w2 ⟨v12, rfl, O12, hb2⟩
      obtain ⟨g12, c12, rfl, -, -⟩ := own_form O12 (by omega)
      have HT := hide (show AmI w w2 (.slice (some ⟨g6, 0, none⟩) 3 c6) (.slice (some ⟨g12, 0, none⟩) 4 c12) v (4 * k + 0) from
        ⟨own_to hb2 HR6.out rfl, own_mono O12 HRB.out.size, own_to hb2 HRV.out rfl, HRA.out, own_apart1 HRV.out O12 (by first | exact Nat.le_refl _ | simp), below_to hb2 HRB.out HRB.out.size rfl rfl rfl rfl⟩)
      clear c6k O12 hb2 HR6 HRV HRA HRB
      go_wp2
      go_loopw [1, 14] (fun mv i wq => ∃ (j : Nat) (v : Value), j ≤ 4 ∧ i = .int .i64 (j : Int) ∧ v = mv ∧ AmI w wq (.slice (some ⟨g6, 0, none⟩) 3 c6) (.slice (some ⟨g12, 0, none⟩) 4 c12) v (4 * k + j)) (fun _ i _ => 4 - (intOf i).toNat)
      case atStart => exact ⟨0, _, by omega, rfl, rfl, HT.out⟩
      case round =>
        obtain ⟨j, v, hj, rfl, rfl, T⟩ := hrel
        clear HT
        by_cases hltj : j < 4
        · have hji : (j : Int) < 4 := by omega
          obtain ⟨x', y, hx, hy, hx1, hy1, hm⟩ := movesL_at k j hlt hltj
          obtain rfl : x' = x := Option.some.inj (hx.symm.trans HX.out)
          have c12j := strs_cell T.rolls j y hy
          have HM := hide hm
          have w2q : IntKind.i64.wrap ((j : Int) + 1) = (j : Int) + 1 := IntWalk.i64_in _ (by omega)
          have HXY := hide (show (⟨x'.toArray⟩ : ByteArray) ++ ⟨y.toArray⟩ = ⟨(x' ++ y).toArray⟩ from by
            apply ByteArray.ext
            rw [ByteArray.data_append]
            simp)
          have HT := hide T
          have hsz := T.below.size
          clear hx hy hm T
          go_wp2_with (at_builtin; (try rw [HXY.out]); refine wpList_append_own_at _ rfl _ _ 30 rfl w.heap.size 9 i0 (.string ⟨#[]⟩) 1 16 Tryd.underlying30 HI.out HZ0.out HZ1.out HZ2.out rfl (by decide) _ _ _ rfl (HT.out.row.alloc _) ⟨_, 0, none⟩ 1 1 [sV (x' ++ y)] rfl rfl (cell_one_newR _ _ _) (by intro u hu; simp only [List.mem_singleton] at hu; subst hu; rfl) (by unfold maxLen; omega) (by omega) (by simp; omega) ?_; intro v' w3 hown hg hnil hblk)
          have HT2 := hide (HT.out.app hown HM.out hg hblk)
          clear hown hg hnil hblk HT
          go_wp2
          go_roundw
          case rel => exact ⟨j + 1, _, by omega, by go_num, rfl, HT2.out⟩
          case measure => simp [intOf] <;> omega
        · obtain rfl : j = 4 := by omega
          have HT := hide T
          clear T
          go_wp2
          go_roundw
          case rel => exact ⟨k + 1, _, by omega, by go_num, rfl, HT.out.ix, HT.out.row, HT.out.ap6, HT.out.below⟩
          case measure => simp [intOf] <;> omega
    · obtain rfl : k = 3 := by omega
      have HRV := hide RV
      have HRB := hide RB
      clear R6 RV RA RB
      go_wp2
      go_returns
      exact ⟨_, rfl, HRV.out, HRB.out⟩
end Go.Proofs.YtdndegonpdakkaaDoor
namespace Go.Proofs.YtdndegonpdakkaaDoor
set_option maxRecDepth 100000
set_option linter.all false
open Go.RowKit

/-- Can a move be made? The moves of a list that can. -/
def pmOk (l : List UInt8) (L : List St) (mv : List UInt8) : Bool := (mvL l L ((mv.getD 0 0).toNat - 48) (dirIx (mv.getD 1 0).toNat)).isSome
def pmL (l : List UInt8) (L : List St) (n : Nat) : List (List UInt8) := (movesL.take n).filter (pmOk l L)
theorem movesL_ix (i : Nat) (h : i < 12) : ∃ x d : UInt8, movesL[i]? = some [x, d] ∧ x.toNat = 48 + i / 4 ∧ 0 ≤ dirIx d.toNat ∧ dirIx d.toNat = ((i % 4 : Nat) : Int) ∧ movesL.take (i + 1) = movesL.take i ++ [[x, d]] := by
  match i, h with
  | 0, _ => exact ⟨_, _, rfl, rfl, by decide, by decide, rfl⟩
  | 1, _ => exact ⟨_, _, rfl, rfl, by decide, by decide, rfl⟩
  | 2, _ => exact ⟨_, _, rfl, rfl, by decide, by decide, rfl⟩
  | 3, _ => exact ⟨_, _, rfl, rfl, by decide, by decide, rfl⟩
  | 4, _ => exact ⟨_, _, rfl, rfl, by decide, by decide, rfl⟩
  | 5, _ => exact ⟨_, _, rfl, rfl, by decide, by decide, rfl⟩
  | 6, _ => exact ⟨_, _, rfl, rfl, by decide, by decide, rfl⟩
  | 7, _ => exact ⟨_, _, rfl, rfl, by decide, by decide, rfl⟩
  | 8, _ => exact ⟨_, _, rfl, rfl, by decide, by decide, rfl⟩
  | 9, _ => exact ⟨_, _, rfl, rfl, by decide, by decide, rfl⟩
  | 10, _ => exact ⟨_, _, rfl, rfl, by decide, by decide, rfl⟩
  | 11, _ => exact ⟨_, _, rfl, rfl, by decide, by decide, rfl⟩
theorem pmL_succ (l : List UInt8) (L : List St) (i : Nat) (x d : UInt8) (h : movesL.take (i + 1) = movesL.take i ++ [[x, d]]) : pmL l L (i + 1) = if (mvL l L (x.toNat - 48) (dirIx d.toNat)).isSome = true then pmL l L i ++ [[x, d]] else pmL l L i := by
  unfold pmL
  rw [h, List.filter_append]
  have e : pmOk l L [x, d] = (mvL l L (x.toNat - 48) (dirIx d.toNat)).isSome := rfl
  cases hc : (mvL l L (x.toNat - 48) (dirIx d.toNat)).isSome with
  | false => simp [List.filter, e, hc]
  | true => simp [List.filter, e, hc]
theorem pmL_len (l : List UInt8) (L : List St) (i : Nat) : (pmL l L i).length ≤ 12 := by
  have h1 := List.length_filter_le (pmOk l L) (movesL.take i)
  have h2 : (movesL.take i).length ≤ 12 := by
    rw [List.length_take]
    exact Nat.le_trans (Nat.min_le_right _ _) (by decide)
  exact Nat.le_trans h1 h2
theorem grp_some (r : Option (List St)) : ∃ x y z, grpV r = gV x y z := by
  cases r with
  | none => exact ⟨_, _, _, rfl⟩
  | some M => exact ⟨_, _, _, rfl⟩
/-- What holds in the loop: the group's box, the moves so far. -/
structure PmI (w wr : World) (a b c : St) (acc : Value) (A : List (List UInt8)) : Prop where
  box : IsP wr w.heap.size a b c
  row : wr.ownsRow (w.heap.size + 1) 9 1 acc A.length (strs A)
  below : Below w.heap.size w wr
theorem PmI.to {w wr w0 w1 : World} {a b c : St} {acc : Value} {A : List (List UInt8)} (hb : Below w0.heap.size w0 w1) (h : PmI w wr a b c acc A) (e : w0.heap = wr.heap) (e2 : w0.os = wr.os) (e3 : w0.tape = wr.tape) (e4 : w0.output = wr.output) : PmI w w1 a b c acc A :=
  ⟨isP_to hb h.box e, own_to hb h.row e, below_to hb h.below h.below.size e e2 e3 e4⟩
set_option maxHeartbeats 1600000 in
theorem possible_any (L : List St) (h3 : L.length ≤ 3) (hL : ∀ (i : Nat) (u : St), L[i]? = some u → nearS u) (vm : Value) (bm Br gR : Nat) (s : ByteArray) (w : World) (hs : s.size ≤ 1048576) (hb : isBd s.data.toList = true) (hR : RowsBox w Br gR s) (hM : w.ownsRow bm 9 1 vm 12 (strs movesL)) :
    Calls Tryd.prog 45 #[gV (pdS L 0) (pdS L 1) (pdS L 2), vm, .func (.func 72) #[] #[.pointer (some ⟨Br, 0, none⟩)]] w fun e w' => ∃ v, e = .returned v ∧ w'.ownsRow w.heap.size 9 1 v (pmL s.data.toList L 12).length (strs (pmL s.data.toList L 12)) ∧ Below w.heap.size w w' := by
  obtain ⟨g6, c6, rfl, -, -⟩ := own_form hM (by omega)
  have HMV := hide (fun (k : Nat) (hk : k < 3) (x d : UInt8) (hx : x.toNat = 48 + k) (hd : 0 ≤ dirIx d.toNat) (wx : World) (hRx : RowsBox wx Br gR s) => mv_any L h3 hL k hk x d hx Br gR s wx hs hb hd hRx)
  have HR := hide hR
  have HM := hide hM
  obtain ⟨i0, hi, hz0, hz1, hz2⟩ := info_parts info_strM
  have HI := hide hi
  have HZ0 := hide hz0
  have HZ1 := hide hz1
  have HZ2 := hide hz2
  clear hi hz0 hz1 hz2 hL hR hM
  obtain ⟨a, ha⟩ : ∃ a, a = pdS L 0 := ⟨_, rfl⟩
  obtain ⟨b, hb'⟩ : ∃ b, b = pdS L 1 := ⟨_, rfl⟩
  obtain ⟨c, hc⟩ : ∃ c, c = pdS L 2 := ⟨_, rfl⟩
  have HABC := hide (⟨ha, hb', hc⟩ : a = pdS L 0 ∧ b = pdS L 1 ∧ c = pdS L 2)
  rw [← ha, ← hb', ← hc]
  clear ha hb' hc
  have HT := hide (show PmI w (w.alloc (.cells #[.int .i64 a.x, .int .i64 a.y, .int .i64 a.d.t, .int .i64 a.d.n, .int .i64 a.d.e, .int .i64 a.d.s, .int .i64 a.d.w, .int .i64 a.d.b, .int .i64 b.x, .int .i64 b.y, .int .i64 b.d.t, .int .i64 b.d.n, .int .i64 b.d.e, .int .i64 b.d.s, .int .i64 b.d.w, .int .i64 b.d.b, .int .i64 c.x, .int .i64 c.y, .int .i64 c.d.t, .int .i64 c.d.n, .int .i64 c.d.e, .int .i64 c.d.s, .int .i64 c.d.w, .int .i64 c.d.b] 70)) a b c (.slice none 0 0) (pmL s.data.toList L 0) from ⟨IsP.new, ⟨rfl, .inl ⟨rfl, rfl⟩⟩, (Below.refl _ _).alloc (Nat.le_refl _) _⟩)
  go_enter Tryd.func45, Tryd.ntmps45
  go_wp2
  go_loopw [7, 14] (fun mv i wr => ∃ (k : Nat) (v : Value), k ≤ 12 ∧ i = .int .i64 (k : Int) ∧ v = mv ∧ PmI w wr a b c v (pmL s.data.toList L k)) (fun _ i _ => 12 - (intOf i).toNat)
  case atStart => exact ⟨0, _, by omega, rfl, rfl, HT.out⟩
  case round =>
    obtain ⟨k, v, hk, rfl, rfl, T⟩ := hrel
    clear HT
    by_cases hlt : k < 12
    · have hki : (k : Int) < 12 := by omega
      obtain ⟨x, d, hx, hxn, hd, -, hsucc⟩ := movesL_ix k hlt
      have ck := strs_cell (own_to (w0 := w) T.below HM.out rfl) k _ hx
      have w1q : IntKind.i64.wrap ((k : Int) + 1) = (k : Int) + 1 := IntWalk.i64_in _ (by omega)
      have HMV2 := hide (fun (wx : World) (hRx : RowsBox wx Br gR s) => HMV.out (k / 4) (by omega) x d hxn hd wx hRx)
      have HSUC := hide (show pmL s.data.toList L (k + 1) = _ from pmL_succ s.data.toList L k x d hsucc)
      rw [hxn, Nat.add_sub_cancel_left] at HSUC
      have HT := hide T
      have HP0 := hide T.box
      have hlen := pmL_len s.data.toList L k
      clear hx hxn hd hsucc T
      obtain ⟨r, hr⟩ : ∃ r, r = mvL s.data.toList L (k / 4) (dirIx d.toNat) := ⟨_, rfl⟩
      rw [← hr] at HSUC HMV2
      clear hr
      obtain ⟨n, hn⟩ : ∃ n, n = (pmL s.data.toList L k).length := ⟨_, rfl⟩
      have HN := hide hn
      rw [← hn] at hlen
      clear hn
      go_wp2_with (refine wpList_load_row rfl 70 (.tmp 3) rfl w.heap.size rfl _ _ _ _ HP0.out und_group rfl size_group ?_)
      rw [HABC.out.1, HABC.out.2.1, HABC.out.2.2]
      go_at_call 72
      refine (HMV2.out _ (rowsBox_to (w0 := w) HT.out.below HR.out rfl)).mono ?_
      rintro e w2 ⟨rfl, hb2⟩
      rw [← HABC.out.1, ← HABC.out.2.1, ← HABC.out.2.2]
      have HT2 := hide (HT.out.to hb2 rfl rfl rfl rfl)
      obtain ⟨p, q, u, hpq⟩ := grp_some r
      rw [hpq]
      clear ck hb2 HP0 hpq
      have HPa := hide (IsP.new (w := w2) (a := ⟨0, 0, ⟨0, 0, 0, 0, 0, 0⟩⟩) (b := ⟨0, 0, ⟨0, 0, 0, 0, 0, 0⟩⟩) (c := ⟨0, 0, ⟨0, 0, 0, 0, 0, 0⟩⟩))
      have HSW := hide (World.setRow_alloc_new w2 #[.int .i64 0, .int .i64 0, .int .i64 0, .int .i64 0, .int .i64 0, .int .i64 0, .int .i64 0, .int .i64 0, .int .i64 0, .int .i64 0, .int .i64 0, .int .i64 0, .int .i64 0, .int .i64 0, .int .i64 0, .int .i64 0, .int .i64 0, .int .i64 0, .int .i64 0, .int .i64 0, .int .i64 0, .int .i64 0, .int .i64 0, .int .i64 0] #[.int .i64 p.x, .int .i64 p.y, .int .i64 p.d.t, .int .i64 p.d.n, .int .i64 p.d.e, .int .i64 p.d.s, .int .i64 p.d.w, .int .i64 p.d.b, .int .i64 q.x, .int .i64 q.y, .int .i64 q.d.t, .int .i64 q.d.n, .int .i64 q.d.e, .int .i64 q.d.s, .int .i64 q.d.w, .int .i64 q.d.b, .int .i64 u.x, .int .i64 u.y, .int .i64 u.d.t, .int .i64 u.d.n, .int .i64 u.d.e, .int .i64 u.d.s, .int .i64 u.d.w, .int .i64 u.d.b] 70)
      have HT3 := hide (HT2.out.to (w0 := w2) ((Below.refl _ _).alloc (Nat.le_refl _) (.cells #[.int .i64 p.x, .int .i64 p.y, .int .i64 p.d.t, .int .i64 p.d.n, .int .i64 p.d.e, .int .i64 p.d.s, .int .i64 p.d.w, .int .i64 p.d.b, .int .i64 q.x, .int .i64 q.y, .int .i64 q.d.t, .int .i64 q.d.n, .int .i64 q.d.e, .int .i64 q.d.s, .int .i64 q.d.w, .int .i64 q.d.b, .int .i64 u.x, .int .i64 u.y, .int .i64 u.d.t, .int .i64 u.d.n, .int .i64 u.d.e, .int .i64 u.d.s, .int .i64 u.d.w, .int .i64 u.d.b] 70)) rfl rfl rfl rfl)
      go_upto_region 6 with (refine wpList_store_row rfl 70 (.tmp 10) (.tmp 23) rfl w2.heap.size #[.int .i64 p.x, .int .i64 p.y, .int .i64 p.d.t, .int .i64 p.d.n, .int .i64 p.d.e, .int .i64 p.d.s, .int .i64 p.d.w, .int .i64 p.d.b, .int .i64 q.x, .int .i64 q.y, .int .i64 q.d.t, .int .i64 q.d.n, .int .i64 q.d.e, .int .i64 q.d.s, .int .i64 q.d.w, .int .i64 q.d.b, .int .i64 u.x, .int .i64 u.y, .int .i64 u.d.t, .int .i64 u.d.n, .int .i64 u.d.e, .int .i64 u.d.s, .int .i64 u.d.w, .int .i64 u.d.b] rfl rfl _ _ HPa.out (by kernel_rfl) (by kernel_rfl) (by kernel_rfl) ?_)
      rw [HSW.out]
      generalize w2.alloc (.cells #[.int .i64 p.x, .int .i64 p.y, .int .i64 p.d.t, .int .i64 p.d.n, .int .i64 p.d.e, .int .i64 p.d.s, .int .i64 p.d.w, .int .i64 p.d.b, .int .i64 q.x, .int .i64 q.y, .int .i64 q.d.t, .int .i64 q.d.n, .int .i64 q.d.e, .int .i64 q.d.s, .int .i64 q.d.w, .int .i64 q.d.b, .int .i64 u.x, .int .i64 u.y, .int .i64 u.d.t, .int .i64 u.d.n, .int .i64 u.d.e, .int .i64 u.d.s, .int .i64 u.d.w, .int .i64 u.d.b] 70) = W3 at HT3 ⊢
      clear HSW HPa HT2 HT
      cases hok : r.isSome with
      | false =>
        rw [hok, if_neg (by decide)] at HSUC
        clear hok
        go_wp2
        go_roundw
        case rel => exact ⟨k + 1, _, by omega, by go_num, rfl, by rw [HSUC.out]; exact HT3.out⟩
        case measure => simp [intOf] <;> omega
      | true =>
        rw [hok, if_pos rfl] at HSUC
        clear hok
        have hsz := HT3.out.box.lt
        have hown0 := HT3.out.row
        rw [← HN.out] at hown0
        have HOW := hide hown0
        clear hown0
        go_wp2_with (at_builtin; refine wpList_append_own_at _ rfl _ _ 30 rfl (w.heap.size + 1) 9 i0 (.string ⟨#[]⟩) 1 16 Tryd.underlying30 HI.out HZ0.out HZ1.out HZ2.out rfl (by decide) _ _ _ rfl (HOW.out.alloc _) ⟨_, 0, none⟩ 1 1 [sV [x, d]] rfl rfl (cell_one_newR _ _ _) (by intro u hu; simp only [List.mem_singleton] at hu; subst hu; rfl) (by unfold maxLen; omega) (by omega) (by simp; omega) ?_; intro v' w4 hown hg hnil hblk)
        have HT4 := hide (show PmI w w4 a b c v' (pmL s.data.toList L (k + 1)) from ⟨(hg.block _ (by simp; omega) (fun e => by have := (HOW.out.lt w.heap.size e.symm).1; omega)).trans (HT3.out.box.alloc _), by
          rw [HSUC.out, List.length_append, ← HN.out, strs_snoc]
          exact hown, (HT3.out.below.alloc HT3.out.below.size _).grown hg (by simp; omega) (fun j hj => by have := (HOW.out.lt j hj).1; omega)⟩)
        clear hown hg hnil hblk HOW HT3
        go_wp2
        go_roundw
        case rel => exact ⟨k + 1, _, by omega, by go_num, rfl, HT4.out⟩
        case measure => simp [intOf] <;> omega
    · obtain rfl : k = 12 := by omega
      have HT := hide T
      clear T
      go_wp2
      go_returns
      exact ⟨_, rfl, own_mono HT.out.row (by omega), HT.out.below⟩
end Go.Proofs.YtdndegonpdakkaaDoor
namespace Go.Proofs.YtdndegonpdakkaaDoor
set_option maxRecDepth 100000
set_option linter.all false
open Go.RowKit

/-- What DiceMoves answers. -/
def dmL (l : List UInt8) (L : List St) : List (List UInt8) := if adB l L = true then pmL l L 12 else []
theorem dmL_no {l : List UInt8} {L : List St} (h : adB l L = false) : dmL l L = [] := by unfold dmL; rw [h, if_neg (by decide)]
theorem dmL_yes {l : List UInt8} {L : List St} (h : adB l L = true) : dmL l L = pmL l L 12 := by unfold dmL; rw [h, if_pos rfl]
theorem dmL_len (l : List UInt8) (L : List St) : (dmL l L).length ≤ 12 := by
  unfold dmL
  split
  · exact pmL_len l L 12
  · exact Nat.zero_le _
/-- Beyond the dice no move can be made. -/
theorem pmL_stop (l : List UInt8) (L : List St) : ∀ j, 4 * L.length + j ≤ 12 → pmL l L (4 * L.length + j) = pmL l L (4 * L.length)
  | 0, _ => rfl
  | j + 1, h => by
    obtain ⟨x, d, _, hx, _, _, hs⟩ := movesL_ix (4 * L.length + j) (by omega)
    have e : mvL l L (x.toNat - 48) (dirIx d.toNat) = none := by
      unfold mvL
      rw [List.getElem?_eq_none (by omega)]
    rw [show 4 * L.length + (j + 1) = 4 * L.length + j + 1 from by omega, pmL_succ l L _ x d hs, e, if_neg (by simp)]
    exact pmL_stop l L j (by omega)
theorem pmL_all (l : List UInt8) (L : List St) (h : L.length ≤ 3) : pmL l L 12 = pmL l L (4 * L.length) := by
  have := pmL_stop l L (12 - 4 * L.length) (by omega)
  rwa [show 4 * L.length + (12 - 4 * L.length) = 12 from by omega] at this
/-- A list handed back with a bool. -/
def DmPost (Z : List (List UInt8)) (ok : Bool) (w : World) (e : Ending) (w' : World) : Prop := ∃ v, e = .returned (.tuple #[v, .bool ok]) ∧ w'.ownsRow w.heap.size 9 1 v Z.length (strs Z) ∧ Below w.heap.size w w'
theorem dmPost_no {l : List UInt8} {L : List St} {w w' : World} {e : Ending} (h : adB l L = false) (he : e = .returned (.tuple #[.slice none 0 0, .bool false])) (hb : Below w.heap.size w w') : DmPost (dmL l L) (adB l L) w e w' := by
  rw [dmL_no h, h]
  exact ⟨_, he, ⟨rfl, .inl ⟨rfl, rfl⟩⟩, hb⟩
set_option maxHeartbeats 800000 in
theorem implDM_any (s : ByteArray) (gd : Nat) (L : List St) (n : Nat) (hN : n = L.length) (w : World) (hs : s.size ≤ 1048576) (hg : Glob w) (hD : StAt w gd 0 L) : Calls Tryd.prog 16 #[.string s, .slice (some ⟨gd, 0, none⟩) n n] w (DmPost (dmL s.data.toList L) (adB s.data.toList L) w) := by
  cases h : isBd s.data.toList with
  | false =>
    have H := hide h
    have key : Calls Tryd.prog 16 #[.string s, .slice (some ⟨gd, 0, none⟩) n n] w fun e w' => e = .returned (.tuple #[.slice none 0 0, .bool false]) ∧ Below w.heap.size w w' := by
      clear h hD
      go_enter Tryd.func16, Tryd.ntmps16
      go_wp2_with fail
      refine (rowsUD_bad s _ _ hs hg H.out).mono ?_
      rintro e w1 ⟨rfl, hb1⟩
      go_wp2
      go_returns
      exact ⟨rfl, hb1⟩
    refine key.mono ?_
    rintro e w' ⟨he, hb⟩
    exact dmPost_no (adB_no h) he hb
  | true =>
    cases h2 : tog s.data.toList L with
    | false =>
      have H := hide h
      have H2 := hide h2
      have HN := hide hN
      have HD := hide hD
      have key : Calls Tryd.prog 16 #[.string s, .slice (some ⟨gd, 0, none⟩) n n] w fun e w' => e = .returned (.tuple #[.slice none 0 0, .bool false]) ∧ Below w.heap.size w w' := by
        clear h h2 hN hD
        go_enter Tryd.func16, Tryd.ntmps16
        go_wp2_with fail
        refine (rowsUD_off s gd L n HN.out _ hs hg HD.out H.out H2.out).mono ?_
        rintro e w1 ⟨rfl, hb1⟩
        go_wp2
        go_returns
        exact ⟨rfl, hb1⟩
      refine key.mono ?_
      rintro e w' ⟨he, hb⟩
      exact dmPost_no (adB_off h2) he hb
    | true =>
      obtain ⟨n1, n3, hall⟩ := tog_facts h2
      have HNE := hide (fun (i : Nat) (u : St) (hi : L[i]? = some u) => show nearS u from floor_near h (Bool.and_eq_true_iff.1 (hall i u hi).1).1)
      have HL3 := hide n3
      have H := hide h
      have H2 := hide h2
      have HN := hide hN
      have HD := hide hD
      rw [dmL_yes (adB_on h h2), adB_on h h2]
      clear h h2 hN hD n1 n3 hall
      go_enter Tryd.func16, Tryd.ntmps16
      go_wp2_with fail
      refine (rowsUD_on s gd L n HN.out _ hs hg HD.out H.out H2.out).mono ?_
      rintro e w1 ⟨gR, rfl, hR, q1⟩
      have HR1 := hide hR
      have D1 := hide (stAt_to (w0 := w) q1 HD.out rfl)
      clear hR
      go_wp2_with fail
      refine (groupOf_any L n gd HN.out _ D1.out).mono ?_
      rintro e w2 ⟨rfl, hb2⟩
      have q2 := below_to hb2 q1 q1.size rfl rfl rfl rfl
      have R2 := hide (rowsAt_to hb2 HR1.out rfl)
      clear hb2 q1 D1
      go_wp2_with fail
      refine (allMoves_any _).mono ?_
      rintro e w3 ⟨vm, rfl, hO, hb3⟩
      have q3 := below_to hb3 q2 q2.size rfl rfl rfl rfl
      have R3 := hide (rowsAt_to hb3 R2.out rfl)
      have HO3 := hide hO
      clear hb3 q2 hO
      go_wp2_with fail
      refine (moveOn_any s gR _ R3.out).mono ?_
      rintro e w4 ⟨Br, rfl, hB, hb4⟩
      have q4 := below_to hb4 q3 q3.size rfl rfl rfl rfl
      have HO4 := hide (own_to hb4 HO3.out rfl)
      have HB4 := hide hB
      clear hb4 q3 hB
      go_wp2_with fail
      refine (possible_any L HL3.out HNE.out vm _ Br gR s _ hs H.out HB4.out HO4.out).mono ?_
      rintro e w5 ⟨v, rfl, hO, hb5⟩
      have q5 := hide (below_to hb5 q4 q4.size rfl rfl rfl rfl)
      have HO5 := hide (own_mono hO (show w.heap.size ≤ _ from q4.size))
      clear hb5 hO q4
      go_wp2
      go_returns
      exact ⟨_, rfl, HO5.out, q5.out⟩
/-- A digit's byte. -/
def dgM (x : Int) : UInt8 := UInt8.ofNat (48 + x.toNat)
theorem dgM_nat {x : Int} (h0 : 0 ≤ x) (h9 : x ≤ 9) : ((dgM x).toNat : Int) = 48 + x := by
  unfold dgM
  rw [UInt8.toNat_ofNat']
  omega
theorem diDirsM_any (w : World) : Calls Tryd.prog 69 #[] w fun e w' => e = .returned (.string ⟨#[110, 101, 115, 119]⟩) ∧ w = w' := by
  go_enter Tryd.func69, Tryd.ntmps69
  go_wp2
  go_returns
  exact ⟨rfl, rfl⟩
set_option maxHeartbeats 400000 in
theorem l1Num_smallM (x : Int) (h0 : 0 ≤ x) (h9 : x ≤ 9) (w : World) : Calls Tryd.prog 68 #[.int .i64 x] w fun e w' => e = .returned (.string ⟨#[dgM x]⟩) ∧ Below w.heap.size w w' := by
  have hcv : (convert 48 9 (.slice (some ⟨w.heap.size, 0, none⟩) 1 1)).run Tryd.prog (w.alloc (.cells #[.int .u8 (48 + x)] 5)) = .ok (.string ⟨#[dgM x]⟩) (w.alloc (.cells #[.int .u8 (48 + x)] 5)) := by
    refine run_convert_bytes_back _ _ _ 5 _ 1 [dgM x] Tryd.underlying48 Tryd.underlying5 Tryd.underlying9 (fun j hj => ?_)
    have : j = 0 := by simp at hj; exact hj
    subst this
    rw [show ((⟨w.heap.size, 0, none⟩ : Addr).add 0) = ⟨w.heap.size, 0, none⟩ from rfl, World.cell?_alloc_mark]
    simp [dgM_nat h0 h9]
  have hlt : x < 10 := by omega
  go_enter Tryd.func68, Tryd.ntmps68
  go_wp2
  go_returns
  exact ⟨rfl, (Below.refl _ _).alloc (Nat.le_refl _) _⟩
theorem dirs_at (j : Nat) (h : j < 4) : ∃ d : UInt8, (({ data := #[110, 101, 115, 119] } : ByteArray).extract j (j + 1)) = ⟨#[d]⟩ ∧ ∀ k, k < 3 → movesL[4 * k + j]? = some [UInt8.ofNat (48 + k), d] := by
  match j, h with
  | 0, _ => exact ⟨110, by decide +kernel, by decide +kernel⟩
  | 1, _ => exact ⟨101, by decide +kernel, by decide +kernel⟩
  | 2, _ => exact ⟨115, by decide +kernel, by decide +kernel⟩
  | 3, _ => exact ⟨119, by decide +kernel, by decide +kernel⟩
theorem mySign_any (k j : Nat) (hk : k < 3) (hj : j < 4) (x d : UInt8) (hm : movesL[4 * k + j]? = some [x, d]) (w : World) : Calls Tryd.prog 43 #[.int .i64 (k : Int), .int .i64 (j : Int)] w fun e w' => e = .returned (sV [x, d]) ∧ Below w.heap.size w w' := by
  obtain ⟨d', hd, hall⟩ := dirs_at j hj
  have hxd := Option.some.inj ((hall k hk).symm.trans hm)
  injection hxd with hx hxd
  injection hxd with hdd
  subst hdd
  have HX := hide (show dgM (k : Int) = x from by
    unfold dgM
    rw [Int.toNat_natCast]
    exact hx)
  have HDX := hide hd
  have HCAT := hide (show (⟨#[x]⟩ : ByteArray) ++ ⟨#[d']⟩ = ⟨[x, d'].toArray⟩ from by
    apply ByteArray.ext
    rw [ByteArray.data_append]
    rfl)
  have s1 : (⟨#[x]⟩ : ByteArray).size = 1 := rfl
  have s2 : (⟨#[d']⟩ : ByteArray).size = 1 := rfl
  have hj4 : (j : Int) + 1 ≤ 4 := by omega
  have b1 : (j : Int) ≤ (j : Int) + 1 := by omega
  have b2 : (0 : Int) ≤ (j : Int) + 1 := by omega
  have t1 : ((j : Int) + 1).toNat = j + 1 := by omega
  have w1q : IntKind.i64.wrap ((j : Int) + 1) = (j : Int) + 1 := IntWalk.i64_in _ (by omega)
  clear hd hall hm hx
  go_enter Tryd.func43, Tryd.ntmps43
  go_wp2_with fail
  refine (l1Num_smallM (k : Int) (by omega) (by omega) _).mono ?_
  rintro e w1 ⟨rfl, hb1⟩
  rw [HX.out]
  go_wp2_with fail
  refine (diDirsM_any _).mono ?_
  rintro e w2 ⟨rfl, rfl⟩
  go_upto_region 2 with (fail)
  try rw [HDX.out]
  go_wp2
  go_returns
  exact ⟨by rw [HCAT.out]; rfl, hb1⟩
/-- What holds in the model's loops. -/
structure DmI (w wr : World) (B W H m g cap : Nat) (F : List UInt8) (v : Value) (A : List (List UInt8)) : Prop where
  grid : IsG wr B (W : Int) (H : Int) (.slice (some ⟨g, 0, none⟩) m cap)
  bytes : BytesAt wr g F
  row : wr.ownsRow (B + 1) 9 1 v A.length (strs A)
  below : Below w.heap.size w wr
theorem DmI.to {w wr w0 w1 : World} {B W H m g cap : Nat} {F : List UInt8} {v : Value} {A : List (List UInt8)} (hb : Below w0.heap.size w0 w1) (h : DmI w wr B W H m g cap F v A) (e : w0.heap = wr.heap) (e2 : w0.os = wr.os) (e3 : w0.tape = wr.tape) (e4 : w0.output = wr.output) : DmI w w1 B W H m g cap F v A :=
  ⟨isG_to hb h.grid e, bytesAt_to hb h.bytes e, own_to hb h.row e, below_to hb h.below h.below.size e e2 e3 e4⟩
theorem DmI.app {w wr w' : World} {B W H m g cap : Nat} {F : List UInt8} {v v' u : Value} {A : List (List UInt8)} {x : List UInt8} {t : TypeId} (h : DmI w wr B W H m g cap F v A) (hgB : g < B) (hB : w.heap.size ≤ B) (hO : w'.ownsRow (B + 1) 9 1 v' (A.length + 1) (strs A ++ [sV x])) (hg : (wr.alloc (.cells #[u] t)).grownBy w' v.ownBlock) : DmI w w' B W H m g cap F v' (A ++ [x]) := by
  have hBl := h.grid.lt
  have hne : ∀ j, j < B + 1 → some j ≠ v.ownBlock := fun j hj e => by
    have := (h.row.lt j e.symm).1
    omega
  refine ⟨(h.grid.alloc _).kept hg (hne B (by omega)), ?_, ?_, (h.below.alloc h.below.size _).grown hg (by have := h.below.size; simp; omega) (fun j hj => by have := (h.row.lt j hj).1; omega)⟩
  · obtain ⟨cur, c1, c2⟩ := bytesAt_to (w0 := wr) ((Below.refl wr.heap.size wr).alloc (Nat.le_refl _) (.cells #[u] t)) h.bytes rfl
    exact ⟨cur, (hg.block g (by simp; omega) (hne g (by omega))).trans c1, c2⟩
  · rw [List.length_append, strs_snoc]
    exact hO
set_option maxHeartbeats 1600000 in
theorem specDM_on (s : ByteArray) (gd : Nat) (L : List St) (n : Nat) (hN : n = L.length) (w : World) (hs : s.size ≤ 1048576) (hD : StAt w gd 0 L) (h : isBd s.data.toList = true) (h2 : tog s.data.toList L = true) : Calls Tryd.prog 15 #[.string s, .slice (some ⟨gd, 0, none⟩) n n] w (DmPost (pmL s.data.toList L 12) true w) := by
  obtain ⟨n1, n3, hall⟩ := tog_facts h2
  have HNE := hide (fun (i : Nat) (u : St) (hi : L[i]? = some u) => show nearS u from floor_near h (Bool.and_eq_true_iff.1 (hall i u hi).1).1)
  rw [pmL_all s.data.toList L n3, ← hN]
  have hnn1 : 1 ≤ n := by omega
  have hnn3 : n ≤ 3 := by omega
  have H := hide h
  have H2 := hide h2
  have HN := hide hN
  have HD := hide hD
  obtain ⟨i0, hi, hz0, hz1, hz2⟩ := info_parts info_strM
  have HI := hide hi
  have HZ0 := hide hz0
  have HZ1 := hide hz1
  have HZ2 := hide hz2
  clear hi hz0 hz1 hz2 h h2 hN hD n1 n3 hall
  go_enter Tryd.func15, Tryd.ntmps15
  go_wp2_with fail
  refine (myAsked_in s gd L n HN.out _ hs HD.out H.out).mono ?_
  rintro e w1 ⟨W, Hh, m, g, cap, hG, rfl, hA, hb1⟩
  rw [H2.out]
  have HG := hide hG
  have hgB := hA.lt
  have hB0 := hb1.size
  have HT := hide (show DmI w (w1.alloc (.cells #[.int .i64 (W : Int), .int .i64 (Hh : Int), .slice (some ⟨g, 0, none⟩) m cap] 50)) w1.heap.size W Hh m g cap (splitP s.data.toList).flatten (.slice none 0 0) (pmL s.data.toList L 0) from
    ⟨IsG.new (w := w1) (x := (W : Int)) (y := (Hh : Int)) (v := .slice (some ⟨g, 0, none⟩) m cap), bytesAt_to (w0 := w1) ((Below.refl _ _).alloc (Nat.le_refl _) _) hA rfl, ⟨rfl, .inl ⟨rfl, rfl⟩⟩, hb1.alloc hb1.size (.cells #[.int .i64 (W : Int), .int .i64 (Hh : Int), .slice (some ⟨g, 0, none⟩) m cap] 50)⟩)
  clear hG hA hb1
  obtain ⟨B, hB⟩ : ∃ B, B = w1.heap.size := ⟨_, rfl⟩
  rw [← hB] at HT hgB hB0
  go_upto_region 6 with (fail)
  rw [← hB]
  generalize w1.alloc (.cells #[.int .i64 (W : Int), .int .i64 (Hh : Int), .slice (some ⟨g, 0, none⟩) m cap] 50) = W1 at HT ⊢
  clear hB
  go_loopw [8, 23] (fun mv i wr => ∃ (k : Nat) (v : Value), k ≤ n ∧ i = .int .i64 (k : Int) ∧ v = mv ∧ DmI w wr B W Hh m g cap (splitP s.data.toList).flatten v (pmL s.data.toList L (4 * k))) (fun _ i _ => n - (intOf i).toNat)
  case atStart => exact ⟨0, _, by omega, rfl, rfl, HT.out⟩
  case round =>
    obtain ⟨k, v, hk, rfl, rfl, T⟩ := hrel
    clear HT
    by_cases hlt : k < n
    · have hki : (k : Int) < (n : Int) := by omega
      have hk3 : k < 3 := by omega
      have w1q : IntKind.i64.wrap ((k : Int) + 1) = (k : Int) + 1 := IntWalk.i64_in _ (by omega)
      have HT := hide T
      clear T
      go_upto_region 9 with (fail)
      go_loopw [8, 10] (fun mv i wq => ∃ (j : Nat) (v : Value), j ≤ 4 ∧ i = .int .i64 (j : Int) ∧ v = mv ∧ DmI w wq B W Hh m g cap (splitP s.data.toList).flatten v (pmL s.data.toList L (4 * k + j))) (fun _ i _ => 4 - (intOf i).toNat)
      case atStart => exact ⟨0, _, by omega, rfl, rfl, HT.out⟩
      case round =>
        obtain ⟨j, v, hj, rfl, rfl, T⟩ := hrel
        clear HT
        by_cases hltj : j < 4
        · have hji : (j : Int) < 4 := by omega
          have w2q : IntKind.i64.wrap ((j : Int) + 1) = (j : Int) + 1 := IntWalk.i64_in _ (by omega)
          obtain ⟨x, d, hm, hxn, -, hdj, hsucc⟩ := movesL_ix (4 * k + j) (by omega)
          have HMS := hide hm
          have HSUC := hide (show pmL s.data.toList L (4 * k + j + 1) = _ from pmL_succ s.data.toList L (4 * k + j) x d hsucc)
          rw [show x.toNat - 48 = k from by omega, hdj, show ((4 * k + j) % 4 : Nat) = j from by omega] at HSUC
          clear hm hxn hdj hsucc
          obtain ⟨_, ⟨d0, d1, d2⟩, -⟩ := T.grid.all
          have HT := hide T
          have HAd := hide (show BytesAt _ g (splitP s.data.toList).flatten from T.bytes)
          have HDd := hide (stAt_to (w0 := w) T.below HD.out rfl)
          clear T
          go_wp2_with fail
          refine (myMove_any s.data.toList W Hh m HG.out g cap gd n L n HN.out hnn3 k hlt HNE.out (j : Int) _ HAd.out HDd.out).mono ?_
          rintro e w2 ⟨vv, rfl, -, -, hb2⟩
          have HT2 := hide (HT.out.to hb2 rfl rfl rfl rfl)
          clear d0 d1 d2 hb2 HAd HDd HT
          cases hok : (mvL s.data.toList L k (j : Int)).isSome with
          | false =>
            rw [hok, if_neg (by decide)] at HSUC
            clear hok
            go_wp2
            go_roundw
            case rel => exact ⟨j + 1, _, by omega, by go_num, rfl, by rw [show 4 * k + (j + 1) = 4 * k + j + 1 from by omega, HSUC.out]; exact HT2.out⟩
            case measure => simp [intOf] <;> omega
          | true =>
            rw [hok, if_pos rfl] at HSUC
            clear hok
            go_wp2_with fail
            refine (mySign_any k j hk3 hltj x d HMS.out _).mono ?_
            rintro e w3 ⟨rfl, hb3⟩
            have HT3 := hide (HT2.out.to hb3 rfl rfl rfl rfl)
            clear hb3 HT2
            have hsz := HT3.out.grid.lt
            have hlen := pmL_len s.data.toList L (4 * k + j)
            obtain ⟨q, hq⟩ : ∃ q, q = (pmL s.data.toList L (4 * k + j)).length := ⟨_, rfl⟩
            have HQ := hide hq
            rw [← hq] at hlen
            clear hq
            have hown0 := HT3.out.row
            rw [← HQ.out] at hown0
            have HOW := hide hown0
            clear hown0
            go_wp2_with (at_builtin; refine wpList_append_own_at _ rfl _ _ 30 rfl (B + 1) 9 i0 (.string ⟨#[]⟩) 1 16 Tryd.underlying30 HI.out HZ0.out HZ1.out HZ2.out rfl (by decide) _ _ _ rfl (HOW.out.alloc _) ⟨_, 0, none⟩ 1 1 [sV [x, d]] rfl rfl (cell_one_newR _ _ _) (by intro u hu; simp only [List.mem_singleton] at hu; subst hu; rfl) (by unfold maxLen; omega) (by omega) (by simp; omega) ?_; intro v' w4 hown hg hnil hblk)
            rw [HQ.out] at hown
            have HT4 := hide (HT3.out.app (x := [x, d]) hgB hB0 hown hg)
            rw [← HSUC.out] at HT4
            clear hown hg hnil hblk HOW HT3
            go_wp2
            go_roundw
            case rel => exact ⟨j + 1, _, by omega, by go_num, rfl, HT4.out⟩
            case measure => simp [intOf] <;> omega
        · obtain rfl : j = 4 := by omega
          have HT := hide T
          clear T
          go_wp2
          go_roundw
          case rel => exact ⟨k + 1, _, by omega, by go_num, rfl, HT.out⟩
          case measure => simp [intOf] <;> omega
    · obtain rfl : k = n := by omega
      have HT := hide T
      clear T
      go_wp2
      go_returns
      exact ⟨_, rfl, own_mono HT.out.row (by omega), HT.out.below⟩
theorem specDM_any (s : ByteArray) (gd : Nat) (L : List St) (n : Nat) (hN : n = L.length) (w : World) (hs : s.size ≤ 1048576) (hD : StAt w gd 0 L) : Calls Tryd.prog 15 #[.string s, .slice (some ⟨gd, 0, none⟩) n n] w (DmPost (dmL s.data.toList L) (adB s.data.toList L) w) := by
  cases h : isBd s.data.toList with
  | false =>
    have H := hide h
    have key : Calls Tryd.prog 15 #[.string s, .slice (some ⟨gd, 0, none⟩) n n] w fun e w' => e = .returned (.tuple #[.slice none 0 0, .bool false]) ∧ Below w.heap.size w w' := by
      clear h hD
      go_enter Tryd.func15, Tryd.ntmps15
      go_wp2_with fail
      refine (myAsked_bad s _ _ hs H.out).mono ?_
      rintro e w1 ⟨rfl, hb1⟩
      have q1 := hb1.alloc hb1.size (.cells #[.int .i64 0, .int .i64 0, .slice none 0 0] 50)
      go_wp2
      go_returns
      exact ⟨rfl, q1⟩
    refine key.mono ?_
    rintro e w' ⟨he, hb⟩
    exact dmPost_no (adB_no h) he hb
  | true =>
    cases h2 : tog s.data.toList L with
    | false =>
      have H := hide h
      have H2 := hide h2
      have HN := hide hN
      have HD := hide hD
      have key : Calls Tryd.prog 15 #[.string s, .slice (some ⟨gd, 0, none⟩) n n] w fun e w' => e = .returned (.tuple #[.slice none 0 0, .bool false]) ∧ Below w.heap.size w w' := by
        clear h h2 hN hD
        go_enter Tryd.func15, Tryd.ntmps15
        go_wp2_with fail
        refine (myAsked_in s gd L n HN.out _ hs HD.out H.out).mono ?_
        rintro e w1 ⟨W, Hh, m, g, cap, hG, rfl, hA, hb1⟩
        rw [H2.out]
        have q1 := hb1.alloc hb1.size (.cells #[.int .i64 (W : Int), .int .i64 (Hh : Int), .slice (some ⟨g, 0, none⟩) m cap] 50)
        clear hG hA hb1
        go_wp2
        go_returns
        exact ⟨rfl, q1⟩
      refine key.mono ?_
      rintro e w' ⟨he, hb⟩
      exact dmPost_no (adB_off h2) he hb
    | true =>
      rw [dmL_yes (adB_on h h2), adB_on h h2]
      exact specDM_on s gd L n hN w hs hD h h2
end Go.Proofs.YtdndegonpdakkaaDoor
