/- nextChoice over an array, with sizes that are all one number; slices.Repeat of one number. -/
import Derived.Test.YtjikpkembcnfnaaDoorArr
import Derived.Test.YtjikpkembcnfnaaDoorSS
import Derived.Test.YtjikpkembcnfnaaDoorShelf
import Derived.Test.YtjikpkembcnfnaaDoorCycS
import Derived.Laws.CopyOwn
import Derived.Deep.RegionLaw
import Derived.Deep.RegionHeld3
namespace Go.Proofs.YtjikpkembcnfnaaDoor
set_option maxRecDepth 100000
set_option linter.all false
open Go.RowKit

theorem kept_drew {o : Option Nat} {w w1 : World} (h : Kept o w w1) : Kept o w w1.drew := ⟨h.os, h.tape, h.output, h.size, h.block⟩
/-- The next choice: the last place that can go on does so, those behind it begin anew. -/
def nxtk (k : Int) : List Int → Nat → Bool × List Int
  | X, 0 => (false, X)
  | X, p + 1 => if X.getD p 0 + 1 < k then (true, X.set p (X.getD p 0 + 1)) else nxtk k (X.set p 0) p
/-- Six digits of a number to a base. -/
def choiceK (k c : Nat) : List Int := (List.range 6).map (fun i => ((c / k ^ (5 - i) % k : Nat) : Int))
theorem nxtk_choice : ∀ k ∈ [1, 2, 3], ∀ c ∈ List.range (k ^ 6), nxtk (k : Int) (choiceK k c) 6 = (decide (c + 1 < k ^ 6), choiceK k (c + 1)) := by decide +kernel
theorem choiceK_len (k c : Nat) : (choiceK k c).length = 6 := by simp [choiceK]
theorem choiceK_bd {k : Nat} (hk : 0 < k) (c : Nat) : ∀ x ∈ choiceK k c, 0 ≤ x ∧ x ≤ (k : Int) := by
  intro x hx
  simp only [choiceK, List.mem_map] at hx
  obtain ⟨i, _, rfl⟩ := hx
  have := Nat.mod_lt (c / k ^ (5 - i)) hk
  omega
set_option maxHeartbeats 1600000 in
theorem nextChoiceK_any (k : Int) (hk : 1 ≤ k ∧ k ≤ 100) (gc cc gs cs n : Nat) (Bs : Nat) (ty : TypeId) (ch : List Int) (w : World) (hn : ch.length = n) (h4 : n ≤ 6) (hlo : ∀ x ∈ ch, 0 ≤ x ∧ x ≤ k) (hC : IsA w gc ch ty) (hS : w.ownsRow Bs 3 1 (.slice (some ⟨gs, 0, none⟩) n cs) n (ints (List.replicate n k))) (hne : gs ≠ gc) :
    Calls Tryd.prog 50 #[.slice (some ⟨gc, 0, none⟩) n cc, .slice (some ⟨gs, 0, none⟩) n cs, .int .i64 ((n : Int) - 1)] w fun e w' => e = .returned (.bool (nxtk k ch n).1) ∧ IsA w' gc (nxtk k ch n).2 ty ∧ Kept (some gc) w w' := by
  have HC := hide hC
  have HS := hide hS
  have HLO := hide hlo
  have HCN := hide hn
  have h4i : (n : Int) ≤ 6 := by omega
  clear hC hS hn hlo
  obtain ⟨R, hR⟩ : ∃ R, R = nxtk k ch n := ⟨_, rfl⟩
  have HR := hide hR
  rw [← hR]
  clear hR
  go_enter Tryd.func50, Tryd.ntmps50
  go_wp2
  go_loopw [2] (fun pv wr => ∃ (p : Nat) (X : List Int), p ≤ n ∧ pv = .int .i64 ((p : Int) - 1) ∧ X.length = n ∧ (∀ x ∈ X, 0 ≤ x ∧ x ≤ k) ∧ nxtk k X p = R ∧ IsA wr gc X ty ∧ wr.ownsRow Bs 3 1 (.slice (some ⟨gs, 0, none⟩) n cs) n (ints (List.replicate n k)) ∧ Kept (some gc) w wr) (fun pv _ => (intOf pv + 1).toNat)
  case atStart => exact ⟨n, ch, Nat.le_refl _, rfl, HCN.out, HLO.out, HR.out.symm, HC.out, HS.out, Kept.refl _ _⟩
  case round =>
    obtain ⟨p, X, hp, rfl, hXl, hX, hXR, C, S, q⟩ := hrel
    clear HC HS HLO HCN
    by_cases hp0 : 0 < p
    · obtain ⟨j, rfl⟩ : ∃ j, p = j + 1 := ⟨p - 1, by omega⟩
      have hpi : (((j + 1 : Nat) : Int) - 1) = (j : Int) := by omega
      rw [hpi]
      have hjn : (j : Int) < (n : Int) := by omega
      have hj0 : (0 : Int) ≤ (j : Int) := by omega
      have hXj : X[j]? = some (X.getD j 0) := by
        have : j < X.length := by omega
        rw [List.getD_eq_getElem?_getD, List.getElem?_eq_getElem this]
        rfl
      have hxb := hX _ (List.mem_of_getElem? hXj)
      unfold nxtk at hXR
      have cX := (C.cell hXj).1
      have fX := (C.cell hXj).2
      have cS := ints_cell S j k (by rw [List.getElem?_replicate, if_pos (by omega)])
      generalize X.getD j 0 = x at hXj hxb hXR cX
      have HC1 := hide (C.set j (by omega) (x + 1))
      have HS1 := hide (ownsRow_setCell_other S (a := ⟨gc, j, none⟩) (fun h => hne (by have : gs = gc := Option.some.inj h; exact this)) (.int .i64 (x + 1)))
      have HQ1 := hide (q.set j (.int .i64 (x + 1)))
      have hXs : ∀ y, 0 ≤ y ∧ y ≤ k → ∀ z ∈ X.set j y, 0 ≤ z ∧ z ≤ k := fun y hy z hz => by
        rcases List.mem_or_eq_of_mem_set hz with h | h
        · exact hX z h
        · rw [h]; exact hy
      have HXS := hide hXs
      clear S q hX hXs
      go_upto_region 4 with (fail)
      clear cX fX
      generalize wr.setCell ⟨gc, j, none⟩ (.int .i64 (x + 1)) = W1 at HC1 HS1 HQ1 ⊢
      have c1 := (HC1.out.cell (j := j) (x := x + 1) (by rw [List.getElem?_set, if_pos rfl, if_pos (by omega)])).1
      have c2 := ints_cell HS1.out j k (by rw [List.getElem?_replicate, if_pos (by omega)])
      clear cS
      by_cases hlt : x + 1 < k
      · rw [if_pos hlt] at hXR
        have HXR := hide hXR
        clear hXR C
        go_region_held3 (fun w' => w'.cell? ⟨gc, j, none⟩ = some (.int .i64 (x + 1)) ∧ w'.cell? ⟨gs, j, none⟩ = some (.int .i64 k)) (first | (refine ⟨?_, ?_⟩ <;> with_reducible assumption) | (refine ⟨?_, ?_⟩ <;> assumption)) (fail)
        go_wp2
        go_returns
        exact ⟨by rw [← HXR.out]; rfl, by rw [← HXR.out]; exact HC1.out, kept_drew HQ1.out⟩
      · rw [if_neg hlt] at hXR
        have HXR := hide hXR
        have HC2 := hide (HC1.out.set j (by rw [List.length_set]; omega) 0)
        rw [List.set_set] at HC2
        have HS2 := hide (ownsRow_setCell_other HS1.out (a := ⟨gc, j, none⟩) (fun h => hne (by have : gs = gc := Option.some.inj h; exact this)) (.int .i64 0))
        have HQ2 := hide (HQ1.out.set j (.int .i64 0))
        have fX2 := (HC1.out.cell (j := j) (x := x + 1) (by rw [List.getElem?_set, if_pos rfl, if_pos (by omega)])).2
        clear hXR C
        go_region_held3 (fun w' => w'.cell? ⟨gc, j, none⟩ = some (.int .i64 (x + 1)) ∧ w'.cell? ⟨gs, j, none⟩ = some (.int .i64 k)) (first | (refine ⟨?_, ?_⟩ <;> with_reducible assumption) | (refine ⟨?_, ?_⟩ <;> assumption)) (fail)
        go_wp2
        go_roundw
        case rel => exact ⟨j, X.set j 0, by omega, by first | rfl | (rw [IntWalk.wrap64_in ((j : Int) - 1) (by omega)]), by rw [List.length_set]; exact hXl, HXS.out 0 (by omega), HXR.out, HC2.out, HS2.out, kept_drew HQ2.out⟩
        case measure =>
          have hw3 := IntWalk.wrap64_in ((j : Int) - 1) (by omega)
          simp [intOf, hw3]
          try omega
    · obtain rfl : p = 0 := by omega
      have hz : (((0 : Nat) : Int) - 1) = -1 := rfl
      rw [hz]
      have HXR := hide (show (false, X) = R from hXR)
      have HC := hide C
      clear hXR C S hX
      go_wp2
      go_returns
      exact ⟨by rw [← HXR.out]; rfl, by rw [← HXR.out]; exact HC.out, q⟩
theorem own_block {w : World} {B g n : Nat} {e : TypeId} {xs : List Value} (h : w.ownsRow B e 1 (.slice (some ⟨g, 0, none⟩) n n) n xs) : w.heap[g]? = some (.cells xs.toArray e (0, 0)) := by
  obtain ⟨hl, h2⟩ := h
  rcases h2 with ⟨h0, _⟩ | ⟨g', cap', cur, hv, hb, hg, hn, hm, hs, ht⟩
  · cases h0
  · cases hv
    have : cur.toList = xs := by
      rw [← ht, List.take_of_length_le (by simp; omega)]
    rw [hg, ← this]
theorem own_of_block {w : World} {B g n : Nat} {e : TypeId} {xs : List Value} (h : w.heap[g]? = some (.cells xs.toArray e (0, 0))) (hl : xs.length = n) (hB : B ≤ g) (hm : n ≤ maxLen) : w.ownsRow B e 1 (.slice (some ⟨g, 0, none⟩) n n) n xs :=
  ⟨by omega, .inr ⟨g, n, xs.toArray, rfl, hB, h, Nat.le_refl _, hm, by simp [hl], List.take_of_length_le (by simp; omega)⟩⟩
/-- k times one number, then zeros. -/
def rep (t : Int) (k n : Nat) : List Int := List.replicate k t ++ List.replicate (n - k) 0
theorem rep_len (t : Int) (k n : Nat) (h : k ≤ n) : (rep t k n).length = n := by simp [rep]; omega
theorem rep_done (t : Int) (n : Nat) : rep t n n = List.replicate n t := by simp [rep]
theorem splice_rep (t : Int) (n k m : Nat) (h : k + m ≤ n) : splice (ints (rep t k n)) k (ints (List.replicate m t)) = ints (rep t (k + m) n) := by
  unfold splice rep ints
  simp only [List.map_append, List.map_replicate, List.length_replicate]
  rw [List.take_append_of_le_length (by simp), List.take_of_length_le (by simp), List.drop_append, List.drop_of_length_le (by simp)]
  simp only [List.length_replicate, List.nil_append, List.drop_replicate]
  rw [← List.append_assoc, List.replicate_append_replicate]
  congr 2
  omega
theorem made_rep (t : Int) (n : Nat) (h : n ∈ List.range 7) : (madeCells (Value.int .i64 0).cells (n * 1)).toList = ints (rep t 0 n) := by
  have hc : (Value.int IntKind.i64 0).cells = #[Value.int .i64 0] := rfl
  simp only [List.mem_range] at h
  have : n = 0 ∨ n = 1 ∨ n = 2 ∨ n = 3 ∨ n = 4 ∨ n = 5 ∨ n = 6 := by omega
  rcases this with rfl | rfl | rfl | rfl | rfl | rfl | rfl <;> simp [madeCells, hc, List.range_succ, ints, rep]
theorem copy_rep (t : Int) (w : World) (g n k m dLen dCap sLen sCap : Nat) (a : Addr) (hd : dLen = n - k) (hg : w.heap[g]? = some (.cells (ints (rep t k n)).toArray 3 (0, 0))) (hk : k + m ≤ n) (hm : m = min sLen (n - k)) (hsrc : ∀ j, j < m → w.cell? (a.add j) = some (.int .i64 t)) :
    (Builtin.copy_ #[45, 45] 3 #[.slice (some ⟨g, k, none⟩) dLen dCap, .slice (some a) sLen sCap]).run Tryd.prog w = .ok (.int .i64 (m : Int)) (w.setRow g (ints (rep t (k + m) n)).toArray) := by
  subst hd
  have hsz1 : (Tryd.prog.info? 3).map (·.size) = some 1 := by kernel_rfl
  have hl : (ints (List.replicate m t)).length = m := by rw [ints_len, List.length_replicate]
  have h := run_copy_row (P := Tryd.prog) w 45 45 3 3 g k (n - k) dCap a sLen sCap (ints (rep t k n)).toArray 3 (ints (List.replicate m t)) Tryd.underlying45 hsz1 hg (by rw [hl]; exact hm) (fun j v hv => by
    have hj : j < m := by
      have := (List.getElem?_eq_some_iff.1 hv).1
      rw [hl] at this
      exact this
    rw [hsrc j hj]
    simp only [ints, List.map_replicate, List.getElem?_replicate, if_pos hj] at hv
    exact hv) (by rw [hl]; simp [ints, rep]; omega) (by intro v hv; simp only [ints, List.mem_map] at hv; obtain ⟨x, _, rfl⟩ := hv; rfl)
  have hs := splice_rep t n k m hk
  unfold splice at hs
  rw [hl] at h hs
  simp only [List.toList_toArray] at h
  rw [List.append_assoc] at h
  rw [hs] at h
  exact h
theorem cell_three {t : Int} {w : World} {gx : Nat} (hx : w.heap[gx]? = some (.cells #[.int .i64 t] 3 (0, 0))) : ∀ j, j < 1 → w.cell? ((⟨gx, 0, none⟩ : Addr).add j) = some (.int .i64 t) := by
  intro j hj
  have h0 : j = 0 := by omega
  subst h0
  have e : (⟨gx, 0, none⟩ : Addr).add 0 = ⟨gx, 0, none⟩ := rfl
  rw [e]
  simp [World.cell?, hx]
/-- copy, its run known, as one step of a region that draws. -/
theorem step_copy {P : Program} {ops : Array Oper} {o : Oper} {a : Act} {w w' : World} {K : Act → World → Prop} {Q : Exit → Act → World → Prop} {E : Prop} (hg : o.guard = none) (s x : Operand) (ts : Array TypeId) (hop : o.op = Op.call { callee := Callee.builtin Builtin.copy, args := #[s, x], argTypes := ts }) (v1 v2 v : Value) (hs : a.eval s = v1) (hx : a.eval x = v2) (hr : (Builtin.copy_ ts o.type #[v1, v2]).run P w = .ok v w') (hK : K (a.put o.dst v) w') : if Region.wanted o (yielded ops a.tmps) = true then Oper.wp P o a w K Q else E := by
  have hw : Region.wanted o (yielded ops a.tmps) = true := by simp [Region.wanted, hg]
  rw [if_pos hw]
  unfold Oper.wp
  simp [execOp, hop, resolve, invoke, builtin, hs, hx, hr, Result.andThen]
  exact hK
set_option maxHeartbeats 1600000 in
theorem repeat_any (t : Int) (gx n : Nat) (w : World) (h1 : 1 ≤ n) (h4 : n ≤ 6) (hx : w.heap[gx]? = some (.cells #[.int .i64 t] 3 (0, 0))) : Calls Tryd.prog 49 #[.slice (some ⟨gx, 0, none⟩) 1 1, .int .i64 (n : Int)] w fun e w' => ∃ g, e = .returned (.slice (some ⟨g, 0, none⟩) n n) ∧ w.heap.size ≤ g ∧ w'.ownsRow w.heap.size 3 1 (.slice (some ⟨g, 0, none⟩) n n) n (ints (List.replicate n t)) ∧ Below w.heap.size w w' := by
  obtain ⟨i0, hi, hz0, hz1, hz2⟩ := info_parts info_intI
  have HI := hide hi
  have HZ0 := hide hz0
  have HZ1 := hide hz1
  have HZ2 := hide hz2
  clear hi hz0 hz1 hz2
  have hsz1 : (Tryd.prog.info? 3).map (·.size) = some 1 := by kernel_rfl
  have HSZ := hide hsz1
  have HX := hide hx
  have hgx := lt_of_block hx
  have hni : (n : Int) ≤ 6 := by omega
  have hn1 : (1 : Int) ≤ (n : Int) := by omega
  have hMR := made_rep t n (List.mem_range.2 (by omega))
  have hcn : IntKind.u64.wrap (n : Int) = (n : Int) := by simp [IntKind.wrap, IntKind.signed, IntKind.bits]; omega
  have hcm : IntKind.i64.wrap (n : Int) = (n : Int) := IntWalk.i64_in _ (by omega)
  have HBM := hide (fun W => Tryd.bits_Mul 1 n (by decide) (by omega) W)
  have hdiv : ((1 * n / 18446744073709551616 : Nat) : Int) = 0 := by omega
  have hmod : ((1 * n % 18446744073709551616 : Nat) : Int) = (n : Int) := by omega
  simp only [hdiv, hmod] at HBM
  clear hx hsz1 hdiv hmod
  go_enter Tryd.func49, Tryd.ntmps49
  go_wp2_with fail
  refine (HBM.out _).mono ?_
  rintro e w1 ⟨rfl, rfl⟩
  go_wp2_with (at_make; refine wpList_make_full _ rfl _ _ 45 rfl w1.heap.size 3 i0 (.int .i64 0) 1 Tryd.underlying45 HI.out HZ0.out HZ1.out .i64 .i64 _ _ n rfl rfl (by omega) (by omega) (by rw [HZ2.out]; omega) (by unfold maxLen; omega) (Nat.le_refl _) ?_; intro w2 O2 g2; rw [hMR] at O2; have hg2 := own_block O2; have q2 : Below w1.heap.size w1 w2 := (Below.refl _ _).grown g2 (Nat.le_refl _) (fun j hj => by cases hj); have hx2 := (g2.block gx hgx (by simp)).trans HX.out; have hr := copy_rep t w2 w1.heap.size n 0 1 n n 1 1 ⟨gx, 0, none⟩ rfl hg2 (by omega) (by omega) (cell_three hx2); have HG3 := hide (setRow_heap w2 w1.heap.size _ (ints (rep t (0 + 1) n)).toArray _ _ hg2); have HQ3 := hide (below_setRow q2 (Nat.le_refl _) (ints (rep t (0 + 1) n)).toArray); clear O2 g2 hg2 q2 hx2)
  clear hr
  generalize w2.setRow w1.heap.size _ = w3 at HG3 HQ3 ⊢
  go_wp2
  go_loopw [8] (fun kv wr => ∃ k : Nat, 1 ≤ k ∧ k ≤ n ∧ kv = .int .i64 (k : Int) ∧ wr.heap[w1.heap.size]? = some (.cells (ints (rep t k n)).toArray 3 (0, 0)) ∧ Below w1.heap.size w1 wr) (fun kv _ => n - (intOf kv).toNat)
  case atStart => exact ⟨1, Nat.le_refl _, h1, rfl, HG3.out, HQ3.out⟩
  case round =>
    obtain ⟨k, hk1, hk, rfl, hg, q⟩ := hrel
    clear HG3 HQ3
    by_cases hlt : k < n
    · have hki : (k : Int) < (n : Int) := by omega
      have hk0 : (0 : Int) ≤ (k : Int) := by omega
      have hs1 : ∀ wx : World, (Instr.slice 45 (.slice (some ⟨w1.heap.size, 0, none⟩) n n) (some (.int .i64 (k : Int))) none none).run Tryd.prog wx = .ok (.slice (some ⟨w1.heap.size, k, none⟩) (n - k) (n - k)) wx := fun wx => by
        have := run_hiI w1.heap.size n n k (by omega) (Nat.le_refl _) wx
        rw [if_neg (by omega)] at this
        exact this
      have hs2 := fun wx => run_loI w1.heap.size n n k (by omega) (by omega) wx
      obtain ⟨m, hm⟩ : ∃ m, m = min k (n - k) := ⟨_, rfl⟩
      have hm1 : 1 ≤ m := by omega
      have hkm : k + m ≤ n := by omega
      have hmi : (k : Int) + (m : Int) ≤ (n : Int) := by omega
      have hr := copy_rep t wr.drew w1.heap.size n k m (n - k) (n - k) k n ⟨w1.heap.size, 0, none⟩ rfl hg hkm hm (fun j hj => by
        have e : (⟨w1.heap.size, 0, none⟩ : Addr).add j = ⟨w1.heap.size, j, none⟩ := by unfold Addr.add; split <;> simp_all
        rw [e]
        have hg' : wr.drew.heap[w1.heap.size]? = some (.cells (ints (rep t k n)).toArray 3 (0, 0)) := hg
        have hj2 : (ints (rep t k n))[j]? = some (.int .i64 t) := by
          unfold ints rep
          rw [List.getElem?_map, List.getElem?_append_left (by simp; omega), List.getElem?_replicate, if_pos (by omega)]
          rfl
        simp [World.cell?, hg', hj2])
      have HG4 := hide (setRow_heap wr.drew w1.heap.size _ (ints (rep t (k + m) n)).toArray _ _ hg)
      have HQ4 := hide (below_setRow q.drew (Nat.le_refl _) (ints (rep t (k + m) n)).toArray)
      have HM := hide hm
      clear hg q hm
      go_upto_region 9 with (fail)
      go_region_law (refine step_copy (by rfl) _ _ #[45, 45] (by rfl) (.slice (some ⟨w1.heap.size, k, none⟩) (n - k) (n - k)) (.slice (some ⟨w1.heap.size, 0, none⟩) k n) (.int .i64 (m : Int)) (by go_simp) (by go_simp) hr ?_)
      simp only [List.getElem_toArray, List.getElem_cons_succ, List.getElem_cons_zero]
      simp only [Act.put, List.setIfInBounds_toArray, List.set_cons_zero, List.set_cons_succ]
      have hwm : IntKind.i64.wrap ((k : Int) + (m : Int)) = (((k + m : Nat)) : Int) := by rw [IntWalk.i64_in _ (by omega)]; omega
      rw [hwm]
      try go_wp2
      go_roundw
      case rel => exact ⟨k + m, by omega, hkm, rfl, HG4.out, HQ4.out⟩
      case measure =>
        simp [intOf]
        try omega
    · obtain rfl : k = n := by omega
      rw [rep_done] at hg
      have HO := hide (own_of_block (B := w1.heap.size) hg (by rw [ints_len, List.length_replicate]) (Nat.le_refl _) (by unfold maxLen; omega))
      clear hg
      go_wp2
      go_returns
      exact ⟨_, rfl, Nat.le_refl _, HO.out, q⟩
end Go.Proofs.YtjikpkembcnfnaaDoor
