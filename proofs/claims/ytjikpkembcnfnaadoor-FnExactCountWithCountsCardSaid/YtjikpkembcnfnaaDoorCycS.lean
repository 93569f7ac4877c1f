/- The contract of the model's cycles: clCycles of the unit die, rolled. -/
import Derived.Test.YtjikpkembcnfnaaDoorCycI
import Derived.Test.YtjikpkembcnfnaaDoorGood
namespace Go.Proofs.YtjikpkembcnfnaaDoor
set_option maxRecDepth 100000
set_option linter.all false
open Go.RowKit

theorem info_boolC : (Tryd.prog.info? 4).map (fun i => (i.zero, i.size, i.bytes)) = some (some (.bool false), 1, 1) := by kernel_rfl
theorem bools_cell {w : World} {B g n cap : Nat} {s : List Bool} (h : w.ownsRow B 4 1 (.slice (some ⟨g, 0, none⟩) n cap) n (s.map Value.bool)) (j : Nat) (hj : j < s.length) : w.cell? ⟨g, j, none⟩ = some (.bool (s.getD j true)) := by
  have hl := h.1
  have hl2 : s.length = n := by simpa using hl
  rw [h.cellAt j (by omega)]
  simp [hj]
/-- A copy of a row of integers. -/
theorem l1Own_any (g k c : Nat) (L : List Int) (w : World) (hk : L.length = k) (h7 : k ≤ 1000000) (hc : ∀ j u, (ints L)[j]? = some u → w.cell? ((⟨g, 0, none⟩ : Addr).add j) = some u) : Calls Tryd.prog 70 #[.slice (some ⟨g, 0, none⟩) k c] w fun e w' => ∃ v, e = .returned v ∧ w'.ownsRow w.heap.size 3 1 v k (ints L) ∧ Below w.heap.size w w' := by
  obtain ⟨i0, hi, hz0, hz1, hz2⟩ := info_parts info_intI
  have HI := hide hi
  have HZ0 := hide hz0
  have HZ1 := hide hz1
  have HZ2 := hide hz2
  clear hi hz0 hz1 hz2
  have HC := hide hc
  have hg : k = 0 ∨ g < w.heap.size := by
    rcases Nat.eq_zero_or_pos k with h | h
    · exact .inl h
    · have := hc 0 _ (by rw [List.getElem?_eq_getElem (by rw [ints_len]; omega)])
      exact .inr (World.block_lt_of_cell? w _ this)
  clear hc
  have HE := hide (World.ownsRow_made (base := w.heap.size) (e := 3) (size := 1) w #[] 0 (Nat.le_refl _) (by unfold maxLen; omega) rfl)
  have HC1 := hide (show ∀ j u, (ints L)[j]? = some u → (w.alloc (.cells #[] 3)).cell? ((⟨g, 0, none⟩ : Addr).add j) = some u from by
    intro j u hju
    rw [← HC.out j u hju]
    apply World.cell?_of_block
    have hb : ((⟨g, 0, none⟩ : Addr).add j).block = g := by unfold Addr.add; split <;> rfl
    rw [hb]
    have hkp : 0 < k := by
      have := (List.getElem?_eq_some_iff.1 hju).1
      rw [ints_len] at this
      omega
    exact Below.heap_alloc w _ g (by omega))
  have HLK := hide (show (ints L).length = k * 1 from by rw [ints_len, hk, Nat.mul_one])
  have HON := hide (show ∀ u ∈ ints L, u.oneCell' = true from by intro u hu; simp only [ints, List.mem_map] at hu; obtain ⟨x, _, rfl⟩ := hu; rfl)
  clear hk hg HC
  go_enter Tryd.func70, Tryd.ntmps70
  go_wp2_with (at_builtin; go_loud (refine wpList_append_own _ rfl _ _ 45 rfl w.heap.size 3 i0 (.int .i64 0) 1 8 Tryd.underlying45 HI.out HZ0.out HZ1.out HZ2.out rfl (by decide) _ 0 [] rfl HE.out ⟨g, 0, none⟩ k c (ints L) rfl HLK.out HC1.out HON.out (by unfold maxLen; omega) (by omega) (by simp) ?_); intro v' w4 hown hgr hnil)
  have q4 : Below w.heap.size w w4 := ((Below.refl _ w).alloc (Nat.le_refl _) _).grown hgr (by simp) (fun j hj => by have : w.heap.size = j := Option.some.inj hj; omega)
  have HO := hide hown
  clear hown hgr hnil
  go_wp2
  go_returns
  exact ⟨_, rfl, by simpa using HO.out, q4⟩
theorem l1Own_nil (w : World) : Calls Tryd.prog 70 #[.slice none 0 0] w fun e w' => ∃ v, e = .returned v ∧ w'.ownsRow w.heap.size 3 1 v 0 (ints []) ∧ Below w.heap.size w w' := by
  obtain ⟨i0, hi, hz0, hz1, hz2⟩ := info_parts info_intI
  have HI := hide hi
  clear hi hz0 hz1 hz2
  go_enter Tryd.func70, Tryd.ntmps70
  go_wp2
  go_returns
  exact ⟨_, rfl, World.ownsRow_made (base := w.heap.size) (e := 3) (size := 1) w #[] 0 (Nat.le_refl _) (by unfold maxLen; omega) rfl, by go_grown⟩
theorem run_append_nothingI {P : Program} (w : World) (t ty e : TypeId) (i : TypeInfo) (ht : P.underlying t = some (.slice e)) (hi : P.info? e = some i) (a : Addr) (n c : Nat) (h : n ≤ c) :
    (Builtin.append_ #[t, t] ty #[.slice (some a) n c, .slice none 0 0]).run P w = .ok (.slice (some a) n c) w := by
  simp [Builtin.append_, run_underlying ht, sizeOf, typeInfo, hi, Builtin.lenOf, Builtin.firstCells, h, storeCells]
theorem run_loI (g m cq k : Nat) (hk : k ≤ cq) (h0 : 0 < cq) (wx : World) : (Instr.slice 45 (.slice (some ⟨g, 0, none⟩) m cq) none (some (.int .i64 (k : Int))) none).run Tryd.prog wx = .ok (.slice (some ⟨g, 0, none⟩) k cq) wx := by
  have h1 : (0 : Int) ≤ (k : Int) ∧ (k : Int) ≤ (cq : Int) := by omega
  have h2 : ¬ cq = 0 := by omega
  simp [Instr.slice, run_underlying Tryd.underlying45, Instr.sliceBounds, Instr.sliceBound, asIntOf, go_sem, h1, h2, Addr.add]
  intro h
  omega
theorem run_hiI (g m cq k : Nat) (hk : k ≤ m) (hm : m ≤ cq) (wx : World) : (Instr.slice 45 (.slice (some ⟨g, 0, none⟩) m cq) (some (.int .i64 (k : Int))) none none).run Tryd.prog wx = .ok (.slice (some ⟨g, if cq = k then 0 else k, none⟩) (m - k) (cq - k)) wx := by
  have h1 : (0 : Int) ≤ (k : Int) ∧ (k : Int) ≤ (m : Int) := by omega
  by_cases h2 : cq = k
  · subst h2
    simp [Instr.slice, run_underlying Tryd.underlying45, Instr.sliceBounds, Instr.sliceBound, asIntOf, go_sem, h1]
    intro h
    omega
  · simp [Instr.slice, run_underlying Tryd.underlying45, Instr.sliceBounds, Instr.sliceBound, asIntOf, go_sem, h1, h2, Addr.add]
    rw [if_pos hk]
    by_cases hz : k = 0
    · subst hz
      simp
    · simp [hz]
theorem run_lo0 (wx : World) : (Instr.slice 45 (.slice none 0 0) none (some (.int .i64 0)) none).run Tryd.prog wx = .ok (.slice none 0 0) wx := by kernel_rfl
theorem run_hi0 (wx : World) : (Instr.slice 45 (.slice none 0 0) (some (.int .i64 0)) none none).run Tryd.prog wx = .ok (.slice none 0 0) wx := by kernel_rfl
/-- The first k numbers of a row, and those from k on. -/
theorem lo_ints {w : World} {B g m c : Nat} {L : List Int} (k : Nat) (h : w.ownsRow B 3 1 (.slice (some ⟨g, 0, none⟩) m c) m (ints L)) : ∀ j u, (ints (L.take k))[j]? = some u → w.cell? ((⟨g, 0, none⟩ : Addr).add j) = some u := by
  intro j u hu
  refine h.cells rfl j u ?_
  have e : ints L = ints (L.take k) ++ ints (L.drop k) := by unfold ints; rw [← List.map_append, List.take_append_drop]
  rw [e, List.getElem?_append_left (List.getElem?_eq_some_iff.1 hu).1]
  exact hu
theorem hi_ints {w : World} {B g m c : Nat} {L : List Int} (k : Nat) (hm : L.length = m) (hc : m ≤ c) (h : w.ownsRow B 3 1 (.slice (some ⟨g, 0, none⟩) m c) m (ints L)) : ∀ j u, (ints (L.drop k))[j]? = some u → w.cell? ((⟨g, if c = k then 0 else k, none⟩ : Addr).add j) = some u := by
  intro j u hu
  have hj := (List.getElem?_eq_some_iff.1 hu).1
  rw [ints_len, List.length_drop] at hj
  have hne : ¬ c = k := by omega
  rw [if_neg hne]
  have hx : (ints L)[k + j]? = some u := by
    unfold ints at hu ⊢
    rw [List.map_drop, List.getElem?_drop] at hu
    exact hu
  have := h.cells (g := g) rfl (k + j) u hx
  have a1 : ((⟨g, k, none⟩ : Addr).add j) = ⟨g, k + j, none⟩ := by unfold Addr.add; split <;> simp_all
  have a2 : ((⟨g, 0, none⟩ : Addr).add (k + j)) = ⟨g, k + j, none⟩ := by unfold Addr.add; split <;> simp_all
  rw [a1, ← a2]
  exact this
theorem cells_keptI {w w' : World} {a : Addr} {xs : List Value} (h : ∀ j u, xs[j]? = some u → w.cell? (a.add j) = some u) (e : xs ≠ [] → w'.heap[a.block]? = w.heap[a.block]?) : ∀ j u, xs[j]? = some u → w'.cell? (a.add j) = some u := by
  intro j u hu
  rw [← h j u hu]
  apply World.cell?_of_block
  have hb : (a.add j).block = a.block := by unfold Addr.add; split <;> rfl
  rw [hb]
  exact e (fun h0 => by subst h0; simp at hu)
/-- A row stays while another one grows. -/
theorem own_growth {w w1 : World} {B : Nat} {e : TypeId} {z : Nat} {v : Value} {n : Nat} {xs : List Value} {r : Option Nat} (h : w.ownsRow B e z v n xs) (hg : w.grownBy w1 r) (hne : ∀ g, v.ownBlock = some g → some g ≠ r) : w1.ownsRow B e z v n xs := by
  refine h.kept hg ?_
  cases hv : v.ownBlock
  · exact .inl rfl
  · exact .inr (hne _ hv)
theorem own_formN {w : World} {base : Nat} {e : TypeId} {size : Nat} {v : Value} {n : Nat} {xs : List Value} (h : w.ownsRow base e size v n xs) (hn : 0 < n) :
    ∃ g cap, v = .slice (some ⟨g, 0, none⟩) n cap ∧ base ≤ g ∧ g < w.heap.size ∧ n ≤ cap ∧ cap ≤ maxLen := by
  rcases h.2 with ⟨_, h0⟩ | ⟨g, cap, cur, hv, hb, hg, hc, hm, _⟩
  · omega
  · exact ⟨g, cap, hv, hb, lt_of_block hg, hc, hm⟩
theorem bools_set (s : List Bool) (j : Nat) : (s.map Value.bool).set j (.bool true) = (s.set j true).map Value.bool := by rw [List.map_set]
theorem cycL_snoc (p : D) (k n : Nat) (h : (lenR (nx p) 7 (cycR (nx p) k).1 k).1 = n) : (cycR (nx p) (k + 1)).2.foldl insN [] = if n = 0 then (cycR (nx p) k).2.foldl insN [] else insN ((cycR (nx p) k).2.foldl insN []) (n : Int) := by
  show (if (lenR (nx p) 7 (cycR (nx p) k).1 k).1 = 0 then (cycR (nx p) k).2 else (cycR (nx p) k).2 ++ [((lenR (nx p) 7 (cycR (nx p) k).1 k).1 : Int)]).foldl insN [] = _
  rw [h]
  split
  · rfl
  · rw [List.foldl_append]; rfl
set_option maxHeartbeats 3200000 in
theorem clCycles_any (p : D) (hp : p ∈ wayz) (w : World) : Calls Tryd.prog 40 #[D.v p] w fun e w' => ∃ v, e = .returned v ∧ w'.ownsRow w.heap.size 3 1 v (cycL p).length (ints (cycL p)) ∧ Below w.heap.size w w' := by
  have HP := hide hp
  clear hp
  obtain ⟨i0, hi, hz0, hz1, hz2⟩ := info_parts info_intI
  have HI := hide hi
  have HZ0 := hide hz0
  have HZ1 := hide hz1
  have HZ2 := hide hz2
  clear hi hz0 hz1 hz2
  obtain ⟨i1, hi, hz0, hz1, hz2⟩ := info_parts info_boolC
  have HJ := hide hi
  have HY0 := hide hz0
  have HY1 := hide hz1
  have HY2 := hide hz2
  clear hi hz0 hz1 hz2
  go_enter Tryd.func40, Tryd.ntmps40
  go_wp2_with fail
  refine (diFaces_any p _).mono ?_
  rintro e w1 ⟨rfl, rfl⟩
  have A1 : At6 (((w.alloc (.cells #[.int .i64 p.t, .int .i64 p.n, .int .i64 p.e, .int .i64 p.s, .int .i64 p.w, .int .i64 p.b] 30)).alloc (.cells #[.int .i64 p.t, .int .i64 p.n, .int .i64 p.e, .int .i64 p.s, .int .i64 p.w, .int .i64 p.b] 30)).alloc (.cells #[.int .i64 p.t, .int .i64 p.n, .int .i64 p.e, .int .i64 p.s, .int .i64 p.w, .int .i64 p.b] 3)) (w.heap.size + 2) (fl p) := by
    have := At6.new (w := (w.alloc (.cells #[.int .i64 p.t, .int .i64 p.n, .int .i64 p.e, .int .i64 p.s, .int .i64 p.w, .int .i64 p.b] 30)).alloc (.cells #[.int .i64 p.t, .int .i64 p.n, .int .i64 p.e, .int .i64 p.s, .int .i64 p.w, .int .i64 p.b] 30)) (d := p) (ty := 3)
    simpa using this
  have q1 : Below w.heap.size w (((w.alloc (.cells #[.int .i64 p.t, .int .i64 p.n, .int .i64 p.e, .int .i64 p.s, .int .i64 p.w, .int .i64 p.b] 30)).alloc (.cells #[.int .i64 p.t, .int .i64 p.n, .int .i64 p.e, .int .i64 p.s, .int .i64 p.w, .int .i64 p.b] 30)).alloc (.cells #[.int .i64 p.t, .int .i64 p.n, .int .i64 p.e, .int .i64 p.s, .int .i64 p.w, .int .i64 p.b] 3)) := by go_grown
  generalize ((w.alloc _).alloc _).alloc _ = w1 at A1 q1 ⊢
  obtain ⟨bF, hbF⟩ : ∃ b, b = w.heap.size + 2 := ⟨_, rfl⟩
  have hwb : w.heap.size ≤ bF := by omega
  have hbF2 : w.heap.size + 1 + 1 = bF := by omega
  rw [← hbF] at A1
  have HB2 := hide hbF2
  clear hbF hbF2
  have hbl := A1.1
  go_wp2_with (at_make; go_loud (refine wpList_make_full _ rfl _ _ 102 rfl w1.heap.size 4 i1 (.bool false) 1 Tryd.underlying102 HJ.out HY0.out HY1.out .i64 .i64 _ _ 6 rfl rfl rfl rfl (by rw [HY2.out]; omega) (by unfold maxLen; omega) (Nat.le_refl _) ?_); intro w2 O2 g2)
  rw [HB2.out]
  have eMB : (madeCells (Value.bool false).cells (6 * 1)).toList = (List.replicate 6 false).map Value.bool := by
    have hc : (Value.bool false).cells = #[Value.bool false] := rfl
    simp [madeCells, hc, List.range_succ]
  rw [eMB] at O2
  have S2 : w2.ownsRow w1.heap.size 4 1 (.slice (some ⟨w1.heap.size, 0, none⟩) 6 6) 6 ((List.replicate 6 false).map Value.bool) := O2
  have A2 := A1.grown g2 (by simp)
  have q2 := q1.grown g2 q1.size (fun j hj => by cases hj)
  have hs2 := g2.size
  have hgl : w1.heap.size < w2.heap.size := (S2.lt _ rfl).2
  obtain ⟨gS, hgS⟩ : ∃ g, g = w1.heap.size := ⟨_, rfl⟩
  have hne : bF ≠ gS := by omega
  have hwg : w.heap.size ≤ gS := by have := q1.size; omega
  rw [← hgS] at S2 hgl ⊢
  clear hgS O2 A1 q1 g2 hs2 hbl
  obtain ⟨B, hB⟩ : ∃ B, B = w2.heap.size := ⟨_, rfl⟩
  have hgB : gS < B := by omega
  have hFB : bF < B := by rw [hB]; exact A2.1
  have hwB : w.heap.size ≤ B := by omega
  have HST := hide (show w2.ownsRow B 3 1 (.slice none 0 0) ((cycR (nx p) 0).2.foldl insN []).length (ints ((cycR (nx p) 0).2.foldl insN [])) ∧ w2.ownsRow gS 4 1 (.slice (some ⟨gS, 0, none⟩) 6 6) 6 ((cycR (nx p) 0).1.map Value.bool) ∧ At6 w2 bF (fl p) ∧ Below w.heap.size w w2 ∧ B ≤ w2.heap.size ∧ (((cycR (nx p) 0).2.foldl insN []).length = 0 → Value.slice none 0 0 = Value.slice none 0 0) from ⟨World.ownsRow_nil _ _ _ _, S2, A2, q2, by omega, fun _ => rfl⟩)
  clear A2 S2 q2 hgl hB
  go_wp2
  go_loopw [16, 4, 6, 7, 8, 9, 10] (fun i v _ _ _ _ _ wr => ∃ k : Nat, k ≤ 6 ∧ i = .int .i64 (k : Int) ∧ wr.ownsRow B 3 1 v ((cycR (nx p) k).2.foldl insN []).length (ints ((cycR (nx p) k).2.foldl insN [])) ∧ wr.ownsRow gS 4 1 (.slice (some ⟨gS, 0, none⟩) 6 6) 6 ((cycR (nx p) k).1.map Value.bool) ∧ At6 wr bF (fl p) ∧ Below w.heap.size w wr ∧ B ≤ wr.heap.size ∧ (((cycR (nx p) k).2.foldl insN []).length = 0 → v = Value.slice none 0 0)) (fun i _ _ _ _ _ _ _ => 6 - (intOf i).toNat)
  case atStart =>
    obtain ⟨a1, a2, a3, a4, a5, _⟩ := HST.out
    exact ⟨0, Nat.zero_le _, rfl, a1, a2, a3, a4, a5, fun _ => rfl⟩
  case round =>
    obtain ⟨k, hk, rfl, O, S, A, q, hws, hnz⟩ := hrel
    clear HST
    by_cases hlt : k < 6
    · have hki : (k : Int) < 6 := by omega
      have hs6 := cycR_seen (nx p) k
      have hn7 := lenR_le (nx p) 7 (cycR (nx p) k).1 k
      obtain ⟨s0, hs0⟩ : ∃ s, s = (cycR (nx p) k).1 := ⟨_, rfl⟩
      obtain ⟨R, hR⟩ : ∃ R, R = lenR (nx p) 7 s0 k := ⟨_, rfl⟩
      have hm6 : ((cycR (nx p) k).2.foldl insN []).length ≤ 6 := by
        rw [insN_fold_len]
        have := cycR_len (nx p) k
        simp only [List.length_nil]
        omega
      have HCS := hide (fun n h => cycL_snoc p k n h)
      have HSN := hide (show (cycR (nx p) (k + 1)).1 = R.2 from by
        show (lenR (nx p) 7 (cycR (nx p) k).1 k).2 = _
        rw [hR, hs0])
      have HRR := hide (show (lenR (nx p) 7 (cycR (nx p) k).1 k).1 = R.1 from by rw [hR, hs0])
      rw [← hs0] at S hs6 hn7
      obtain ⟨out, hout⟩ : ∃ o, o = (cycR (nx p) k).2.foldl insN [] := ⟨_, rfl⟩
      rw [← hout] at O hm6 HCS hnz
      obtain ⟨m, hm⟩ : ∃ m, m = out.length := ⟨_, rfl⟩
      rw [← hm] at O hm6 hnz
      have HM := hide hm
      have HNZ := hide hnz
      clear hnz
      have HST := hide (show ∃ (f j : Nat) (s : List Bool), (0 : Nat) + f = 7 ∧ s.length = 6 ∧ j < 6 ∧ s.count false ≤ f ∧ 0 + (lenR (nx p) f s j).1 = R.1 ∧ (lenR (nx p) f s j).2 = R.2 ∧ (k : Int) = (j : Int) ∧ wr.ownsRow gS 4 1 (.slice (some ⟨gS, 0, none⟩) 6 6) 6 (s.map Value.bool) from ⟨7, k, s0, rfl, hs6, hlt, by have := List.count_le_length (a := false) (l := s0); omega, by rw [hR]; omega, by rw [hR], rfl, S⟩)
      have HO := hide O
      have HA := hide A
      have HQ := hide q
      clear O S A q hR hs0 hs6 hout hm
      go_upto_region 8 with (fail)
      go_wp2
      go_loopw [7, 8] (fun nv jv wi => ∃ (n f j : Nat) (s : List Bool), n + f = 7 ∧ s.length = 6 ∧ j < 6 ∧ s.count false ≤ f ∧ n + (lenR (nx p) f s j).1 = R.1 ∧ (lenR (nx p) f s j).2 = R.2 ∧ nv = .int .i64 (n : Int) ∧ jv = .int .i64 (j : Int) ∧ wi.ownsRow gS 4 1 (.slice (some ⟨gS, 0, none⟩) 6 6) 6 (s.map Value.bool) ∧ wi.ownsRow B 3 1 u4 m (ints out) ∧ At6 wi bF (fl p) ∧ Below w.heap.size w wi ∧ B ≤ wi.heap.size) (fun nv _ _ => 7 - (intOf nv).toNat)
      case atStart =>
        obtain ⟨f, j, s, h1, h2, h3, h4, h5, h6, h7, h8⟩ := HST.out
        exact ⟨0, f, j, s, h1, h2, h3, h4, h5, h6, rfl, by rw [h7], h8, HO.out, HA.out, HQ.out, hws⟩
      case round =>
        clear HST HO HA HQ
        obtain ⟨n, f, j, s, h1, h2, h3, h4, h5, h6, rfl, rfl, S, O, A, q, hws⟩ := hrel
        have c0 := bools_cell S j (by omega)
        have f0 := own_free S j
        have hj6 : (j : Int) < 6 := by omega
        have hni : (n : Int) ≤ 7 := by omega
        cases hb : s.getD j true
        · obtain ⟨f, rfl⟩ : ∃ m', f = m' + 1 := ⟨f - 1, by have := count_set s j hb; omega⟩
          have hcs := count_set s j hb
          rw [lenR_next _ _ _ _ hb] at h5 h6
          obtain ⟨n1, n2⟩ := fl_nx HP.out j h3
          have cF : wr.cell? ⟨bF, j, none⟩ = some (.int .i64 (nx p j : Int)) := by
            rw [← n1]
            refine A.2 j _ ?_
            have hl : j < (fl p).length := by simpa [fl] using h3
            rw [List.getD_eq_getElem?_getD, List.getElem?_eq_getElem hl]
            rfl
          have HST := hide (show (wr.setCell ⟨gS, j, none⟩ (.bool true)).ownsRow gS 4 1 (.slice (some ⟨gS, 0, none⟩) 6 6) 6 ((s.set j true).map Value.bool) ∧ (wr.setCell ⟨gS, j, none⟩ (.bool true)).ownsRow B 3 1 u4 m (ints out) ∧ At6 (wr.setCell ⟨gS, j, none⟩ (.bool true)) bF (fl p) ∧ Below w.heap.size w (wr.setCell ⟨gS, j, none⟩ (.bool true)) ∧ B ≤ (wr.setCell ⟨gS, j, none⟩ (.bool true)).heap.size from ⟨by rw [← bools_set]; exact own_put S j (by omega) _, ownsRow_setCell_below O hgB _, A.other hne _, q.setCell hwg _, by simpa [World.setCell] using hws⟩)
          rw [hb] at c0
          have cF2 : (wr.setCell ⟨gS, j, none⟩ (.bool true)).cell? ⟨bF, j, none⟩ = some (.int .i64 (nx p j : Int)) := by
            rw [World.cell?_setCell_far _ _ _ _ (by simpa using Ne.symm hne)]
            exact cF
          clear S O A q n1 hb cF
          go_wp2
          go_roundw
          case rel => exact ⟨n + 1, f, nx p j, s.set j true, by omega, by simp [h2], n2, by omega, by omega, h6, by go_num, by go_num, HST.out⟩
          case measure => simp [intOf] <;> omega
        · rw [lenR_seen _ _ _ _ hb] at h5 h6
          dsimp only at h5 h6
          have hnR : n = R.1 := by omega
          have HC2 := hide (HCS.out n (by rw [HRR.out, hnR]))
          have HS2 := hide (show (cycR (nx p) (k + 1)).1 = s from by rw [HSN.out, ← h6])
          rw [hb] at c0
          have HO := hide O
          have HS := hide S
          have HA := hide A
          have HQ := hide q
          clear h4 h5 h6 hb S O A q hnR
          rcases Nat.eq_zero_or_pos n with rfl | hn0
          · rw [if_pos rfl] at HC2
            go_wp2
            go_roundw
            case rel => exact ⟨k + 1, by omega, by go_num, by rw [HC2.out, ← HM.out]; exact HO.out, by rw [HS2.out]; exact HS.out, HA.out, HQ.out, hws, fun h => HNZ.out (by rw [HC2.out, ← HM.out] at h; exact h)⟩
            case measure => simp [intOf] <;> omega
          · rw [if_neg (by omega)] at HC2
            have hni0 : ((n : Int) == 0) = false := by simp; omega
            rcases own_forms HO.out with ⟨rfl, hm0⟩ | ⟨g, cap, rfl, hgB2, _⟩
            · obtain rfl := hm0
              have hout : out = [] := List.eq_nil_of_length_eq_zero HM.out.symm
              subst hout
              have s1 := run_lo0
              have s2 := run_hi0
              go_wp2
              go_loopw [9] (fun kk wx => kk = .int .i64 0 ∧ wx.ownsRow gS 4 1 (.slice (some ⟨gS, 0, none⟩) 6 6) 6 (s.map Value.bool) ∧ At6 wx bF (fl p) ∧ Below w.heap.size w wx ∧ B ≤ wx.heap.size) (fun _ _ => 0)
              case atStart => exact ⟨rfl, HS.out, HA.out, HQ.out, hws⟩
              case round =>
                obtain ⟨rfl, S, A, q, hws⟩ := hrel
                clear HS HA HQ HO
                have HS := hide S
                have HA := hide A
                have HQ := hide q
                have hqs := q.size
                clear S A q
                go_wp2_with (first | (go_at_call 70; (refine (l1Own_nil _).mono ?_); rintro e wo ⟨v1, rfl, hO1, hb1⟩; have HN1 := hide hO1; have HS1 := hide (own_to hb1 HS.out rfl); have HA1 := hide (At6.to hb1 HA.out rfl); have HQ1 := hide (below_to hb1 HQ.out hqs rfl rfl rfl rfl); have hz1 := hb1.size; clear hO1 hb1) | (at_builtin; refine wpList_append_own_at _ rfl _ _ 45 rfl wr.heap.size 3 i0 (.int .i64 0) 1 8 Tryd.underlying45 HI.out HZ0.out HZ1.out HZ2.out rfl (by decide) _ _ _ rfl (HN1.out.alloc _) ⟨_, 0, none⟩ 1 1 [.int .i64 (n : Int)] rfl rfl (cell_one_newR _ _ _) (by intro u hu; simp only [List.mem_singleton] at hu; subst hu; rfl) (by unfold maxLen; omega) (by omega) (by simp; omega) ?_; intro v' w4 hown hgr hnil hblk; obtain ⟨g2, c2, rfl, hg2, hl2, hc2, hm2⟩ := own_formN hown (by omega); rw [Nat.zero_add] at hc2))
                have HO4 := hide (show w4.ownsRow B 3 1 (.slice (some ⟨g2, 0, none⟩) (0 + 1) c2) (insN [] (n : Int)).length (ints (insN [] (n : Int))) from own_mono hown hws)
                have hnb : ∀ b, b < wr.heap.size → some b ≠ v1.ownBlock := fun b hb h => by have := (HN1.out.lt b h.symm).1; omega
                have hgS2 : gS < wr.heap.size := by omega
                have HS4 := hide (own_growth (HS1.out.alloc _) hgr (fun g hg => by cases hg; exact hnb _ hgS2))
                have HA4 := hide ((HA1.out.alloc _).grown hgr (hnb _ (by omega)))
                have HQ4 := hide ((HQ1.out.alloc HQ1.out.size _).grown hgr (by have := HQ1.out.size; simp; omega) (fun j hj => by have := (HN1.out.lt j hj).1; omega))
                have hws4 : B ≤ w4.heap.size := by have := hgr.size; simp at this; omega
                clear hown hgr hnil hblk hnb HN1 HS1 HA1 HQ1 HS HA HQ
                go_wp2
                go_roundw
                case rel => exact ⟨k + 1, by omega, by go_num, by rw [HC2.out]; exact HO4.out, by rw [HS2.out]; exact HS4.out, HA4.out, HQ4.out, hws4, fun h => by rw [HC2.out, insN_len] at h; omega⟩
                case measure => simp [intOf] <;> omega
            · have hcap : m ≤ cap := by
                rcases HO.out.2 with ⟨h0, _⟩ | ⟨g', cap', cur, hv, _, _, hc, _⟩
                · cases h0
                · cases hv
                  exact hc
              rcases Nat.eq_zero_or_pos m with rfl | hmp
              · exact absurd (HNZ.out rfl) (by simp)
              clear HNZ
              go_wp2
              go_loopw [9] (fun kk wx => ∃ kn : Nat, kn ≤ m ∧ kk = .int .i64 (kn : Int) ∧ (∀ j y, j < kn → out[j]? = some y → y ≤ (n : Int)) ∧ wx.ownsRow B 3 1 (.slice (some ⟨g, 0, none⟩) m cap) m (ints out) ∧ wx.ownsRow gS 4 1 (.slice (some ⟨gS, 0, none⟩) 6 6) 6 (s.map Value.bool) ∧ At6 wx bF (fl p) ∧ Below w.heap.size w wx ∧ B ≤ wx.heap.size) (fun kk _ => m - (intOf kk).toNat)
              case atStart => exact ⟨0, Nat.zero_le _, rfl, fun j y hj => absurd hj (by omega), HO.out, HS.out, HA.out, HQ.out, hws⟩
              case round =>
                obtain ⟨kn, hkn, rfl, hall, O, S, A, q, hws⟩ := hrel
                clear HS HA HQ HO
                have HALL := hide hall
                have HO := hide O
                have HS := hide S
                have HA := hide A
                have HQ := hide q
                have hqs := q.size
                clear hall S A q
                have hm6i : (m : Int) ≤ 6 := by omega
                by_cases hkm : kn < m
                · have hki2 : (kn : Int) < (m : Int) := by omega
                  have hy : out[kn]? = some (out[kn]'(by have := HM.out; omega)) := List.getElem?_eq_getElem (by have := HM.out; omega)
                  generalize out[kn]'(by have := HM.out; omega) = y at hy
                  have cy := ints_cell O kn y hy
                  have HY := hide hy
                  clear hy O
                  by_cases hyn : y ≤ (n : Int)
                  · go_wp2
                    go_roundw
                    case rel =>
                      refine ⟨kn + 1, by omega, by go_num, fun j y' hj hy' => ?_, HO.out, HS.out, HA.out, HQ.out, hws⟩
                      rcases Nat.lt_or_ge j kn with h | h
                      · exact HALL.out j y' h hy'
                      · obtain rfl : j = kn := by omega
                        rw [HY.out] at hy'
                        cases hy'
                        exact hyn
                    case measure => simp [intOf] <;> omega
                  · have HLD := hide (leadI_at (n : Int) out kn (by have := HM.out; omega) HALL.out (fun y' hy' => by rw [HY.out] at hy'; cases hy'; exact hyn))
                    have slo := fun wx => run_loI g m cap kn (by omega) (by omega) wx
                    obtain ⟨off, hoff⟩ : ∃ off, off = if cap = kn then 0 else kn := ⟨_, rfl⟩
                    have shi : ∀ wx : World, (Instr.slice 45 (.slice (some ⟨g, 0, none⟩) m cap) (some (.int .i64 (kn : Int))) none none).run Tryd.prog wx = .ok (.slice (some ⟨g, off, none⟩) (m - kn) (cap - kn)) wx := fun wx => by rw [hoff]; exact run_hiI g m cap kn hkn hcap wx
                    have HOF := hide hoff
                    clear hoff
                    have HTL := hide (show (out.take kn).length = kn from by rw [List.length_take]; have := HM.out; omega)
                    have HDL := hide (show (ints (out.drop kn)).length = (m - kn) * 1 from by rw [ints_len, List.length_drop]; have := HM.out; omega)
                    have HDO := hide (show ∀ u ∈ ints (out.drop kn), u.oneCell' = true from by intro u hu; simp only [ints, List.mem_map] at hu; obtain ⟨x, _, rfl⟩ := hu; rfl)
                    have hgw := (HO.out.lt g rfl).2
                    have hgS2 : gS < wr.heap.size := by omega
                    have HIN := hide (show ints (insN out (n : Int)) = (ints (out.take kn) ++ [.int .i64 (n : Int)]) ++ ints (out.drop kn) from by
                      unfold insN
                      rw [HLD.out]
                      simp [ints])
                    have hnm : (insN out (n : Int)).length = kn + 1 + (m - kn) := by rw [insN_len, ← HM.out]; omega
                    have HNM := hide hnm
                    clear hnm
                    go_wp2_with (first
                      | (go_at_call 70; (refine (l1Own_any g kn cap (out.take kn) _ HTL.out (by omega) (lo_ints kn HO.out)).mono ?_); rintro e wo ⟨v1, rfl, hO1, hb1⟩; have HN1 := hide hO1; have HO1 := hide (own_to hb1 HO.out rfl); have HS1 := hide (own_to hb1 HS.out rfl); have HA1 := hide (At6.to hb1 HA.out rfl); have HQ1 := hide (below_to hb1 HQ.out hqs rfl rfl rfl rfl); have hz1 := hb1.size; clear hO1 hb1)
                      | (at_builtin; refine wpList_append_own_at _ rfl _ _ 45 rfl wr.heap.size 3 i0 (.int .i64 0) 1 8 Tryd.underlying45 HI.out HZ0.out HZ1.out HZ2.out rfl (by decide) _ _ _ rfl (HN1.out.alloc _) ⟨_, 0, none⟩ 1 1 [.int .i64 (n : Int)] rfl rfl (cell_one_newR _ _ _) (by intro u hu; simp only [List.mem_singleton] at hu; subst hu; rfl) (by unfold maxLen; omega) (by omega) (by simp; omega) ?_; intro v' w4 hown hgr hnil hblk; obtain ⟨g2, c2, rfl, hg2, hl2, hc2, hm2⟩ := own_formN hown (by omega); have hnb : ∀ b, b < wr.heap.size → some b ≠ v1.ownBlock := fun b hb h => by have := (HN1.out.lt b h.symm).1; omega
                         have HO4 := hide (own_growth (HO1.out.alloc _) hgr (fun b hb => by cases hb; exact hnb _ hgw))
                         have HS4 := hide (own_growth (HS1.out.alloc _) hgr (fun b hb => by cases hb; exact hnb _ hgS2))
                         have HA4 := hide ((HA1.out.alloc _).grown hgr (hnb _ (by omega)))
                         have HQ4 := hide ((HQ1.out.alloc HQ1.out.size _).grown hgr (by have := HQ1.out.size; simp; omega) (fun j hj => by have := (HN1.out.lt j hj).1; omega))
                         have hws4 : wr.heap.size ≤ w4.heap.size := by have := hgr.size; simp at this; omega
                         have HH4 := hide (show ∀ j u, (ints (out.drop kn))[j]? = some u → w4.cell? ((⟨g, off, none⟩ : Addr).add j) = some u from by rw [HOF.out]; exact hi_ints kn HM.out.symm hcap HO4.out)
                         have HN4 := hide hown
                         clear hown hgr hnil hblk hnb HN1 HO1 HS1 HA1 HQ1)
                      | (at_builtin; (refine wpList_append_own_at _ rfl _ _ 45 rfl wr.heap.size 3 i0 (.int .i64 0) 1 8 Tryd.underlying45 HI.out HZ0.out HZ1.out HZ2.out rfl (by decide) _ _ _ rfl HN4.out ⟨g, off, none⟩ (m - kn) (cap - kn) (ints (out.drop kn)) rfl HDL.out HH4.out HDO.out (by unfold maxLen; omega) (by omega) (by omega) ?_); intro v' w5 hown hgr hnil hblk))
                    have HO5 := hide (show w5.ownsRow B 3 1 v' (insN out (n : Int)).length (ints (insN out (n : Int))) from by rw [HIN.out, HNM.out]; exact own_mono hown hws)
                    have hnb : ∀ b, b < wr.heap.size → some b ≠ (Value.slice (some ⟨g2, 0, none⟩) (kn + 1) c2).ownBlock := fun b hb h => by have : b = g2 := Option.some.inj h; omega
                    have HS5 := hide (own_growth HS4.out hgr (fun b hb => by cases hb; exact hnb _ hgS2))
                    have HA5 := hide (HA4.out.grown hgr (hnb _ (by omega)))
                    have HQ5 := hide (HQ4.out.grown hgr (by have := HQ4.out.size; omega) (fun j hj => by have : g2 = j := Option.some.inj hj; omega))
                    have hws5 : B ≤ w5.heap.size := by have := hgr.size; omega
                    clear hown hgr hnil hblk hnb HO4 HS4 HA4 HQ4 HN4 HH4
                    go_wp2
                    go_roundw
                    case rel => exact ⟨k + 1, by omega, by go_num, by rw [HC2.out]; exact HO5.out, by rw [HS2.out]; exact HS5.out, HA5.out, HQ5.out, hws5, fun h => by rw [HC2.out, insN_len] at h; omega⟩
                    case measure => simp [intOf] <;> omega
                · have hki2 : ¬ ((kn : Int) < (m : Int)) := by omega
                  have HLD := hide (leadI_at (n : Int) out kn (by have := HM.out; omega) HALL.out (fun y' hy' => by have := (List.getElem?_eq_some_iff.1 hy').1; have := HM.out; omega))
                  have slo := fun wx => run_loI g m cap kn (by omega) (by omega) wx
                  obtain ⟨off, hoff⟩ : ∃ off, off = if cap = kn then 0 else kn := ⟨_, rfl⟩
                  have shi : ∀ wx : World, (Instr.slice 45 (.slice (some ⟨g, 0, none⟩) m cap) (some (.int .i64 (kn : Int))) none none).run Tryd.prog wx = .ok (.slice (some ⟨g, off, none⟩) (m - kn) (cap - kn)) wx := fun wx => by rw [hoff]; exact run_hiI g m cap kn hkn hcap wx
                  have HOF := hide hoff
                  clear hoff
                  have HTL := hide (show (out.take kn).length = kn from by rw [List.length_take]; have := HM.out; omega)
                  have HDL := hide (show (ints (out.drop kn)).length = (m - kn) * 1 from by rw [ints_len, List.length_drop]; have := HM.out; omega)
                  have HDO := hide (show ∀ u ∈ ints (out.drop kn), u.oneCell' = true from by intro u hu; simp only [ints, List.mem_map] at hu; obtain ⟨x, _, rfl⟩ := hu; rfl)
                  have hgw := (HO.out.lt g rfl).2
                  have hgS2 : gS < wr.heap.size := by omega
                  have HIN := hide (show ints (insN out (n : Int)) = (ints (out.take kn) ++ [.int .i64 (n : Int)]) ++ ints (out.drop kn) from by
                    unfold insN
                    rw [HLD.out]
                    simp [ints])
                  have hnm : (insN out (n : Int)).length = kn + 1 + (m - kn) := by rw [insN_len, ← HM.out]; omega
                  have HNM := hide hnm
                  clear hnm
                  go_wp2_with (first
                    | (go_at_call 70; (refine (l1Own_any g kn cap (out.take kn) _ HTL.out (by omega) (lo_ints kn HO.out)).mono ?_); rintro e wo ⟨v1, rfl, hO1, hb1⟩; have HN1 := hide hO1; have HO1 := hide (own_to hb1 HO.out rfl); have HS1 := hide (own_to hb1 HS.out rfl); have HA1 := hide (At6.to hb1 HA.out rfl); have HQ1 := hide (below_to hb1 HQ.out hqs rfl rfl rfl rfl); have hz1 := hb1.size; clear hO1 hb1)
                    | (at_builtin; refine wpList_append_own_at _ rfl _ _ 45 rfl wr.heap.size 3 i0 (.int .i64 0) 1 8 Tryd.underlying45 HI.out HZ0.out HZ1.out HZ2.out rfl (by decide) _ _ _ rfl (HN1.out.alloc _) ⟨_, 0, none⟩ 1 1 [.int .i64 (n : Int)] rfl rfl (cell_one_newR _ _ _) (by intro u hu; simp only [List.mem_singleton] at hu; subst hu; rfl) (by unfold maxLen; omega) (by omega) (by simp; omega) ?_; intro v' w4 hown hgr hnil hblk; obtain ⟨g2, c2, rfl, hg2, hl2, hc2, hm2⟩ := own_formN hown (by omega); have hnb : ∀ b, b < wr.heap.size → some b ≠ v1.ownBlock := fun b hb h => by have := (HN1.out.lt b h.symm).1; omega
                       have HO4 := hide (own_growth (HO1.out.alloc _) hgr (fun b hb => by cases hb; exact hnb _ hgw))
                       have HS4 := hide (own_growth (HS1.out.alloc _) hgr (fun b hb => by cases hb; exact hnb _ hgS2))
                       have HA4 := hide ((HA1.out.alloc _).grown hgr (hnb _ (by omega)))
                       have HQ4 := hide ((HQ1.out.alloc HQ1.out.size _).grown hgr (by have := HQ1.out.size; simp; omega) (fun j hj => by have := (HN1.out.lt j hj).1; omega))
                       have hws4 : wr.heap.size ≤ w4.heap.size := by have := hgr.size; simp at this; omega
                       have HH4 := hide (show ∀ j u, (ints (out.drop kn))[j]? = some u → w4.cell? ((⟨g, off, none⟩ : Addr).add j) = some u from by rw [HOF.out]; exact hi_ints kn HM.out.symm hcap HO4.out)
                       have HN4 := hide hown
                       clear hown hgr hnil hblk hnb HN1 HO1 HS1 HA1 HQ1)
                    | (at_builtin; (refine wpList_append_own_at _ rfl _ _ 45 rfl wr.heap.size 3 i0 (.int .i64 0) 1 8 Tryd.underlying45 HI.out HZ0.out HZ1.out HZ2.out rfl (by decide) _ _ _ rfl HN4.out ⟨g, off, none⟩ (m - kn) (cap - kn) (ints (out.drop kn)) rfl HDL.out HH4.out HDO.out (by unfold maxLen; omega) (by omega) (by omega) ?_); intro v' w5 hown hgr hnil hblk))
                  have HO5 := hide (show w5.ownsRow B 3 1 v' (insN out (n : Int)).length (ints (insN out (n : Int))) from by rw [HIN.out, HNM.out]; exact own_mono hown hws)
                  have hnb : ∀ b, b < wr.heap.size → some b ≠ (Value.slice (some ⟨g2, 0, none⟩) (kn + 1) c2).ownBlock := fun b hb h => by have : b = g2 := Option.some.inj h; omega
                  have HS5 := hide (own_growth HS4.out hgr (fun b hb => by cases hb; exact hnb _ hgS2))
                  have HA5 := hide (HA4.out.grown hgr (hnb _ (by omega)))
                  have HQ5 := hide (HQ4.out.grown hgr (by have := HQ4.out.size; omega) (fun j hj => by have : g2 = j := Option.some.inj hj; omega))
                  have hws5 : B ≤ w5.heap.size := by have := hgr.size; omega
                  clear hown hgr hnil hblk hnb HO4 HS4 HA4 HQ4 HN4 HH4
                  go_wp2
                  go_roundw
                  case rel => exact ⟨k + 1, by omega, by go_num, by rw [HC2.out]; exact HO5.out, by rw [HS2.out]; exact HS5.out, HA5.out, HQ5.out, hws5, fun h => by rw [HC2.out, insN_len] at h; omega⟩
                  case measure => simp [intOf] <;> omega
    · have hcl : cycL p = (cycR (nx p) 6).2.foldl insN [] := rfl
      obtain rfl : k = 6 := by omega
      rw [← hcl] at O
      have HO := hide (own_mono O hwB)
      have HQ := hide q
      clear O S A q hcl hnz
      go_wp2
      go_returns
      exact ⟨_, rfl, HO.out, HQ.out⟩
end Go.Proofs.YtjikpkembcnfnaaDoor
