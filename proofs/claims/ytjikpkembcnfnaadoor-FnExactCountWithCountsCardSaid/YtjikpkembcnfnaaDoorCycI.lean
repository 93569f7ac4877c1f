/- The contract of the program's cycles: cyclesOf of the marked die, rolled. -/
import Derived.Test.YtjikpkembcnfnaaDoorCycM
import Derived.Test.YtjikpkembcnfnaaDoorDie
import Derived.Test.YtjikpkembcnfnaaDoorInts
import Derived.Test.YtjikpkembcnfnaaDoorState
import Derived.Test.YtjikpkembcnfnaaDoorShelf
import Derived.Sort.OwnSortedInts
namespace Go.Proofs.YtjikpkembcnfnaaDoor
set_option maxRecDepth 100000
set_option linter.all false
open Go.RowKit

/-- Block b is a row of six truth values. -/
def IsB6 (w : World) (b : Nat) (s : List Bool) (ty : TypeId) : Prop := w.heap[b]? = some (.cells (s.map Value.bool).toArray ty (0, 0))
theorem IsB6.lt {w : World} {b : Nat} {s : List Bool} {ty : TypeId} (h : IsB6 w b s ty) : b < w.heap.size := lt_of_block h
theorem IsB6.cell {w : World} {b : Nat} {s : List Bool} {ty : TypeId} (h : IsB6 w b s ty) (j : Nat) (hj : j < s.length) : w.cell? ⟨b, j, none⟩ = some (.bool (s.getD j true)) ∧ w.frozen? ⟨b, j, none⟩ = false := by
  unfold IsB6 at h
  simp [World.cell?, World.frozen?, h, hj]
theorem IsB6.set {w : World} {b : Nat} {s : List Bool} {ty : TypeId} (h : IsB6 w b s ty) (j : Nat) (hj : j < s.length) : IsB6 (w.setCell ⟨b, j, none⟩ (.bool true)) b (s.set j true) ty := by
  have := cells_set h j (by simpa using hj) (.bool true)
  unfold IsB6
  rw [this]
  simp [List.map_set]
theorem IsB6.to {w w0 w1 : World} {b : Nat} {s : List Bool} {ty : TypeId} (hb : Below w0.heap.size w0 w1) (h : IsB6 w b s ty) (e : w0.heap = w.heap) : IsB6 w1 b s ty := by
  have hl := h.lt
  unfold IsB6 at h ⊢
  rw [hb.block b (by rw [e]; exact hl), e]
  exact h
theorem IsB6.other {w : World} {b : Nat} {s : List Bool} {ty : TypeId} (h : IsB6 w b s ty) {p : Addr} (hp : b ≠ p.block) (u : Value) : IsB6 (w.setCell p u) b s ty := (Below.heap_setCell w p u b hp).trans h
theorem IsB6.alloc {w : World} {b : Nat} {s : List Bool} {ty : TypeId} (h : IsB6 w b s ty) (o : Obj) : IsB6 (w.alloc o) b s ty := (Below.heap_alloc w o b h.lt).trans h
theorem IsB6.grown {w w1 : World} {b : Nat} {s : List Bool} {ty : TypeId} {r : Option Nat} (h : IsB6 w b s ty) (hg : w.grownBy w1 r) (hne : some b ≠ r) : IsB6 w1 b s ty := (hg.block b h.lt hne).trans h
theorem IsB6.new {w : World} {ty : TypeId} : IsB6 (w.alloc (.cells #[.bool false, .bool false, .bool false, .bool false, .bool false, .bool false] ty)) w.heap.size (List.replicate 6 false) ty := by
  show (w.heap.push _)[w.heap.size]? = _
  simp
/-- The six numbers of a die in a row of memory. -/
def At6 (w : World) (b : Nat) (L : List Int) : Prop := b < w.heap.size ∧ ∀ j x, L[j]? = some x → w.cell? ⟨b, j, none⟩ = some (.int .i64 x)
theorem At6.to {w w0 w1 : World} {b : Nat} {L : List Int} (hb : Below w0.heap.size w0 w1) (h : At6 w b L) (e : w0.heap = w.heap) : At6 w1 b L := by
  have hs := hb.size
  refine ⟨by rw [e] at hs; have := h.1; omega, fun j x hx => ?_⟩
  rw [hb.cell (p := ⟨b, j, none⟩) (by rw [e]; exact h.1)]
  have h5 : w0.heap[(⟨b, j, none⟩ : Addr).block]? = w.heap[(⟨b, j, none⟩ : Addr).block]? := by rw [e]
  rw [World.cell?_of_block h5]
  exact h.2 j x hx
theorem At6.same {w w1 : World} {b : Nat} {L : List Int} (h : At6 w b L) (hl : b < w1.heap.size) (e : w1.heap[b]? = w.heap[b]?) : At6 w1 b L :=
  ⟨hl, fun j x hx => (World.cell?_of_block (a := ⟨b, j, none⟩) e).trans (h.2 j x hx)⟩
theorem At6.alloc {w : World} {b : Nat} {L : List Int} (h : At6 w b L) (o : Obj) : At6 (w.alloc o) b L := h.same (by have := h.1; simp; omega) (Below.heap_alloc w o b h.1)
theorem At6.other {w : World} {b : Nat} {L : List Int} (h : At6 w b L) {p : Addr} (hp : b ≠ p.block) (u : Value) : At6 (w.setCell p u) b L := h.same (by have := h.1; simpa [World.setCell] using this) (Below.heap_setCell w p u b hp)
theorem At6.grown {w w1 : World} {b : Nat} {L : List Int} {r : Option Nat} (h : At6 w b L) (hg : w.grownBy w1 r) (hne : some b ≠ r) : At6 w1 b L := h.same (Nat.lt_of_lt_of_le h.1 hg.size) (hg.block b h.1 hne)
theorem At6.new {w : World} {d : D} {ty : TypeId} : At6 (w.alloc (.cells #[.int .i64 d.t, .int .i64 d.n, .int .i64 d.e, .int .i64 d.s, .int .i64 d.w, .int .i64 d.b] ty)) w.heap.size (fl d) := by
  obtain ⟨h1, ⟨c0, c1, c2, c3, c4, c5⟩, -⟩ := (IsD.new (w := w) (d := d) (ty := ty)).all
  refine ⟨h1, fun j x hx => ?_⟩
  match j, hx with
  | 0, hx => simp [fl] at hx; subst hx; exact c0
  | 1, hx => simp [fl] at hx; subst hx; exact c1
  | 2, hx => simp [fl] at hx; subst hx; exact c2
  | 3, hx => simp [fl] at hx; subst hx; exact c3
  | 4, hx => simp [fl] at hx; subst hx; exact c4
  | 5, hx => simp [fl] at hx; subst hx; exact c5
  | j + 6, hx => simp [fl] at hx
theorem fl_up (p : D) (j : Nat) (hj : j < 6) : (fl (mapD up p))[j]? = some ((fl p).getD j 0 + 1) := by
  match j, hj with
  | 0, _ => rfl
  | 1, _ => rfl
  | 2, _ => rfl
  | 3, _ => rfl
  | 4, _ => rfl
  | 5, _ => rfl
theorem fl_nx {p : D} (h : p ∈ wayz) (j : Nat) (hj : j < 6) : (fl p).getD j 0 = (nx p j : Int) ∧ nx p j < 6 := by
  obtain ⟨-, -, h3, -, h5⟩ := cyc_facts p h
  have h1 := h3 j (List.mem_range.2 hj)
  have hm : (fl p).getD j 0 ∈ fl p := by
    have hl : j < (fl p).length := by simpa [fl] using hj
    rw [List.getD_eq_getElem?_getD, List.getElem?_eq_getElem hl]
    exact List.getElem_mem hl
  have h2 := h5 _ hm
  refine ⟨?_, h1⟩
  unfold nx
  omega
set_option maxHeartbeats 1600000 in
theorem cyclesOf_any (p : D) (hp : p ∈ wayz) (w : World) : Calls Tryd.prog 71 #[D.v (mapD up p)] w fun e w' => ∃ v, e = .returned v ∧ w'.ownsRow w.heap.size 3 1 v (cycL p).length (ints (cycL p)) ∧ Below w.heap.size w w' := by
  have HP := hide hp
  clear hp
  obtain ⟨i0, hi, hz0, hz1, hz2⟩ := info_parts info_intI
  have HI := hide hi
  have HZ0 := hide hz0
  have HZ1 := hide hz1
  have HZ2 := hide hz2
  clear hi hz0 hz1 hz2
  have HF := hide (fun j hj => fl_up p j hj)
  obtain ⟨dd, hdd⟩ : ∃ dd, dd = mapD up p := ⟨_, rfl⟩
  rw [← hdd] at HF ⊢
  clear hdd
  go_enter Tryd.func71, Tryd.ntmps71
  go_wp2_with fail
  refine (facesOf_any dd _).mono ?_
  rintro e w1 ⟨rfl, hb1⟩
  have q1 : Below w.heap.size w w1 := below_after (by go_grown) hb1 (by simp)
  clear hb1
  have b2 : Below w.heap.size w ((w1.alloc (.cells #[.int .i64 dd.t, .int .i64 dd.n, .int .i64 dd.e, .int .i64 dd.s, .int .i64 dd.w, .int .i64 dd.b] 72)).alloc (.cells #[.bool false, .bool false, .bool false, .bool false, .bool false, .bool false] 119)) := (q1.alloc q1.size _).alloc (by have := q1.size; simp; omega) _
  have A2 := (At6.new (w := w1) (d := dd) (ty := 72)).alloc (.cells #[.bool false, .bool false, .bool false, .bool false, .bool false, .bool false] 119)
  have S2 : IsB6 ((w1.alloc (.cells #[.int .i64 dd.t, .int .i64 dd.n, .int .i64 dd.e, .int .i64 dd.s, .int .i64 dd.w, .int .i64 dd.b] 72)).alloc (.cells #[.bool false, .bool false, .bool false, .bool false, .bool false, .bool false] 119)) (w1.heap.size + 1) (List.replicate 6 false) 119 := by
    have := IsB6.new (w := w1.alloc (.cells #[.int .i64 dd.t, .int .i64 dd.n, .int .i64 dd.e, .int .i64 dd.s, .int .i64 dd.w, .int .i64 dd.b] 72)) (ty := 119)
    simpa using this
  go_upto_region 4 with (fail)
  generalize (w1.alloc _).alloc _ = w2 at b2 A2 S2 ⊢
  have hsz := S2.lt
  obtain ⟨bF, hbF⟩ : ∃ b, b = w1.heap.size := ⟨_, rfl⟩
  have hne : bF ≠ bF + 1 := by omega
  rw [← hbF] at A2 S2 hsz ⊢
  have hwb : w.heap.size ≤ bF := by have := q1.size; omega
  clear hbF q1
  have HST := hide (show w2.ownsRow w2.heap.size 3 1 (.slice none 0 0) (cycR (nx p) 0).2.length (ints (cycR (nx p) 0).2) ∧ IsB6 w2 (bF + 1) (cycR (nx p) 0).1 119 ∧ At6 w2 bF (fl dd) ∧ Below w.heap.size w w2 ∧ w2.heap.size ≤ w2.heap.size from ⟨World.ownsRow_nil _ _ _ _, S2, A2, b2, Nat.le_refl _⟩)
  have b2s := b2.size
  clear A2 S2 b2
  go_wp2
  go_loopw [11, 4, 6, 7, 8] (fun i v _ _ _ wr => ∃ k : Nat, k ≤ 6 ∧ i = .int .i64 (k : Int) ∧ wr.ownsRow w2.heap.size 3 1 v (cycR (nx p) k).2.length (ints (cycR (nx p) k).2) ∧ IsB6 wr (bF + 1) (cycR (nx p) k).1 119 ∧ At6 wr bF (fl dd) ∧ Below w.heap.size w wr ∧ w2.heap.size ≤ wr.heap.size) (fun i _ _ _ _ _ => 6 - (intOf i).toNat)
  case atStart => exact ⟨0, Nat.zero_le _, rfl, HST.out⟩
  case round =>
    obtain ⟨k, hk, rfl, O, S, A, q, hws⟩ := hrel
    clear HST
    by_cases hlt : k < 6
    · have hki : (k : Int) < 6 := by omega
      have HO := hide O
      have hs6 := cycR_seen (nx p) k
      have hn7 := lenR_le (nx p) 7 (cycR (nx p) k).1 k
      obtain ⟨s0, hs0⟩ : ∃ s, s = (cycR (nx p) k).1 := ⟨_, rfl⟩
      obtain ⟨R, hR⟩ : ∃ R, R = lenR (nx p) 7 s0 k := ⟨_, rfl⟩
      have HR := hide hR
      have HS0 := hide hs0
      rw [← hs0] at S hs6 hn7
      have HST := hide (show ∃ (m j : Nat) (s : List Bool), (0 : Nat) + m = 7 ∧ s.length = 6 ∧ j < 6 ∧ s.count false ≤ m ∧ 0 + (lenR (nx p) m s j).1 = R.1 ∧ (lenR (nx p) m s j).2 = R.2 ∧ (k : Int) = (j : Int) ∧ IsB6 wr (bF + 1) s 119 from ⟨7, k, s0, rfl, hs6, hlt, by have := List.count_le_length (a := false) (l := s0); omega, by rw [hR]; omega, by rw [hR], rfl, S⟩)
      have HA := hide A
      have HQ := hide q
      clear O S A q hR hs0 hs6
      go_upto_region 8 with (fail)
      go_wp2
      go_loopw [7, 8] (fun nv jv wi => ∃ (n m j : Nat) (s : List Bool), n + m = 7 ∧ s.length = 6 ∧ j < 6 ∧ s.count false ≤ m ∧ n + (lenR (nx p) m s j).1 = R.1 ∧ (lenR (nx p) m s j).2 = R.2 ∧ nv = .int .i64 (n : Int) ∧ jv = .int .i64 (j : Int) ∧ IsB6 wi (bF + 1) s 119 ∧ wi.ownsRow w2.heap.size 3 1 u4 (cycR (nx p) k).2.length (ints (cycR (nx p) k).2) ∧ At6 wi bF (fl dd) ∧ Below w.heap.size w wi ∧ w2.heap.size ≤ wi.heap.size) (fun nv _ _ => 7 - (intOf nv).toNat)
      case atStart =>
        obtain ⟨m, j, s, h1, h2, h3, h4, h5, h6, h7, h8⟩ := HST.out
        exact ⟨0, m, j, s, h1, h2, h3, h4, h5, h6, rfl, by rw [h7], h8, HO.out, HA.out, HQ.out, hws⟩
      case round =>
        clear HST HO HA HQ
        obtain ⟨n, m, j, s, h1, h2, h3, h4, h5, h6, rfl, rfl, S, O, A, q, hws⟩ := hrel
        obtain ⟨c0, f0⟩ := S.cell j (by omega)
        have hj6 : (j : Int) < 6 := by omega
        have hni : (n : Int) ≤ 7 := by omega
        cases hb : s.getD j true
        · obtain ⟨m, rfl⟩ : ∃ m', m = m' + 1 := ⟨m - 1, by have := count_set s j hb; omega⟩
          have hcs := count_set s j hb
          rw [lenR_next _ _ _ _ hb] at h5 h6
          obtain ⟨n1, n2⟩ := fl_nx HP.out j h3
          have cF := A.2 j _ (HF.out j h3)
          rw [n1] at cF
          have HST := hide (show IsB6 (wr.setCell ⟨bF + 1, j, none⟩ (.bool true)) (bF + 1) (s.set j true) 119 ∧ (wr.setCell ⟨bF + 1, j, none⟩ (.bool true)).ownsRow w2.heap.size 3 1 u4 (cycR (nx p) k).2.length (ints (cycR (nx p) k).2) ∧ At6 (wr.setCell ⟨bF + 1, j, none⟩ (.bool true)) bF (fl dd) ∧ Below w.heap.size w (wr.setCell ⟨bF + 1, j, none⟩ (.bool true)) ∧ w2.heap.size ≤ (wr.setCell ⟨bF + 1, j, none⟩ (.bool true)).heap.size from ⟨S.set j (by omega), ownsRow_setCell_below O (by simp; omega) _, A.other hne _, q.setCell (by simp; omega) _, by simpa [World.setCell] using hws⟩)
          rw [hb] at c0
          have cF2 : (wr.setCell ⟨bF + 1, j, none⟩ (.bool true)).cell? ⟨bF, j, none⟩ = some (.int .i64 ((nx p j : Int) + 1)) := by
            rw [World.cell?_setCell_far _ _ _ _ (by simp)]
            exact cF
          clear S O A q n1 hb cF
          go_wp2
          go_roundw
          case rel => exact ⟨n + 1, m, nx p j, s.set j true, by omega, by simp [h2], n2, by omega, by omega, h6, by go_num, by go_num, HST.out⟩
          case measure => simp [intOf] <;> omega
        · rw [lenR_seen _ _ _ _ hb] at h5 h6
          dsimp only at h5 h6
          have hR1le := hn7
          have HR1 := hide (show (cycR (nx p) (k + 1)).1 = s from by
            show (lenR (nx p) 7 (cycR (nx p) k).1 k).2 = s
            rw [← HS0.out, ← HR.out, ← h6])
          have HR2 := hide (show (cycR (nx p) (k + 1)).2 = if n = 0 then (cycR (nx p) k).2 else (cycR (nx p) k).2 ++ [(n : Int)] from by
            show (if (lenR (nx p) 7 (cycR (nx p) k).1 k).1 = 0 then (cycR (nx p) k).2 else (cycR (nx p) k).2 ++ [((lenR (nx p) 7 (cycR (nx p) k).1 k).1 : Int)]) = _
            rw [← HS0.out, ← HR.out, ← h5]
            rfl)
          rw [hb] at c0
          have hcl := cycR_len (nx p) k
          clear h4 h5 h6 hb hR1le
          obtain ⟨pl, hpl⟩ : ∃ pl, pl = (cycR (nx p) k).2.length := ⟨_, rfl⟩
          have HPL := hide hpl
          rw [← hpl] at O hcl
          clear hpl
          have HO := hide O
          have HS := hide S
          have HA := hide A
          have HQ := hide q
          clear S O A q
          rcases Nat.eq_zero_or_pos n with rfl | hn0
          · rw [if_pos rfl] at HR2
            go_wp2
            go_roundw
            case rel => exact ⟨k + 1, by omega, by go_num, by rw [HR2.out, ← HPL.out]; exact HO.out, by rw [HR1.out]; exact HS.out, HA.out, HQ.out, hws⟩
            case measure => simp [intOf] <;> omega
          · rw [if_neg (by omega)] at HR2
            have hni0 : (0 : Int) < (n : Int) := by omega
            go_wp2_with (at_builtin; refine wpList_append_own_at _ rfl _ _ 45 rfl w2.heap.size 3 i0 (.int .i64 0) 1 8 Tryd.underlying45 HI.out HZ0.out HZ1.out HZ2.out rfl (by decide) _ _ _ rfl (HO.out.alloc _) ⟨_, 0, none⟩ 1 1 [.int .i64 (n : Int)] rfl rfl (cell_one_newR _ _ _) (by intro u hu; simp only [List.mem_singleton] at hu; subst hu; rfl) (by unfold maxLen; omega) (by omega) (by simp; omega) ?_; intro v' w4 hown hgr hnil hblk)
            have HO4 := hide (show w4.ownsRow w2.heap.size 3 1 v' (cycR (nx p) (k + 1)).2.length (ints (cycR (nx p) (k + 1)).2) from by
              rw [HR2.out, List.length_append, ← HPL.out, ints_snoc]
              exact hown)
            have hnb : ∀ b, b < w2.heap.size → some b ≠ u4.ownBlock := fun b hb h => by have := (HO.out.lt b h.symm).1; omega
            have HS4 := hide ((HS.out.alloc _).grown hgr (hnb _ hsz))
            have HA4 := hide ((HA.out.alloc _).grown hgr (hnb _ (by omega)))
            have HQ4 := hide ((HQ.out.alloc HQ.out.size _).grown hgr (by have := HQ.out.size; simp; omega) (fun j hj => by have := (HO.out.lt j hj).1; omega))
            have hws4 := Nat.le_trans (Nat.le_trans hws (by simp : wr.heap.size ≤ (wr.alloc (.cells #[.int .i64 (n : Int)] 3)).heap.size)) hgr.size
            clear hown hgr hnil hblk hnb HO HS HA HQ
            go_wp2
            go_roundw
            case rel => exact ⟨k + 1, by omega, by go_num, HO4.out, by rw [HR1.out]; exact HS4.out, HA4.out, HQ4.out, hws4⟩
            case measure => simp [intOf] <;> omega
    · obtain rfl : k = 6 := by omega
      have HSRT := hide (cyc_sorted HP.out)
      have hcl := cycR_len (nx p) 6
      have hcy : (cycL p).length = (cycR (nx p) 6).2.length := by unfold cycL; rw [insN_fold_len]; simp
      generalize (cycR (nx p) 6).2 = L at O HSRT hcl hcy
      have HO := hide (own_mono O b2s)
      have HQ := hide q
      have HCY := hide hcy
      clear S A q O hcy
      have hown := HO.out
      rcases hown.2 with ⟨h0, hl0⟩ | ⟨g, cap, cur, hv, hbg, hg, hc1, hc2, hc3, hc4⟩
      · have h00 : cycL p = [] := List.eq_nil_of_length_eq_zero (by rw [HCY.out]; exact hl0)
        have H00 := hide h00
        clear hown hl0 h00
        subst h0
        go_wp2_with fail
        refine (Tryd.slices_Sort_int_none none 0 _).mono ?_
        rintro e w3 ⟨rfl, rfl⟩
        go_wp2
        go_returns
        exact ⟨_, rfl, by rw [H00.out]; exact World.ownsRow_nil _ _ _ _, HQ.out⟩
      · have HSN := hide (fun (W : World) (hW : W.heap = wr.heap) => Tryd.slices_Sort_int g 0 cap L W (by
          have hg' : W.heap[g]? = some (.cells cur 3 (0, 0)) := by rw [hW]; exact hg
          exact holds_of_blockI hg' (by simpa [ints] using hc4)) (by rw [hW]; exact lt_of_block hg) (by omega))
        have HG := hide hg
        have HC := hide (And.intro hbg (And.intro hc1 (And.intro hc2 hc3)))
        clear hown hg hbg hc1 hc2 hc3 hc4
        subst hv
        go_wp2_with fail
        refine (HSN.out _ rfl).mono ?_
        rintro e w3 ⟨rfl, nn, os, rfl⟩
        rw [HSRT.out]
        have HO3 := hide (ownsRow_sortedI (n := nn) (os := os) (ts := cycL p) (ss := L) HCY.out HC.out.1 HG.out HC.out.2.1 HC.out.2.2.1 HC.out.2.2.2)
        have hgr := grownBy_sortedI (w := wr) (g := g) (n := nn) (os := os) (cycL p).toArray
        have HQ3 := hide (HQ.out.grown hgr HQ.out.size (fun k hk => by cases hk; exact HC.out.1))
        clear hgr HQ HO
        generalize Sort.grow _ _ = w3 at HO3 HQ3 ⊢
        go_wp2
        go_returns
        exact ⟨_, rfl, by rw [HCY.out]; exact HO3.out, HQ3.out⟩
end Go.Proofs.YtjikpkembcnfnaaDoor
