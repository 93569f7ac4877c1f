/- The model's sorted dice (diWays); the walks of the law of CountWays. -/
import Derived.Test.YtjikpkembcnfnaaDoorLess
import Derived.Test.YtjikpkembcnfnaaDoorWordTo
import Derived.Laws.OwnMore
namespace Go.Proofs.YtjikpkembcnfnaaDoor
set_option maxRecDepth 100000
set_option linter.all false
open Go.RowKit

/-- All dice that rolls make, sorted. -/
def waysL (d : D) : List D := insM ((bfs d).map (·.1)) (bfs d).length
theorem own_monoW {w : World} {B B' : Nat} {e : TypeId} {z : Nat} {v : Value} {n : Nat} {xs : List Value} (h : w.ownsRow B e z v n xs) (hb : B' ≤ B) : w.ownsRow B' e z v n xs := by
  obtain ⟨h1, h2⟩ := h
  refine ⟨h1, ?_⟩
  rcases h2 with h | ⟨g, cap, cur, hv, hb', rest⟩
  · exact .inl h
  · exact .inr ⟨g, cap, cur, hv, Nat.le_trans hb hb', rest⟩
theorem own_toW {w w0 w1 : World} {B : Nat} {e : TypeId} {z : Nat} {v : Value} {n : Nat} {xs : List Value} (hb : Below w0.heap.size w0 w1) (h : w.ownsRow B e z v n xs) (eq : w0.heap = w.heap) : w1.ownsRow B e z v n xs := by
  obtain ⟨h1, h2⟩ := h
  refine ⟨h1, ?_⟩
  rcases h2 with h | ⟨g, cap, cur, hv, hb', hg, rest⟩
  · exact .inl h
  · refine .inr ⟨g, cap, cur, hv, hb', ?_, rest⟩
    have hl : g < w.heap.size := by
      rcases Nat.lt_or_ge g w.heap.size with h | h
      · exact h
      · rw [Array.getElem?_eq_none h] at hg; cases hg
    rw [hb.block g (by rw [eq]; exact hl), eq]
    exact hg
theorem dcellsW_one (O : List D) : ∀ u ∈ cellsW O, u.oneCell' = true := by
  intro u hu
  simp only [cellsW, List.mem_flatMap] at hu
  obtain ⟨x, _, hx⟩ := hu
  simp only [dcells, List.mem_cons, List.not_mem_nil, or_false] at hx
  rcases hx with rfl | rfl | rfl | rfl | rfl | rfl <;> rfl
theorem run_lo (g m cq k : Nat) (hk : k ≤ cq) (h0 : 0 < cq) (wx : World) : (Instr.slice 40 (.slice (some ⟨g, 0, none⟩) m cq) none (some (.int .i64 (k : Int))) none).run Tryd.prog wx = .ok (.slice (some ⟨g, 0, none⟩) k cq) wx := by
  have h1 : (0 : Int) ≤ (k : Int) ∧ (k : Int) ≤ (cq : Int) := by omega
  have h2 : ¬ cq = 0 := by omega
  simp [Instr.slice, run_underlying Tryd.underlying40, Instr.sliceBounds, Instr.sliceBound, asIntOf, go_sem, h1, h2, Addr.add]
  intro h
  omega
theorem run_hi (g m cq k : Nat) (hk : k ≤ m) (hm : m ≤ cq) (wx : World) : (Instr.slice 40 (.slice (some ⟨g, 0, none⟩) m cq) (some (.int .i64 (k : Int))) none none).run Tryd.prog wx = .ok (.slice (some ⟨g, if cq = k then 0 else k * 6, none⟩) (m - k) (cq - k)) wx := by
  have h1 : (0 : Int) ≤ (k : Int) ∧ (k : Int) ≤ (m : Int) := by omega
  by_cases h2 : cq = k
  · subst h2
    simp [Instr.slice, run_underlying Tryd.underlying40, Instr.sliceBounds, Instr.sliceBound, asIntOf, go_sem, h1]
    intro h
    omega
  · simp [Instr.slice, run_underlying Tryd.underlying40, Instr.sliceBounds, Instr.sliceBound, asIntOf, go_sem, h1, h2, Addr.add]
    rw [if_pos hk]
    by_cases hz : k = 0
    · subst hz
      simp
    · have h6 : ¬ k * 6 = 0 := by omega
      simp [h6]
theorem run_append_nothing {P : Program} (w : World) (t ty e : TypeId) (i : TypeInfo) (ht : P.underlying t = some (.slice e)) (hi : P.info? e = some i) (a : Addr) (n c : Nat) (h : n ≤ c) :
    (Builtin.append_ #[t, t] ty #[.slice (some a) n c, .slice none 0 0]).run P w = .ok (.slice (some a) n c) w := by
  simp [Builtin.append_, run_underlying ht, sizeOf, typeInfo, hi, Builtin.lenOf, Builtin.firstCells, h, storeCells]
theorem own_formW {w : World} {base : Nat} {e : TypeId} {size : Nat} {v : Value} {n : Nat} {xs : List Value} (h : w.ownsRow base e size v n xs) (hn : 0 < n) :
    ∃ g cap, v = .slice (some ⟨g, 0, none⟩) n cap ∧ base ≤ g ∧ g < w.heap.size ∧ n ≤ cap := by
  rcases h.2 with ⟨_, h0⟩ | ⟨g, cap, cur, hv, hb, hg, hc, _⟩
  · omega
  · refine ⟨g, cap, hv, hb, ?_, hc⟩
    rcases Nat.lt_or_ge g w.heap.size with hlt | hge
    · exact hlt
    · rw [Array.getElem?_eq_none hge] at hg; cases hg
theorem wp_append_nothing {P : Program} {w : World} {o : Oper} {a : Act} {K : Act → World → Prop} {Q : Exit → Act → World → Prop} (s x : Operand) (t : TypeId)
    (ho : o.op = .call { callee := .builtin .append, args := #[s, x], argTypes := #[t, t] }) (e : TypeId) (i : TypeInfo) (ht : P.underlying t = some (.slice e)) (hi : P.info? e = some i)
    (ad : Addr) (n c : Nat) (hc : n ≤ c) (hs : a.eval s = .slice (some ad) n c) (hx : a.eval x = .slice none 0 0) (h : K (a.put o.dst (.slice (some ad) n c)) w) : o.wp P a w K Q := by
  have hr := run_append_nothing (P := P) w t o.type e i ht hi ad n c hc
  unfold Oper.wp execOp
  simp only [ho, resolve, invoke, builtin, Sem.run_bind, Sem.run_pure, Result.andThen_ok, List.map_toArray, List.map_cons, List.map_nil, hs, hx, hr]
  exact h
theorem step_append_nothing {P : Program} {ops : Array Oper} {o : Oper} {a : Act} {w : World} {K : Act → World → Prop} {Q : Exit → Act → World → Prop} {E : Prop} (hg : o.guard = none) (s x : Operand) (t : TypeId)
    (ho : o.op = .call { callee := .builtin .append, args := #[s, x], argTypes := #[t, t] }) (e : TypeId) (i : TypeInfo) (ht : P.underlying t = some (.slice e)) (hi : P.info? e = some i)
    (ad : Addr) (n c : Nat) (hc : n ≤ c) (hs : a.eval s = .slice (some ad) n c) (hx : a.eval x = .slice none 0 0) (h : K (a.put o.dst (.slice (some ad) n c)) w) :
    if Region.wanted o (yielded ops a.tmps) = true then Oper.wp P o a w K Q else E := by
  have hw : Region.wanted o (yielded ops a.tmps) = true := by simp [Region.wanted, hg]
  rw [if_pos hw]
  exact wp_append_nothing s x t ho e i ht hi ad n c hc hs hx h
theorem wpList_append_nothing {P : Program} {w : World} {ops : Array Oper} {rest : List Oper} {o : Oper} {a : Act} {Q : Exit → Act → World → Prop} (hgd : o.guard = none) (s x : Operand) (t : TypeId)
    (ho : o.op = .call { callee := .builtin .append, args := #[s, x], argTypes := #[t, t] }) (e : TypeId) (i : TypeInfo) (ht : P.underlying t = some (.slice e)) (hi : P.info? e = some i)
    (ad : Addr) (n c : Nat) (hc : n ≤ c) (hs : a.eval s = .slice (some ad) n c) (hx : a.eval x = .slice none 0 0) (h : wpList P ops Q rest (a.put o.dst (.slice (some ad) n c)) w) : wpList P ops Q (o :: rest) a w :=
  wpList_plain hgd fun _ hK => wp_append_nothing s x t ho e i ht hi ad n c hc hs hx (hK _ _ h)
/-- Does the next one of the sorted dice come before x? -/
def nextB (x : D) (O : List D) (k : Nat) : Bool := match O[k]? with
  | some y => lessD y x
  | none => false
theorem row6_new (x : D) (w : World) (t : TypeId) : ∀ (k : Nat) (u : Value), (dcells x)[k]? = some u → (w.alloc (.cells #[.int .i64 x.t, .int .i64 x.n, .int .i64 x.e, .int .i64 x.s, .int .i64 x.w, .int .i64 x.b] t)).cell? ((⟨w.heap.size, 0, none⟩ : Addr).add k) = some u := by
  intro k u h
  obtain ⟨-, ⟨c0, c1, c2, c3, c4, c5⟩, -⟩ := (IsD.new (w := w) (d := x) (ty := t)).all
  match k, h with
  | 0, h => simp [dcells] at h; subst h; simpa [Addr.add] using c0
  | 1, h => simp [dcells] at h; subst h; simpa [Addr.add] using c1
  | 2, h => simp [dcells] at h; subst h; simpa [Addr.add] using c2
  | 3, h => simp [dcells] at h; subst h; simpa [Addr.add] using c3
  | 4, h => simp [dcells] at h; subst h; simpa [Addr.add] using c4
  | 5, h => simp [dcells] at h; subst h; simpa [Addr.add] using c5
  | k + 6, h => simp [dcells] at h
/-- x's new block, wherever it was made. -/
theorem six_kept {w w' : World} {b : Nat} {x : D} {t : TypeId} (h : IsD w b x t) (e : w'.heap[b]? = w.heap[b]?) : ∀ (k : Nat) (u : Value), (dcells x)[k]? = some u → w'.cell? ((⟨b, 0, none⟩ : Addr).add k) = some u := by
  intro k u hu
  have h' : IsD w' b x t := e.trans h
  obtain ⟨-, ⟨c0, c1, c2, c3, c4, c5⟩, -⟩ := h'.all
  match k, hu with
  | 0, h => simp [dcells] at h; subst h; simpa [Addr.add] using c0
  | 1, h => simp [dcells] at h; subst h; simpa [Addr.add] using c1
  | 2, h => simp [dcells] at h; subst h; simpa [Addr.add] using c2
  | 3, h => simp [dcells] at h; subst h; simpa [Addr.add] using c3
  | 4, h => simp [dcells] at h; subst h; simpa [Addr.add] using c4
  | 5, h => simp [dcells] at h; subst h; simpa [Addr.add] using c5
  | k + 6, h => simp [dcells] at h
theorem cells_kept {w w' : World} {g : Nat} {xs : List Value} (h : ∀ j u, xs[j]? = some u → w.cell? ((⟨g, 0, none⟩ : Addr).add j) = some u) (e : w'.heap[g]? = w.heap[g]?) : ∀ j u, xs[j]? = some u → w'.cell? ((⟨g, 0, none⟩ : Addr).add j) = some u := by
  intro j u hu
  have := h j u hu
  rw [← this]
  apply World.cell?_of_block
  have hb : ((⟨g, 0, none⟩ : Addr).add j).block = g := by unfold Addr.add; split <;> rfl
  rw [hb]
  exact e
/-- The first k dice of a row, and those from k on. -/
theorem lo_cells {w : World} {B g m c : Nat} {OL : List D} (k : Nat) (h : w.ownsRow B 30 6 (.slice (some ⟨g, 0, none⟩) m c) m (cellsW OL)) : ∀ j u, (cellsW (OL.take k))[j]? = some u → w.cell? ((⟨g, 0, none⟩ : Addr).add j) = some u := by
  intro j u hu
  refine h.cells rfl j u ?_
  have e : cellsW OL = cellsW (OL.take k) ++ cellsW (OL.drop k) := by rw [← cellsW_append, List.take_append_drop]
  rw [e, List.getElem?_append_left (List.getElem?_eq_some_iff.1 hu).1]
  exact hu
theorem hi_cells {w : World} {B g m c : Nat} {OL : List D} (k : Nat) (hk : k ≤ m) (hm : OL.length = m) (hc : m ≤ c) (h : w.ownsRow B 30 6 (.slice (some ⟨g, 0, none⟩) m c) m (cellsW OL)) : ∀ j u, (cellsW (OL.drop k))[j]? = some u → w.cell? ((⟨g, if c = k then 0 else k * 6, none⟩ : Addr).add j) = some u := by
  intro j u hu
  have hj := (List.getElem?_eq_some_iff.1 hu).1
  rw [cellsW_len, List.length_drop] at hj
  have hne : ¬ c = k := by
    intro e
    have : OL.length - k = 0 := by omega
    rw [this] at hj
    omega
  rw [if_neg hne]
  have hl : (cellsW (OL.take k)).length = k * 6 := by rw [cellsW_len, List.length_take]; congr 1; omega
  have e : cellsW OL = cellsW (OL.take k) ++ cellsW (OL.drop k) := by rw [← cellsW_append, List.take_append_drop]
  have hx : (cellsW OL)[k * 6 + j]? = some u := by
    rw [e, List.getElem?_append_right (by omega), hl, Nat.add_sub_cancel_left]
    exact hu
  have := h.cells (g := g) rfl (k * 6 + j) u hx
  have a1 : ((⟨g, k * 6, none⟩ : Addr).add j) = ⟨g, k * 6 + j, none⟩ := by unfold Addr.add; split <;> simp_all
  have a2 : ((⟨g, 0, none⟩ : Addr).add (k * 6 + j)) = ⟨g, k * 6 + j, none⟩ := by unfold Addr.add; split <;> simp_all
  rw [a1, ← a2]
  exact this

set_option maxHeartbeats 3200000 in
theorem diWays_any (d : D) (w : World) : Calls Tryd.prog 37 #[D.v d] w fun e w' => ∃ v, e = .returned v ∧ w'.ownsRow w.heap.size 30 6 v (bfs d).length (cellsW (waysL d)) ∧ Below w.heap.size w w' := by
  unfold waysL
  have hG := bfs_good d
  have hpos := bfs_pos d
  generalize hL : bfs d = L at hG hpos ⊢
  have HL := hide hL
  clear hL
  have h24 := hG.le
  obtain ⟨i0, hi, hz0, hz1, hz2⟩ := info_parts info_die
  have HI := hide hi
  have HZ0 := hide hz0
  have HZ1 := hide hz1
  have HZ2 := hide hz2
  clear hi hz0 hz1 hz2
  go_enter Tryd.func37, Tryd.ntmps37
  go_wp2_with fail
  refine (diSearch_any d _).mono ?_
  rintro e w1 ⟨v, u, rfl, hI⟩
  rw [HL.out] at hI
  have b1 : Below w.heap.size w w1 := below_after (by go_grown) hI.below (by simp)
  obtain ⟨g, cap, g', cap', rfl, rfl⟩ := hI.slices hpos
  have HII := hide hI
  clear hI hG
  go_wp2
  go_loopw [17, 5, 7, 8, 9] (fun i o _ _ _ wr => ∃ m : Nat, m ≤ L.length ∧ i = .int .i64 (m : Int) ∧ wr.ownsRow w1.heap.size 30 6 o m (cellsW (insM (L.map (·.1)) m)) ∧ (m = 0 → o = .slice none 0 0) ∧ Below w1.heap.size w1 wr) (fun i _ _ _ _ _ => L.length - (intOf i).toNat)
  case atStart => exact ⟨0, Nat.zero_le _, rfl, World.ownsRow_nil _ _ _ _, fun _ => rfl, Below.refl _ _⟩
  case round =>
    obtain ⟨m, hm, rfl, O, hO0, hb⟩ := hrel
    have b3 : Below w.heap.size w wr := below_to hb b1 b1.size rfl rfl rfl rfl
    by_cases hlt : m < L.length
    · have hr : L[m]? = some (L[m]'hlt) := List.getElem?_eq_getElem hlt
      generalize L[m]'hlt = r at hr
      obtain ⟨c0, c1, c2, c3, c4, c5⟩ := (HII.out.kept w1 rfl rfl rfl rfl hb).cell hr
      have HS := hide (insM_succ (L.map (·.1)) m r.1 (by rw [List.getElem?_map, hr]; rfl))
      have hlen := insM_len (L.map (·.1)) m (by simpa using hm)
      generalize r.1 = x at c0 c1 c2 c3 c4 c5 HS
      generalize insM (L.map (·.1)) m = OL at O HS hlen
      have hmi : (m : Int) < (L.length : Int) := by omega
      have X := IsD.new (w := wr) (d := x) (ty := 30)
      have O2 := O.alloc (.cells #[.int .i64 x.t, .int .i64 x.n, .int .i64 x.e, .int .i64 x.s, .int .i64 x.w, .int .i64 x.b] 30)
      have B2 := hb.alloc hb.size (.cells #[.int .i64 x.t, .int .i64 x.n, .int .i64 x.e, .int .i64 x.s, .int .i64 x.w, .int .i64 x.b] 30)
      clear hr O
      go_upto_region 6 with (fail)
      clear c0 c1 c2 c3 c4 c5
      generalize wr.heap.size = bx at X ⊢
      generalize wr.alloc (.cells #[.int .i64 x.t, .int .i64 x.n, .int .i64 x.e, .int .i64 x.s, .int .i64 x.w, .int .i64 x.b] 30) = W2 at X O2 B2 ⊢
      rcases Nat.eq_zero_or_pos m with rfl | hm0
      · obtain rfl := hO0 rfl
        have hOL : OL = [] := List.eq_nil_of_length_eq_zero hlen
        subst hOL
        clear hO0
        have HX := hide X
        have HB := hide B2
        clear O2 B2 X
        go_wp2
        go_loopw [8] (fun kk wx => kk = .int .i64 0 ∧ IsD wx bx x 30 ∧ Below w1.heap.size w1 wx) (fun _ _ => 0)
        case atStart => exact ⟨rfl, HX.out, HB.out⟩
        case round =>
          obtain ⟨rfl, X, Bx⟩ := hrel
          clear HX HB
          have HX := hide X
          have HB := hide Bx
          obtain ⟨lx, ⟨y0, y1, y2, y3, y4, y5⟩, -⟩ := X.all
          clear X Bx
          go_upto_region 7 with (fail)
          go_cut [32] from 21 to 34 (fun r wx => r = .bool false ∧ IsD wx bx x 30 ∧ Below w1.heap.size w1 wx)
          case first =>
            first | go_region_with (fail) | fail "region 7"
            all_goals
              go_wp2_with fail
              go_meet
              exact ⟨rfl, HX.out, HB.out.drew⟩
          obtain ⟨rfl, X, Bx⟩ := hcut
          clear HX HB y0 y1 y2 y3 y4 y5 lx
          obtain ⟨lx, ⟨y0, y1, y2, y3, y4, y5⟩, -⟩ := X.all
          have HE := hide (World.ownsRow_made (base := wc.heap.size) (e := 30) (size := 6) wc #[] 0 (Nat.le_refl _) (by unfold maxLen; omega) rfl)
          have HB := hide Bx
          have H1 := hide (show ∀ u ∈ dcells x, u.oneCell' = true from fun u hu => dcellsW_one [x] u (by simpa [cellsW] using hu))
          have HOA := hide (HE.out.alloc (.cells #[.int .i64 x.t, .int .i64 x.n, .int .i64 x.e, .int .i64 x.s, .int .i64 x.w, .int .i64 x.b] 30))
          have HOB := hide (show ((wc.alloc (.cells #[.int .i64 x.t, .int .i64 x.n, .int .i64 x.e, .int .i64 x.s, .int .i64 x.w, .int .i64 x.b] 30)).alloc (.cells #[] 30)).ownsRow wc.heap.size 30 6 (.slice (some ⟨wc.heap.size + 1, 0, none⟩) 0 0) 0 [] from by
            have := World.ownsRow_made (base := wc.heap.size) (e := 30) (size := 6) (wc.alloc (.cells #[.int .i64 x.t, .int .i64 x.n, .int .i64 x.e, .int .i64 x.s, .int .i64 x.w, .int .i64 x.b] 30)) #[] 0 (by simp) (by unfold maxLen; omega) rfl
            simpa using this)
          have HCA := hide (show ∀ (k : Nat) (u : Value), (dcells x)[k]? = some u → (((wc.alloc (.cells #[] 30)).alloc (.cells #[.int .i64 x.t, .int .i64 x.n, .int .i64 x.e, .int .i64 x.s, .int .i64 x.w, .int .i64 x.b] 30)).drew).cell? ((⟨wc.heap.size + 1, 0, none⟩ : Addr).add k) = some u from six_kept (w := (wc.alloc (.cells #[] 30)).alloc (.cells #[.int .i64 x.t, .int .i64 x.n, .int .i64 x.e, .int .i64 x.s, .int .i64 x.w, .int .i64 x.b] 30)) (IsD.new2) rfl)
          have HCB := hide (show ∀ (k : Nat) (u : Value), (dcells x)[k]? = some u → (((wc.alloc (.cells #[.int .i64 x.t, .int .i64 x.n, .int .i64 x.e, .int .i64 x.s, .int .i64 x.w, .int .i64 x.b] 30)).alloc (.cells #[] 30)).drew).cell? ((⟨wc.heap.size, 0, none⟩ : Addr).add k) = some u from six_kept (w := (wc.alloc (.cells #[.int .i64 x.t, .int .i64 x.n, .int .i64 x.e, .int .i64 x.s, .int .i64 x.w, .int .i64 x.b] 30)).alloc (.cells #[] 30)) ((IsD.new (w := wc)).alloc (.cells #[] 30)) rfl)
          have HBA := hide (show Below w1.heap.size w1 ((wc.alloc (.cells #[] 30)).alloc (.cells #[.int .i64 x.t, .int .i64 x.n, .int .i64 x.e, .int .i64 x.s, .int .i64 x.w, .int .i64 x.b] 30)) from (HB.out.alloc HB.out.size _).alloc (by have := HB.out.size; simp; omega) _)
          have HBB := hide (show Below w1.heap.size w1 ((wc.alloc (.cells #[.int .i64 x.t, .int .i64 x.n, .int .i64 x.e, .int .i64 x.s, .int .i64 x.w, .int .i64 x.b] 30)).alloc (.cells #[] 30)) from (HB.out.alloc HB.out.size _).alloc (by have := HB.out.size; simp; omega) _)
          clear Bx X HE
          go_upto_region 9 with (fail)
          go_cut [9] from 18 to 48 (fun nx wx => wx.ownsRow wc.heap.size 30 6 nx (0 + 1) ([] ++ dcells x) ∧ Below w1.heap.size w1 wx)
          case first =>
            go_region_law (first
              | (refine step_append_nothing (w := ((wc.alloc (.cells #[] 30)).drew)) rfl (.tmp 35) (.tmp 38) 40 rfl 30 i0 Tryd.underlying40 HI.out ⟨wc.heap.size, 0, none⟩ 0 0 (Nat.le_refl _) (by simp [Act.eval]; done) (by simp [Act.eval]; done) ?_)
              | (refine step_append_nothing (w := (((wc.alloc (.cells #[] 30)).alloc (.cells #[.int .i64 x.t, .int .i64 x.n, .int .i64 x.e, .int .i64 x.s, .int .i64 x.w, .int .i64 x.b] 30)).drew)) rfl (.tmp 35) (.tmp 38) 40 rfl 30 i0 Tryd.underlying40 HI.out ⟨wc.heap.size, 0, none⟩ 0 0 (Nat.le_refl _) (by simp [Act.eval]; done) (by simp [Act.eval]; done) ?_)
              | (refine step_append_nothing (w := (((wc.alloc (.cells #[.int .i64 x.t, .int .i64 x.n, .int .i64 x.e, .int .i64 x.s, .int .i64 x.w, .int .i64 x.b] 30)).alloc (.cells #[] 30)).drew)) rfl (.tmp 35) (.tmp 38) 40 rfl 30 i0 Tryd.underlying40 HI.out ⟨(wc.heap.size + 1), 0, none⟩ 0 0 (Nat.le_refl _) (by simp [Act.eval]; done) (by simp [Act.eval]; done) ?_)              | (refine step_append_own rfl (.tmp 39) (.tmp 41) 40 rfl wc.heap.size 30 i0 (.agg #[.int .i64 0, .int .i64 0, .int .i64 0, .int .i64 0, .int .i64 0, .int .i64 0]) 6 48 Tryd.underlying40 HI.out HZ0.out HZ1.out HZ2.out rfl (by decide) (.slice (some ⟨wc.heap.size, 0, none⟩) 0 0) 0 [] (by simp [Act.eval]; done) (own_drew HOA.out) ⟨(wc.heap.size + 1), 0, none⟩ 1 1 (dcells x) (by simp [Act.eval]; done) rfl HCA.out H1.out (by unfold maxLen; omega) (by omega) (by show wc.heap.size ≤ (World.alloc _ _).heap.size; simp; omega) ?_; intro v2 w4 hown4 hg4; have B4 : Below w1.heap.size w1 w4 := ((HBA.out).drew).grown hg4 (by have := HB.out.size; show w1.heap.size ≤ (World.alloc _ _).heap.size; simp; omega) (fun j hj => by have := HB.out.size; simp [Value.ownBlock] at hj; omega))
              | (refine step_append_own rfl (.tmp 39) (.tmp 41) 40 rfl wc.heap.size 30 i0 (.agg #[.int .i64 0, .int .i64 0, .int .i64 0, .int .i64 0, .int .i64 0, .int .i64 0]) 6 48 Tryd.underlying40 HI.out HZ0.out HZ1.out HZ2.out rfl (by decide) (.slice (some ⟨(wc.heap.size + 1), 0, none⟩) 0 0) 0 [] (by simp [Act.eval]; done) (own_drew HOB.out) ⟨wc.heap.size, 0, none⟩ 1 1 (dcells x) (by simp [Act.eval]; done) rfl HCB.out H1.out (by unfold maxLen; omega) (by omega) (by show wc.heap.size ≤ (World.alloc _ _).heap.size; simp; omega) ?_; intro v2 w4 hown4 hg4; have B4 : Below w1.heap.size w1 w4 := ((HBB.out).drew).grown hg4 (by have := HB.out.size; show w1.heap.size ≤ (World.alloc _ _).heap.size; simp; omega) (fun j hj => by have := HB.out.size; simp [Value.ownBlock] at hj; omega)))
            all_goals
              go_wp2_with fail
              go_meet
              exact ⟨hown4, B4⟩
          obtain ⟨hown4, B4⟩ := hcut
          obtain ⟨g2, c2, rfl, hg2, -, hc2⟩ := own_formW hown4 (by omega)
          have HN := hide (own_monoW hown4 HB.out.size)
          clear hown4 HB HOA HOB HCA HCB HBA HBB H1 y0 y1 y2 y3 y4 y5 lx
          go_upto_region 10 with (fail)
          go_wp2_with (at_builtin; refine wpList_append_nothing rfl _ _ 40 rfl 30 i0 Tryd.underlying40 HI.out ⟨g2, 0, none⟩ (0 + 1) c2 hc2 rfl rfl ?_)
          go_roundw
          case rel => exact ⟨1, by omega, by go_num, by rw [HS.out]; exact HN.out, fun h => by omega, B4⟩
          case measure => simp [intOf] <;> omega
      · obtain ⟨gq, cq, rfl, hgq, hgl, hcq⟩ := own_formW O2 hm0
        clear hO0
        have HX := hide X
        have HO := hide O2
        have HB := hide B2
        clear O2 B2 X
        go_wp2
        go_loopw [8] (fun kk wx => ∃ k : Nat, k ≤ m ∧ kk = .int .i64 (k : Int) ∧ (∀ j y, j < k → OL[j]? = some y → lessD y x = true) ∧ IsD wx bx x 30 ∧ wx.ownsRow w1.heap.size 30 6 (.slice (some ⟨gq, 0, none⟩) m cq) m (cellsW OL) ∧ Below w1.heap.size w1 wx) (fun kk _ => m - (intOf kk).toNat)
        case atStart => exact ⟨0, Nat.zero_le _, rfl, fun j y hj => absurd hj (by omega), HX.out, HO.out, HB.out⟩
        case round =>
          obtain ⟨k, hk, rfl, hall, X, O, Bx⟩ := hrel
          clear HX HO HB
          have HALL := hide hall
          have HX := hide X
          have HO := hide O
          have HB := hide Bx
          clear hall
          go_upto_region 7 with (fail)
          go_cut [32] from 21 to 34 (fun r wx => r = .bool (nextB x OL k) ∧ IsD wx bx x 30 ∧ wx.ownsRow w1.heap.size 30 6 (.slice (some ⟨gq, 0, none⟩) m cq) m (cellsW OL) ∧ Below w1.heap.size w1 wx)
          case first =>
            by_cases hkm : k < m
            · have hy : OL[k]? = some (OL[k]'(by omega)) := List.getElem?_eq_getElem (by omega)
              generalize OL[k]'(by omega) = y at hy
              have HNB := hide (show nextB x OL k = lessD y x from by unfold nextB; rw [hy])
              have HY := hide hy
              obtain ⟨a0, a1, a2, a3, a4, a5⟩ := row6_at k O hkm hy
              obtain ⟨lx, ⟨b0, b1, b2, b3, b4, b5⟩, -⟩ := X.all
              have hki : (k : Int) < (m : Int) := by omega
              clear X O Bx hy
              go_region_held3 (fun w' => w'.cell? ⟨gq, k * 6, none⟩ = some (.int .i64 y.t) ∧ w'.cell? ⟨gq, k * 6 + 1, none⟩ = some (.int .i64 y.n) ∧ w'.cell? ⟨gq, k * 6 + 2, none⟩ = some (.int .i64 y.e) ∧ w'.cell? ⟨gq, k * 6 + 3, none⟩ = some (.int .i64 y.s) ∧ w'.cell? ⟨gq, k * 6 + 4, none⟩ = some (.int .i64 y.w) ∧ w'.cell? ⟨gq, k * 6 + 5, none⟩ = some (.int .i64 y.b) ∧ w'.cell? ⟨bx, 0, none⟩ = some (.int .i64 x.t) ∧ w'.cell? ⟨bx, 1, none⟩ = some (.int .i64 x.n) ∧ w'.cell? ⟨bx, 2, none⟩ = some (.int .i64 x.e) ∧ w'.cell? ⟨bx, 3, none⟩ = some (.int .i64 x.s) ∧ w'.cell? ⟨bx, 4, none⟩ = some (.int .i64 x.w) ∧ w'.cell? ⟨bx, 5, none⟩ = some (.int .i64 x.b)) (first | (refine ⟨?_, ?_, ?_, ?_, ?_, ?_, ?_, ?_, ?_, ?_, ?_, ?_⟩ <;> with_reducible assumption) | (refine ⟨?_, ?_, ?_, ?_, ?_, ?_, ?_, ?_, ?_, ?_, ?_, ?_⟩ <;> assumption))
                (first
                  | (go_at_call 68; (with_reducible refine (diLess_any y x _).mono ?_); rintro e w5 ⟨rfl, hb5⟩; have X5 := isD_to hb5 HX.out rfl; have O5 := own_toW hb5 HO.out rfl; have B5 := below_to hb5 HB.out HB.out.size rfl rfl rfl rfl; clear hb5 a0 a1 a2 a3 a4 a5 b0 b1 b2 b3 b4 b5; obtain ⟨lx5, ⟨b0, b1, b2, b3, b4, b5⟩, -⟩ := X5.all; obtain ⟨a0, a1, a2, a3, a4, a5⟩ := row6_at k O5 hkm HY.out))
              go_wp2_with fail
              go_meet
              exact ⟨by rw [HNB.out], X5, O5, B5⟩
            · have HNB := hide (show nextB x OL k = false from by unfold nextB; rw [List.getElem?_eq_none (by omega)])
              have hki : ¬ ((k : Int) < (m : Int)) := by omega
              clear X O Bx
              first | go_region_with (fail) | fail "region 7 b"
              all_goals
                go_wp2_with fail
                go_meet
                exact ⟨by rw [HNB.out], HX.out, HO.out, HB.out.drew⟩
          obtain ⟨rfl, X, O, Bx⟩ := hcut
          clear HX HO HB
          cases hnb : nextB x OL k
          · have HLD := hide (show lead x OL = k from lead_at x OL k (by omega) HALL.out (fun y hy => by
              unfold nextB at hnb
              rw [hy] at hnb
              exact hnb))
            have HIN := hide (show cellsW (insD OL x) = (([] ++ cellsW (OL.take k)) ++ dcells x) ++ cellsW (OL.drop k) from by
              unfold insD
              rw [HLD.out, cellsW_append, cellsW_append, cellsW_one]
              simp)
            have HLT := hide (show (cellsW (OL.take k)).length = k * 6 from by rw [cellsW_len, List.length_take]; congr 1; omega)
            have HLU := hide (show (cellsW (OL.drop k)).length = (m - k) * 6 from by rw [cellsW_len, List.length_drop, hlen])
            have HT1 := hide (dcellsW_one (OL.take k))
            have HT2 := hide (dcellsW_one (OL.drop k))
            have H1 := hide (show ∀ u ∈ dcells x, u.oneCell' = true from fun u hu => dcellsW_one [x] u (by simpa [cellsW] using hu))
            have slo := fun wx => run_lo gq m cq k (by omega) (by omega) wx
            obtain ⟨off, hoff⟩ : ∃ off, off = if cq = k then 0 else k * 6 := ⟨_, rfl⟩
            have shi : ∀ wx : World, (Instr.slice 40 (.slice (some ⟨gq, 0, none⟩) m cq) (some (.int .i64 (k : Int))) none none).run Tryd.prog wx = .ok (.slice (some ⟨gq, off, none⟩) (m - k) (cq - k)) wx := fun wx => by rw [hoff]; exact run_hi gq m cq k hk hcq wx
            have HOF := hide hoff
            clear hoff
            have HCO := hide (lo_cells k O)
            have hgl2 : gq < wc.heap.size := (O.lt gq rfl).2
            have HE := hide (World.ownsRow_made (base := wc.heap.size) (e := 30) (size := 6) wc #[] 0 (Nat.le_refl _) (by unfold maxLen; omega) rfl)
            have HOA := hide (HE.out.alloc (.cells #[.int .i64 x.t, .int .i64 x.n, .int .i64 x.e, .int .i64 x.s, .int .i64 x.w, .int .i64 x.b] 30))
            have HOB := hide (show ((wc.alloc (.cells #[.int .i64 x.t, .int .i64 x.n, .int .i64 x.e, .int .i64 x.s, .int .i64 x.w, .int .i64 x.b] 30)).alloc (.cells #[] 30)).ownsRow wc.heap.size 30 6 (.slice (some ⟨wc.heap.size + 1, 0, none⟩) 0 0) 0 [] from by
              have := World.ownsRow_made (base := wc.heap.size) (e := 30) (size := 6) (wc.alloc (.cells #[.int .i64 x.t, .int .i64 x.n, .int .i64 x.e, .int .i64 x.s, .int .i64 x.w, .int .i64 x.b] 30)) #[] 0 (by simp) (by unfold maxLen; omega) rfl
              simpa using this)
            have HXA := hide (IsD.new2 (w := wc) (o := (.cells #[] 30)) (d := x) (ty := 30))
            have HXB := hide ((IsD.new (w := wc) (d := x) (ty := 30)).alloc (.cells #[] 30))
            obtain ⟨lx, ⟨y0, y1, y2, y3, y4, y5⟩, -⟩ := X.all
            have HX := hide X
            have HO := hide O
            have HB := hide Bx
            clear hnb X O Bx
            go_upto_region 9 with (fail)
            go_cut [9] from 18 to 48 (fun nx wx => wx.ownsRow wc.heap.size 30 6 nx (0 + k + 1) (([] ++ cellsW (OL.take k)) ++ dcells x) ∧ Below wc.heap.size wc wx)
            case first =>
              go_region_law (first
                | (refine step_append_own (w := (wc.alloc (.cells #[] 30)).drew) rfl (.tmp 35) (.tmp 38) 40 rfl wc.heap.size 30 i0 (.agg #[.int .i64 0, .int .i64 0, .int .i64 0, .int .i64 0, .int .i64 0, .int .i64 0]) 6 48 Tryd.underlying40 HI.out HZ0.out HZ1.out HZ2.out rfl (by decide) (.slice (some ⟨wc.heap.size, 0, none⟩) 0 0) 0 [] (by simp [Act.eval]; done) (own_drew HE.out) ⟨gq, 0, none⟩ k cq (cellsW (OL.take k)) (by simp [Act.eval]; done) HLT.out (cells_kept HCO.out (Below.heap_alloc wc _ gq hgl2)) HT1.out (by unfold maxLen; omega) (by omega) (by show wc.heap.size ≤ (World.alloc _ _).heap.size; simp; try omega) ?_; intro v1 w4 hown1 hg4; have BW4 : Below wc.heap.size wc w4 := (((Below.refl _ wc).alloc (Nat.le_refl _) (.cells #[] 30)).drew).grown hg4 (by show wc.heap.size ≤ (World.alloc _ _).heap.size; simp; try omega) (fun j hj => by simp [Value.ownBlock] at hj; omega); have X4 := isD_to BW4 HX.out rfl; clear y0 y1 y2 y3 y4 y5 lx; obtain ⟨lx, ⟨y0, y1, y2, y3, y4, y5⟩, -⟩ := X4.all)
                | (refine step_append_own (w := ((wc.alloc (.cells #[] 30)).alloc (.cells #[.int .i64 x.t, .int .i64 x.n, .int .i64 x.e, .int .i64 x.s, .int .i64 x.w, .int .i64 x.b] 30)).drew) rfl (.tmp 35) (.tmp 38) 40 rfl wc.heap.size 30 i0 (.agg #[.int .i64 0, .int .i64 0, .int .i64 0, .int .i64 0, .int .i64 0, .int .i64 0]) 6 48 Tryd.underlying40 HI.out HZ0.out HZ1.out HZ2.out rfl (by decide) (.slice (some ⟨wc.heap.size, 0, none⟩) 0 0) 0 [] (by simp [Act.eval]; done) (own_drew HOA.out) ⟨gq, 0, none⟩ k cq (cellsW (OL.take k)) (by simp [Act.eval]; done) HLT.out (cells_kept HCO.out ((Below.heap_alloc (wc.alloc _) _ gq (by simp; omega)).trans (Below.heap_alloc wc _ gq hgl2))) HT1.out (by unfold maxLen; omega) (by omega) (by show wc.heap.size ≤ (World.alloc _ _).heap.size; simp; try omega) ?_; intro v1 w4 hown1 hg4; have BW4 : Below wc.heap.size wc w4 := ((((Below.refl _ wc).alloc (Nat.le_refl _) (.cells #[] 30)).alloc (by simp) (.cells #[.int .i64 x.t, .int .i64 x.n, .int .i64 x.e, .int .i64 x.s, .int .i64 x.w, .int .i64 x.b] 30)).drew).grown hg4 (by show wc.heap.size ≤ (World.alloc _ _).heap.size; simp; try omega) (fun j hj => by simp [Value.ownBlock] at hj; omega); have X4 := isD_to BW4 HX.out rfl; clear y0 y1 y2 y3 y4 y5 lx; obtain ⟨lx, ⟨y0, y1, y2, y3, y4, y5⟩, -⟩ := X4.all; have XB4 : IsD w4 (wc.heap.size + 1) x 30 := (hg4.block (wc.heap.size + 1) (by show wc.heap.size + 1 < (World.alloc _ _).heap.size; simp) (by simp [Value.ownBlock])).trans HXA.out)
                | (refine step_append_own (w := ((wc.alloc (.cells #[.int .i64 x.t, .int .i64 x.n, .int .i64 x.e, .int .i64 x.s, .int .i64 x.w, .int .i64 x.b] 30)).alloc (.cells #[] 30)).drew) rfl (.tmp 35) (.tmp 38) 40 rfl wc.heap.size 30 i0 (.agg #[.int .i64 0, .int .i64 0, .int .i64 0, .int .i64 0, .int .i64 0, .int .i64 0]) 6 48 Tryd.underlying40 HI.out HZ0.out HZ1.out HZ2.out rfl (by decide) (.slice (some ⟨(wc.heap.size + 1), 0, none⟩) 0 0) 0 [] (by simp [Act.eval]; done) (own_drew HOB.out) ⟨gq, 0, none⟩ k cq (cellsW (OL.take k)) (by simp [Act.eval]; done) HLT.out (cells_kept HCO.out ((Below.heap_alloc (wc.alloc _) _ gq (by simp; omega)).trans (Below.heap_alloc wc _ gq hgl2))) HT1.out (by unfold maxLen; omega) (by omega) (by show wc.heap.size ≤ (World.alloc _ _).heap.size; simp; try omega) ?_; intro v1 w4 hown1 hg4; have BW4 : Below wc.heap.size wc w4 := ((((Below.refl _ wc).alloc (Nat.le_refl _) (.cells #[.int .i64 x.t, .int .i64 x.n, .int .i64 x.e, .int .i64 x.s, .int .i64 x.w, .int .i64 x.b] 30)).alloc (by simp) (.cells #[] 30)).drew).grown hg4 (by show wc.heap.size ≤ (World.alloc _ _).heap.size; simp; try omega) (fun j hj => by simp [Value.ownBlock] at hj; omega); have X4 := isD_to BW4 HX.out rfl; clear y0 y1 y2 y3 y4 y5 lx; obtain ⟨lx, ⟨y0, y1, y2, y3, y4, y5⟩, -⟩ := X4.all; have XB4 : IsD w4 wc.heap.size x 30 := (hg4.block wc.heap.size (by show wc.heap.size < (World.alloc _ _).heap.size; simp; try omega) (by simp [Value.ownBlock])).trans HXB.out)
                | (refine step_append_own (w := (w4.alloc (.cells #[.int .i64 x.t, .int .i64 x.n, .int .i64 x.e, .int .i64 x.s, .int .i64 x.w, .int .i64 x.b] 30))) rfl (.tmp 39) (.tmp 41) 40 rfl wc.heap.size 30 i0 (.agg #[.int .i64 0, .int .i64 0, .int .i64 0, .int .i64 0, .int .i64 0, .int .i64 0]) 6 48 Tryd.underlying40 HI.out HZ0.out HZ1.out HZ2.out rfl (by decide) v1 (0 + k) ([] ++ cellsW (OL.take k)) (by simp [Act.eval]; done) (hown1.alloc _) ⟨w4.heap.size, 0, none⟩ 1 1 (dcells x) (by simp [Act.eval]; done) rfl (row6_new x w4 30) H1.out (by unfold maxLen; omega) (by omega) (by have := BW4.size; simp; omega) ?_; intro v2 w6 hown2 hg6; have BW6 : Below wc.heap.size wc w6 := (BW4.alloc BW4.size _).grown hg6 (by have := BW4.size; simp; omega) (fun j hj => (hown1.lt j hj).1))
                | (refine step_append_own (w := w4) rfl (.tmp 39) (.tmp 41) 40 rfl wc.heap.size 30 i0 (.agg #[.int .i64 0, .int .i64 0, .int .i64 0, .int .i64 0, .int .i64 0, .int .i64 0]) 6 48 Tryd.underlying40 HI.out HZ0.out HZ1.out HZ2.out rfl (by decide) v1 (0 + k) ([] ++ cellsW (OL.take k)) (by simp [Act.eval]; done) hown1 ⟨wc.heap.size + 1, 0, none⟩ 1 1 (dcells x) (by simp [Act.eval]; done) rfl (six_kept (b := wc.heap.size + 1) XB4 rfl) H1.out (by unfold maxLen; omega) (by omega) BW4.size ?_; intro v2 w6 hown2 hg6; have BW6 : Below wc.heap.size wc w6 := (BW4).grown hg6 BW4.size (fun j hj => (hown1.lt j hj).1))
                | (refine step_append_own (w := w4) rfl (.tmp 39) (.tmp 41) 40 rfl wc.heap.size 30 i0 (.agg #[.int .i64 0, .int .i64 0, .int .i64 0, .int .i64 0, .int .i64 0, .int .i64 0]) 6 48 Tryd.underlying40 HI.out HZ0.out HZ1.out HZ2.out rfl (by decide) v1 (0 + k) ([] ++ cellsW (OL.take k)) (by simp [Act.eval]; done) hown1 ⟨wc.heap.size, 0, none⟩ 1 1 (dcells x) (by simp [Act.eval]; done) rfl (six_kept (b := wc.heap.size) XB4 rfl) H1.out (by unfold maxLen; omega) (by omega) BW4.size ?_; intro v2 w6 hown2 hg6; have BW6 : Below wc.heap.size wc w6 := (BW4).grown hg6 BW4.size (fun j hj => (hown1.lt j hj).1)))
              all_goals
                go_wp2_with fail
                go_meet
                exact ⟨hown2, BW6⟩
            obtain ⟨hown2, BW⟩ := hcut
            obtain ⟨g2, c2, rfl, hg2, -, hc2⟩ := own_formW hown2 (by omega)
            have HC1 := hide (hi_cells k hk hlen hcq (own_toW BW HO.out rfl))
            rw [← HOF.out] at HC1
            have B6 := HB.out.trans (BW.mono HB.out.size)
            have hb6 := BW.size
            have hb7 := HB.out.size
            clear y0 y1 y2 y3 y4 y5 lx HX HXA HXB HOA HOB HE HCO slo
            go_upto_region 10 with (fail)
            go_wp2_with (at_builtin; refine wpList_append_own_at _ rfl _ _ 40 rfl _ 30 i0 (.agg #[.int .i64 0, .int .i64 0, .int .i64 0, .int .i64 0, .int .i64 0, .int .i64 0]) 6 48 Tryd.underlying40 HI.out HZ0.out HZ1.out HZ2.out rfl (by decide) _ _ _ rfl hown2 ⟨gq, off, none⟩ (m - k) (cq - k) (cellsW (OL.drop k)) rfl HLU.out ?c1 ?c2 ?c3 ?c4 ?c5 ?_)
            case c1 => exact HC1.out
            case c2 => exact HT2.out
            case c3 => unfold maxLen; omega
            case c4 => omega
            case c5 => exact hb6
            · intro v3 w8 hown3 hg8 _ _
              have B8 : Below w1.heap.size w1 w8 := B6.grown hg8 B6.size (fun j hj => by simp [Value.ownBlock] at hj; omega)
              have hn : k + 1 + (m - k) = m + 1 := by omega
              have hin := HIN.out
              rw [List.nil_append, List.append_assoc] at hin
              try simp only [Nat.zero_add, List.nil_append, List.append_assoc] at hown3
              rw [hn, ← hin] at hown3
              have HN := hide (own_monoW hown3 hb7)
              clear hown3 hg8 hown2 BW B6 shi
              go_wp2
              go_roundw
              case rel => exact ⟨m + 1, by omega, by go_num, by rw [HS.out]; exact HN.out, fun h => by omega, B8⟩
              case measure => simp [intOf] <;> omega
          · have HNX := hide (show k < m ∧ ∀ j y, j < k + 1 → OL[j]? = some y → lessD y x = true from by
              unfold nextB at hnb
              split at hnb
              · rename_i y hy
                refine ⟨by have := (List.getElem?_eq_some_iff.1 hy).1; omega, fun j z hj hz => ?_⟩
                rcases Nat.lt_or_ge j k with h | h
                · exact HALL.out j z h hz
                · obtain rfl : j = k := by omega
                  rw [hy] at hz
                  cases hz
                  exact hnb
              · cases hnb)
            have hkm := HNX.out.1
            clear hnb
            have HX := hide X
            have HO := hide O
            clear X O
            go_wp2
            go_roundw
            case rel => exact ⟨k + 1, by omega, by go_num, HNX.out.2, HX.out, HO.out, Bx⟩
            case measure => simp [intOf] <;> omega
    · obtain rfl : m = L.length := by omega
      have HO := hide (own_monoW O b1.size)
      clear O
      go_wp2
      go_returns
      exact ⟨_, rfl, HO.out, b3⟩
end Go.Proofs.YtjikpkembcnfnaaDoor
