/- The model of sixes: spec.neFar, the least numbers of rolls from the first digit. -/
import Derived.Test.YtkknjokacinlaaaGreatDoorNeB
import Derived.Deep.OwnRows
import Derived.Deep.RegionHeld3
import Derived.Deep.Cut
namespace Go.Proofs.YtkknjokacinlaaaGreatDoor
set_option maxRecDepth 100000
set_option linter.all false
open Go.RowKit

theorem find_of_mem {W : Nat} {Q : List Lg} (h : (Q.map fun q => ixL W q.1).Nodup) {q : Lg} (hq : q ∈ Q) : farI W Q (ixL W q.1) = (q.2 : Int) := by
  unfold farI; rw [find_ix h hq]
/-- A step of the model's search is one of the search as a list. -/
theorem step_lock {l : List UInt8} {W H : Nat} (hG : Grid6 l W H) {Q : List Lg} (hQ : GoodQ l Q) {q : Lg} (hq : q ∈ Q) {k : Nat} (hk : k < 4) :
    (stepI l W (ixL W q.1) k = -1 ∧ stepL l q k Q = Q) ∨ ∃ j : Nat, j < W * H ∧ stepI l W (ixL W q.1) k = (j : Int) ∧ ((j ∈ Q.map (fun q => ixL W q.1) ∧ stepL l q k Q = Q) ∨ (j ∉ Q.map (fun q => ixL W q.1) ∧ stepL l q k Q = Q ++ [(rollT q.1 (k : Int), q.2 + 1)] ∧ j = ixL W (rollT q.1 (k : Int)))) := by
  obtain ⟨a1, a2, a3, a4⟩ := hG.in (hQ.dig q hq)
  obtain ⟨x, hx⟩ := Int.eq_ofNat_of_zero_le a1
  obtain ⟨y, hy⟩ := Int.eq_ofNat_of_zero_le a3
  have hw1 := hG.w1
  have hxW : x < W := by omega
  have hi : ixL W q.1 = y * W + x := by unfold ixL; rw [hx, hy, Int.toNat_natCast, Int.toNat_natCast]
  have m1 : (y * W + x) % W = x := by rw [Nat.mul_comm, Nat.mul_add_mod, Nat.mod_eq_of_lt hxW]
  have m2 : (y * W + x) / W = y := by rw [Nat.mul_comm, Nat.mul_add_div hw1, Nat.div_eq_of_lt hxW, Nat.add_zero]
  have hr : rollT q.1 (k : Int) = ⟨nextX (x : Int) (k : Int), nextY (y : Int) (k : Int), rollK (k : Int) q.1.d⟩ := by unfold rollT; rw [hx, hy]
  unfold stepI stepL
  rw [hi, m1, m2, hr]
  simp only
  cases hd : digL l (nextX (x : Int) (k : Int)) (nextY (y : Int) (k : Int))
  · left
    simp
  · right
    obtain ⟨b1, b2, b3, b4⟩ := hG.in hd
    obtain ⟨u, hu⟩ := Int.eq_ofNat_of_zero_le b1
    obtain ⟨v, hv⟩ := Int.eq_ofNat_of_zero_le b3
    rw [hu, hv]
    have huW : u < W := by omega
    have hvH : v < H := by omega
    refine ⟨v * W + u, hG.lt huW hvH, by simp, ?_⟩
    have hseen : seenL Q (u : Int) (v : Int) = true ↔ v * W + u ∈ Q.map (fun q => ixL W q.1) := by
      rw [seen_iff, List.mem_map]
      constructor
      · rintro ⟨p, hp, e1, e2⟩
        exact ⟨p, hp, by unfold ixL; rw [e1, e2]; simp⟩
      · rintro ⟨p, hp, e⟩
        obtain ⟨c1, c2, c3, c4⟩ := hG.in (hQ.dig p hp)
        obtain ⟨u', hu'⟩ := Int.eq_ofNat_of_zero_le c1
        obtain ⟨v', hv'⟩ := Int.eq_ofNat_of_zero_le c3
        unfold ixL at e
        rw [hu', hv', Int.toNat_natCast, Int.toNat_natCast] at e
        have n1 : (v' * W + u') % W = u' := by rw [Nat.mul_comm, Nat.mul_add_mod, Nat.mod_eq_of_lt (by omega)]
        have n2 : (v * W + u) % W = u := by rw [Nat.mul_comm, Nat.mul_add_mod, Nat.mod_eq_of_lt huW]
        have n3 : (v' * W + u') / W = v' := by rw [Nat.mul_comm, Nat.mul_add_div hw1, Nat.div_eq_of_lt (by omega), Nat.add_zero]
        have n4 : (v * W + u) / W = v := by rw [Nat.mul_comm, Nat.mul_add_div hw1, Nat.div_eq_of_lt huW, Nat.add_zero]
        rw [e] at n1 n3
        exact ⟨p, hp, by rw [hu']; omega, by rw [hv']; omega⟩
    cases hs : seenL Q (u : Int) (v : Int)
    · right
      refine ⟨fun hm => ?_, by simp, by simp [ixL]⟩
      rw [← hseen, hs] at hm
      cases hm
    · left
      exact ⟨hseen.1 hs, by simp⟩
/-- What neFar holds. -/
structure NF (l : List UInt8) (W H n g cap : Nat) (w0 w : World) (f : Nat → Int) (Q : List Lg) (qv : Value) : Prop where
  box : IsGN w w0.heap.size (W : Int) (H : Int) (.slice (some ⟨g, 0, none⟩) n cap)
  byn : ByN w g (flatL l)
  far : w.rowIs (w0.heap.size + 1) 3 n (fun i => .int .i64 (f i))
  que : w.ownsRow (w0.heap.size + 2) 3 1 qv Q.length (ints (natI (Q.map fun q => ixL W q.1)))
  bel : Below w0.heap.size w0 w
theorem rowIs_to {w w0 w1 : World} {b : Nat} {t : TypeId} {n : Nat} {f : Nat → Value} (hb : Below w0.heap.size w0 w1) (h : w.rowIs b t n f) (e : w0.heap = w.heap) : w1.rowIs b t n f := by
  have hl := h.lt
  have := hb.block b (by rw [e]; exact hl)
  exact h.of_block (by rw [this, e])
theorem NF.to {l : List UInt8} {W H n g cap : Nat} {w0 w x w1 : World} {f : Nat → Int} {Q : List Lg} {qv : Value} (t : NF l W H n g cap w0 w f Q qv) (hb : Below x.heap.size x w1) (e : x.heap = w.heap) (e1 : x.os = w.os) (e2 : x.tape = w.tape) (e3 : x.output = w.output) : NF l W H n g cap w0 w1 f Q qv :=
  ⟨isGN_to hb t.box e, byN_to hb t.byn e, rowIs_to hb t.far e, own_to hb t.que e, below_to hb t.bel t.bel.size e e1 e2 e3⟩
theorem NF.put {l : List UInt8} {W H n g cap : Nat} {w0 w : World} {f : Nat → Int} {Q : List Lg} {qv : Value} (t : NF l W H n g cap w0 w f Q qv) (hg : g < w0.heap.size) (j : Nat) (x : Int) : NF l W H n g cap w0 (w.setCell ⟨w0.heap.size + 1, j, none⟩ (.int .i64 x)) (fun i => if i = j then x else f i) Q qv := by
  refine ⟨t.box.other (by show w0.heap.size ≠ w0.heap.size + 1; omega) _, ⟨by have := t.byn.1; simpa using this, fun i c hc => ?_⟩, (t.far.set j _).congr (fun i hi => by show (if i = j then _ else _) = Value.int .i64 (if i = j then _ else _); split <;> rfl), ?_, t.bel.setCell (p := ⟨w0.heap.size + 1, j, none⟩) (Nat.le_succ _) _⟩
  · rw [World.cell?_setCell_other _ _ _ _ (fun e => by injection e with e1; omega)]
    exact t.byn.2 i c hc
  · exact ownsRow_setCell_below t.que (by show w0.heap.size + 1 < w0.heap.size + 2; omega) _
theorem NF.push {l : List UInt8} {W H n g cap : Nat} {w0 w w4 : World} {f : Nat → Int} {Q : List Lg} {qv v' : Value} {o : Obj} {q : Lg} (t : NF l W H n g cap w0 w f Q qv) (hg : g < w0.heap.size) (hj : w4.ownsRow (w0.heap.size + 2) 3 1 v' (Q.length + 1) (ints (natI (Q.map fun q => ixL W q.1)) ++ [.int .i64 ((ixL W q.1 : Nat) : Int)])) (hk : (w.alloc o).grownBy w4 qv.ownBlock) : NF l W H n g cap w0 w4 f (Q ++ [q]) v' := by
  have t1 := t.to (w1 := w.alloc o) ((Below.refl _ _).alloc (Nat.le_refl _) o) rfl rfl rfl rfl
  have hne : ∀ j, qv.ownBlock = some j → w0.heap.size + 2 ≤ j := fun j e => (t.que.lt j e).1
  refine ⟨t1.box.kept hk (fun e => by have := hne _ e.symm; omega), t1.byn.kept hk (fun e => by have := hne _ e.symm; omega), t1.far.of_block (hk.block _ t1.far.lt (fun e => by have := hne _ e.symm; omega)), ?_, t1.bel.grown hk t1.bel.size (fun j e => by have := hne j e; omega)⟩
  rw [List.length_append, List.length_singleton, List.map_append, List.map_singleton, natI_snoc, ints_snoc]
  exact hj
theorem NF.said {l : List UInt8} {W H n g cap : Nat} {w0 w : World} {f f' : Nat → Int} {Q : List Lg} {qv : Value} (t : NF l W H n g cap w0 w f Q qv) (e : ∀ i, i < n → f i = f' i) : NF l W H n g cap w0 w f' Q qv :=
  ⟨t.box, t.byn, t.far.congr (fun i hi => by show Value.int .i64 (f i) = Value.int .i64 (f' i); rw [e i hi]), t.que, t.bel⟩
theorem cell_one_at (w : World) (u : Value) (t : TypeId) (b : Nat) (hb : w.heap.size = b) : ∀ (k : Nat) (x : Value), [u][k]? = some x → (w.alloc (.cells #[u] t)).cell? ((⟨b, 0, none⟩ : Addr).add k) = some x := by
  subst hb
  exact cell_one_newR w u t
theorem NF.first {l : List UInt8} {W H n g cap : Nat} {w0 w : World} {f : Nat → Int} {q : Lg} {d0 b : Nat} (t : NF l W H n g cap w0 w f [] (.slice none 0 0)) (hd : ixL W q.1 = d0) (hb : w.heap.size = b) : NF l W H n g cap w0 (w.alloc (.cells #[.int .i64 (d0 : Int)] 3)) f [q] (.slice (some ⟨b, 0, none⟩) 1 1) := by
  subst hb
  have t1 := t.to (w1 := w.alloc (.cells #[.int .i64 (d0 : Int)] 3)) ((Below.refl _ _).alloc (Nat.le_refl _) _) rfl rfl rfl rfl
  refine ⟨t1.box, t1.byn, t1.far, ?_, t1.bel⟩
  have := World.ownsRow_lit (base := w0.heap.size + 2) (e := 3) (size := 1) w #[.int .i64 (d0 : Int)] 1 (by have := t.far.lt; omega) (by unfold maxLen; omega) rfl
  rw [← hd] at this ⊢
  exact this
theorem far_one {W : Nat} (q : Lg) (d0 : Nat) (h0 : q.2 = 0) (hd : ixL W q.1 = d0) (i : Nat) : (if i = d0 then (0 : Int) else -1) = farI W [q] i := by
  have := farI_snoc (W := W) (Q := []) (q := q) (by simp) i
  rw [List.nil_append] at this
  rw [this, hd, h0]
  rfl
set_option maxHeartbeats 8000000 in
theorem neFar_any (l : List UInt8) (W H n g cap : Nat) (hG : Grid6 l W H) (hn : n = W * H) (w : World) (hA : ByN w g (flatL l)) : Calls Tryz.prog 20 #[gN W H n g cap] w fun e w' => e = .returned (.slice (some ⟨w.heap.size + 1, 0, none⟩) n n) ∧ w'.rowIs (w.heap.size + 1) 3 n (fun i => .int .i64 (farI W (lgm l) i)) ∧ Below w.heap.size w w' := by
  obtain ⟨i0, hi, hz0, hz1, hz2⟩ := info_parts info_intI
  have HI := hide hi
  have HZ0 := hide hz0
  have HZ1 := hide hz1
  have HZ2 := hide hz2
  clear hi hz0 hz1 hz2
  have hgw := hA.1
  have hn36 : n ≤ 36 := by rw [hn]; exact Nat.mul_le_mul hG.w6 hG.h6
  have hfl : (flatL l).length = n := by rw [hn]; exact hG.flat_len
  have hokF : ∀ c ∈ flatL l, okN c = true := by
    intro c hc
    unfold flatL at hc
    obtain ⟨r, hr, hcr⟩ := List.mem_flatten.1 hc
    exact List.all_eq_true.1 (hG.ok r hr) c hcr
  have hmk : ∀ wx, (Instr.makeSlice 28 (.int .i64 (n : Int)) (.int .i64 (n : Int))).run Tryz.prog wx = .ok (.slice (some ⟨wx.heap.size, 0, none⟩) n n) (wx.alloc (.cells (madeCells #[.int .i64 0] n) 3)) := fun wx => run_make_row' (P := Tryz.prog) 28 3 (.int .i64 0) 8 Tryz.underlying28 info_intI rfl .i64 .i64 n (by omega) (by omega) wx
  have hd6 : (digs l).length = 6 := by rw [digs_len, hG.cnt]
  have hde : digK (flatL l) n = digs l := by rw [← hfl]; rfl
  have HDG := hide (fun wx (hx : ByN wx g (flatL l)) => neDigits_any (flatL l) W H n g cap hfl (by omega) hokF wx hx)
  rw [hde, hd6] at HDG
  obtain ⟨d0, hd0⟩ : ∃ d0, d0 = (digs l).headD 0 := ⟨_, rfl⟩
  have hdm : d0 ∈ digs l := by rw [hd0]; exact hG.head.1
  have hdn : d0 < n := by rw [← hfl]; exact (mem_digs.1 hdm).1
  have hdg : (digs l)[0]? = some d0 := by
    rw [hd0]
    cases hdl : digs l with
    | nil => rw [hdl] at hd6; cases hd6
    | cons a t => rfl
  have hix : ixL W (startM l).1 = d0 := by
    unfold ixL startM
    rw [hG.ww, ← hd0]
    simp only [Int.toNat_natCast]
    rw [Nat.mul_comm, Nat.div_add_mod]
  have HST := hide (hG.start)
  have HDD := hide hdg
  have HIX := hide hix
  have HGG := hide hG
  have HNN := hide hn
  have HA := hide hA
  have HGW := hide hgw
  clear hG hn hA hfl hokF hd6 hde hd0 hdm hdg hix
  go_enter Tryz.func20, Tryz.ntmps20
  go_wp2
  have HB0 := hide (show IsGN ((w.alloc (.cells #[.int .i64 (W : Int), .int .i64 (H : Int), .slice (some ⟨g, 0, none⟩) n cap] 27)).alloc (.cells (madeCells #[.int .i64 0] n) 3)) w.heap.size (W : Int) (H : Int) (.slice (some ⟨g, 0, none⟩) n cap) from IsGN.new.alloc _)
  have HF0 := hide (show World.rowIs ((w.alloc (.cells #[.int .i64 (W : Int), .int .i64 (H : Int), .slice (some ⟨g, 0, none⟩) n cap] 27)).alloc (.cells (madeCells #[.int .i64 0] n) 3)) (w.heap.size + 1) 3 n (fun _ => .int .i64 0) from by
    have := World.rowIs_made (w.alloc (.cells #[.int .i64 (W : Int), .int .i64 (H : Int), .slice (some ⟨g, 0, none⟩) n cap] 27)) (.int .i64 0) n 3
    rwa [World.size_alloc] at this)
  have HQ0 := hide (show Below w.heap.size w ((w.alloc (.cells #[.int .i64 (W : Int), .int .i64 (H : Int), .slice (some ⟨g, 0, none⟩) n cap] 27)).alloc (.cells (madeCells #[.int .i64 0] n) 3)) from by go_grown)
  clear hmk
  go_loopw [16, 4] (fun i _ wr => ∃ k : Nat, k ≤ n ∧ i = .int .i64 (k : Int) ∧ NF l W H n g cap w wr (fun j => if j < k then -1 else 0) [] (.slice none 0 0)) (fun i _ _ => n - (intOf i).toNat)
  case atStart => exact ⟨0, Nat.zero_le _, rfl, HB0.out, byN_to HQ0.out HA.out rfl, HF0.out.congr (fun i _ => by simp), World.ownsRow_nil _ _ _ _, HQ0.out⟩
  case round =>
    obtain ⟨k, hk, rfl, T⟩ := hrel
    clear HB0 HF0 HQ0
    by_cases hlt : k < n
    · have hki : (k : Int) < (n : Int) := by omega
      have c0 := T.far.cell hlt
      have f0 := T.far.frozen k
      have HT := hide ((T.put HGW.out k (-1)).said (f' := fun j => if j < k + 1 then -1 else 0) (fun i _ => by
        by_cases e : i = k
        · subst e; simp
        · rw [if_neg e]
          by_cases e2 : i < k
          · rw [if_pos e2, if_pos (by omega)]
          · rw [if_neg e2, if_neg (by omega)]))
      clear T
      go_wp2
      go_roundw
      case rel => exact ⟨k + 1, by omega, by go_num, HT.out⟩
      case measure => simp [intOf] <;> omega
    · obtain rfl : k = n := by omega
      have T0 := T.said (f' := fun _ => -1) (fun i hi => if_pos hi)
      obtain ⟨l0, ⟨a0, a1, a2⟩, -⟩ := T0.box.all
      have HT0 := hide T0
      clear T
      clear T0
      have hfl := HT0.out.far.lt
      go_wp2_with (go_at_call 19; (with_reducible refine (HDG.out _ HT0.out.byn).mono ?_); rintro e w2 ⟨v, rfl, O2, hb2⟩; obtain ⟨db, dc, rfl, hdb0, hdb1⟩ := own_form O2 (by omega); have D0 := ints_cell O2 0 (d0 : Int) (natI_get HDD.out); have T2 := HT0.out.to hb2 rfl rfl rfl rfl; have c0 := T2.far.cell hdn; have f0 := T2.far.frozen d0; have D1 : (w2.setCell ⟨w.heap.size + 1, d0, none⟩ (.int .i64 0)).cell? ⟨db, 0, none⟩ = some (.int .i64 (d0 : Int)) := (World.cell?_setCell_other _ _ _ _ (fun e => by injection e with e1; omega)).trans D0; have HT2 := hide T2; clear O2 hb2 T2)
      clear c0 f0 D0 D1 a0 a1 a2 l0
      have HT3 := hide ((((HT2.out.put HGW.out d0 0).first (q := startM l) (b := w2.heap.size) HIX.out (by simp))).said (f' := farI W [startM l]) (fun i _ => far_one (startM l) d0 rfl HIX.out i))
      clear HT0 HT2
      have HT3' := HT3
      go_loopw [7, 6, 8, 9] (fun i vv _ _ wr => ∃ (m : Nat) (Q : List Lg) (qv : Value), i = .int .i64 (m : Int) ∧ qv = vv ∧ m ≤ Q.length ∧ 0 < Q.length ∧ GoodQ l Q ∧ goL l (7 - m) m Q = lgm l ∧ NF l W H k g cap w wr (farI W Q) Q qv) (fun i _ _ _ _ => 7 - (intOf i).toNat)
      case atStart => exact ⟨0, [startM l], _, rfl, rfl, by simp, by simp, HST.out, rfl, HT3.out⟩
      case round =>
        obtain ⟨m, Q, qv, rfl, rfl, hm, hpos, hQ, hgo, T⟩ := hrel
        clear HT3 HT3'
        have hl6 := hQ.le HGG.out
        obtain ⟨qb, qc, rfl, hqb0, hqb1⟩ := own_form T.que hpos
        by_cases hlt : m < Q.length
        · have hmi : (m : Int) < (Q.length : Int) := by omega
          have hq := List.getElem?_eq_getElem hlt
          generalize Q[m] = q at hq
          have hmem := List.mem_of_getElem? hq
          have HQS := hide (fun j hj => hQ.steps hmem j hj)
          have HGO := hide (show goL l (7 - (m + 1)) (m + 1) (stepsL l q 4 Q) = lgm l from by rw [← hgo, show 7 - m = (7 - (m + 1)) + 1 from by omega, goL_hitS hq])
          have HLE := hide (show ∀ j, Q.length ≤ (stepsL l q j Q).length from fun j => by obtain ⟨M, hM⟩ := stepsL_pre l q j Q; rw [hM, List.length_append]; omega)
          have HQ1 := hide (show ∀ j, (stepsL l q j Q)[m]? = some q from fun j => stepsL_get hq)
          have HT := hide T
          obtain ⟨ql, hql⟩ : ∃ ql, ql = Q.length := ⟨_, rfl⟩
          rw [← hql] at hmi HT
          rw [← hql]
          have HQL := hide hql
          have hm6 : m < 6 := by omega
          clear T hQ hgo hq hmem hl6 hqb0 hqb1 hlt hql hpos hm
          go_wp2
          go_loopw [8, 6, 9] (fun i vv _ wr => ∃ (j : Nat) (qv : Value), j ≤ 4 ∧ i = .int .i64 (j : Int) ∧ qv = vv ∧ NF l W H k g cap w wr (farI W (stepsL l q j Q)) (stepsL l q j Q) qv) (fun i _ _ _ => 4 - (intOf i).toNat)
          case atStart =>
            exact ⟨0, _, by omega, rfl, rfl, HT.out⟩
          case round =>
            obtain ⟨j, qv, hj, rfl, rfl, T⟩ := hrel
            clear HT
            by_cases hj4 : j < 4
            · have hji : (j : Int) < 4 := by omega
              have hQ1 := HQS.out j hj
              have hq1 := HQ1.out j
              have HSS := hide (show stepsL l q (j + 1) Q = stepL l q j (stepsL l q j Q) from rfl)
              generalize stepsL l q j Q = Q1 at hQ1 hq1 T HSS
              have hmem := List.mem_of_getElem? hq1
              have hml := (List.getElem?_eq_some_iff.1 hq1).1
              have hl6 := hQ1.le HGG.out
              obtain ⟨qb, qc, rfl, hqb0, hqb1⟩ := own_form T.que (by omega)
              have hix := hQ1.ix HGG.out
              have hin := hix.2 _ (List.mem_map.2 ⟨q, hmem, rfl⟩)
              have hxn : ixL W q.1 < k := by
                have := (mem_digs.1 hin).1
                rw [HGG.out.flat_len, ← HNN.out] at this
                exact this
              have hqc := ints_cell T.que m ((ixL W q.1 : Nat) : Int) (natI_get (by rw [List.getElem?_map, hq1]; rfl))
              have HFQ := hide (find_of_mem hix.1 hmem)
              have hfar := hQ1.far q hmem
              have hlk := step_lock HGG.out hQ1 hmem hj4
              have HNS := hide (fun wx (hx : ByN wx g (flatL l)) => neStep_any l W H k g cap HGG.out HNN.out (ixL W q.1) hxn j hj4 wx hx)
              obtain ⟨ix, hixe⟩ : ∃ ix, ix = ixL W q.1 := ⟨_, rfl⟩
              rw [← hixe] at hxn hqc HNS HFQ
              rw [← hixe] at hlk
              clear hixe hin hq1 hmem
              obtain ⟨l0, ⟨a0, a1, a2⟩, -⟩ := T.box.all
              have HT := hide T
              have HIXS := hide hix
              have hmi1 : (m : Int) < (Q1.length : Int) := by omega
              have hql1 : Q1.length ≤ 6 := hl6
              obtain ⟨ql1, hql1e⟩ : ∃ ql1, ql1 = Q1.length := ⟨_, rfl⟩
              rw [← hql1e] at hmi1 hql1 HT
              rw [← hql1e]
              have HQL1 := hide hql1e
              clear T hix hQ1 hqb0 hl6 hml hql1e
              rcases hlk with ⟨e1, e2⟩ | ⟨t, htn, e1, ⟨hm, e2⟩ | ⟨hm, e2, e3⟩⟩
              · rw [e1] at HNS
                have HE := hide (HSS.out.trans e2)
                clear e1 e2 HSS
                go_upto_region 18 with (fail)
                go_region_held3 (fun w' => w'.cell? ⟨w.heap.size, 0, none⟩ = some (.int .i64 (W : Int)) ∧ w'.cell? ⟨w.heap.size, 1, none⟩ = some (.int .i64 (H : Int)) ∧ w'.cell? ⟨w.heap.size, 2, none⟩ = some (.slice (some ⟨g, 0, none⟩) k cap) ∧ w'.cell? ⟨qb, m, none⟩ = some (.int .i64 (ix : Int))) (first | (refine ⟨?_, ?_, ?_, ?_⟩ <;> with_reducible assumption) | (refine ⟨?_, ?_, ?_, ?_⟩ <;> assumption))
                  (first | (go_at_call 22; (refine (HNS.out _ ?_).mono ?_); (exact byN_to (Below.refl _ _) HT.out.byn rfl); rintro e w2 ⟨rfl, hb2⟩; have HT2 := hide (HT.out.to hb2 rfl rfl rfl rfl); obtain ⟨m0, ⟨b0, b1, b2⟩, -⟩ := HT2.out.box.all; have b3 := (hb2.cell (p := ⟨qb, m, none⟩) hqb1).trans hqc; clear hb2))
                all_goals
                  go_wp2
                  go_roundw
                  case rel => exact ⟨j + 1, _, by omega, by go_num, rfl, by rw [HE.out]; exact HT2.out⟩
                  case measure => simp [intOf] <;> omega
              · rw [e1] at HNS
                have HE := hide (HSS.out.trans e2)
                have htn' : t < k := by rw [HNN.out]; exact htn
                have hti : (t : Int) < (k : Int) := by omega
                obtain ⟨v, hve⟩ : ∃ v, v = farI W Q1 t := ⟨_, rfl⟩
                have hv0 : 0 ≤ v := by
                  have h1 := (farI_none (W := W) (Q := Q1) (i := t))
                  rw [← hve] at h1
                  rcases Int.lt_or_le v 0 with h2 | h2
                  · exact absurd hm (h1.1 h2)
                  · exact h2
                have hvd : decide (v < 0) = false := decide_eq_false (by omega)
                have HVE := hide hve
                clear e1 e2 HSS hm hve htn
                go_upto_region 18 with (fail)
                go_region_held3 (fun w' => w'.cell? ⟨w.heap.size, 0, none⟩ = some (.int .i64 (W : Int)) ∧ w'.cell? ⟨w.heap.size, 1, none⟩ = some (.int .i64 (H : Int)) ∧ w'.cell? ⟨w.heap.size, 2, none⟩ = some (.slice (some ⟨g, 0, none⟩) k cap) ∧ w'.cell? ⟨qb, m, none⟩ = some (.int .i64 (ix : Int))) (first | (refine ⟨?_, ?_, ?_, ?_⟩ <;> with_reducible assumption) | (refine ⟨?_, ?_, ?_, ?_⟩ <;> assumption))
                  (first | (go_at_call 22; (refine (HNS.out _ ?_).mono ?_); (exact byN_to (Below.refl _ _) HT.out.byn rfl); rintro e w2 ⟨rfl, hb2⟩; have HT2 := hide (HT.out.to hb2 rfl rfl rfl rfl); obtain ⟨m0, ⟨b0, b1, b2⟩, -⟩ := HT2.out.box.all; have b3 := (hb2.cell (p := ⟨qb, m, none⟩) hqb1).trans hqc; have d9 : w2.cell? ⟨w.heap.size + 1, t, none⟩ = some (.int .i64 v) := (by rw [HVE.out]; exact HT2.out.far.cell htn'); clear hb2))
                all_goals
                  go_wp2
                  go_roundw
                  case rel => exact ⟨j + 1, _, by omega, by go_num, rfl, by rw [HE.out]; exact HT2.out⟩
                  case measure => simp [intOf] <;> omega
              · rw [e1] at HNS
                have HE := hide (HSS.out.trans e2)
                have htn' : t < k := by rw [HNN.out]; exact htn
                have hti : (t : Int) < (k : Int) := by omega
                obtain ⟨v, hve⟩ : ∃ v, v = farI W Q1 t := ⟨_, rfl⟩
                have hv0 : v < 0 := by rw [hve, farI_none]; exact hm
                have HVE := hide hve
                have HMM := hide hm
                have HE3 := hide e3
                have hxi : (ix : Int) < (k : Int) := by omega
                have hwr : IntKind.i64.wrap ((q.2 : Int) + 1) = ((q.2 + 1 : Nat) : Int) := by rw [IntWalk.i64_in _ (by have := HQL1.out; omega)]; omega
                clear e1 e2 e3 HSS hm hve htn
                go_upto_region 18 with (fail)
                go_region_held3 (fun w' => w'.cell? ⟨w.heap.size, 0, none⟩ = some (.int .i64 (W : Int)) ∧ w'.cell? ⟨w.heap.size, 1, none⟩ = some (.int .i64 (H : Int)) ∧ w'.cell? ⟨w.heap.size, 2, none⟩ = some (.slice (some ⟨g, 0, none⟩) k cap) ∧ w'.cell? ⟨qb, m, none⟩ = some (.int .i64 (ix : Int))) (first | (refine ⟨?_, ?_, ?_, ?_⟩ <;> with_reducible assumption) | (refine ⟨?_, ?_, ?_, ?_⟩ <;> assumption))
                  (first | (go_at_call 22; (refine (HNS.out _ ?_).mono ?_); (exact byN_to (Below.refl _ _) HT.out.byn rfl); rintro e w2 ⟨rfl, hb2⟩; have HT2 := hide (HT.out.to hb2 rfl rfl rfl rfl); obtain ⟨m0, ⟨b0, b1, b2⟩, -⟩ := HT2.out.box.all; have b3 := (hb2.cell (p := ⟨qb, m, none⟩) hqb1).trans hqc; have d9 : w2.cell? ⟨w.heap.size + 1, t, none⟩ = some (.int .i64 v) := (by rw [HVE.out]; exact HT2.out.far.cell htn'); have d8 : w2.cell? ⟨w.heap.size + 1, ix, none⟩ = some (.int .i64 (q.2 : Int)) := (by rw [← HFQ.out]; exact HT2.out.far.cell hxn); have f9 := HT2.out.far.frozen t; clear hb2))
                all_goals
                  have HP := hide ((HT2.out.put HGW.out t ((q.2 + 1 : Nat) : Int)).said (f' := farI W (Q1 ++ [(rollT q.1 (j : Int), q.2 + 1)])) (fun i _ => by rw [farI_snoc (by rw [← HE3.out]; exact HMM.out), ← HE3.out]))
                  clear HT2
                  have hsz := HT.out.bel.size
                  have HJ := hide (fun (o : Obj) (v' : Value) (w4 : World) (h1 : w4.ownsRow (w.heap.size + 2) 3 1 v' (Q1.length + 1) (ints (natI (Q1.map fun q => ixL W q.1)) ++ [.int .i64 (t : Int)])) (h2 : ((w2.setCell ⟨w.heap.size + 1, t, none⟩ (.int .i64 ((q.2 + 1 : Nat) : Int))).alloc o).grownBy w4 (Value.slice (some ⟨qb, 0, none⟩) ql1 qc).ownBlock) => HP.out.push HGW.out (q := (rollT q.1 (j : Int), q.2 + 1)) (by rw [← HE3.out]; exact h1) h2)
                  have HO := hide HP.out.que
                  rw [← HQL1.out] at HO HJ
                  go_wp2_with (at_builtin; refine wpList_append_own_at _ rfl _ _ 28 rfl (w.heap.size + 2) 3 i0 (.int .i64 0) 1 8 Tryz.underlying28 HI.out HZ0.out HZ1.out HZ2.out rfl (by decide) _ _ _ rfl (HO.out.alloc _) ⟨w2.heap.size, 0, none⟩ 1 1 [.int .i64 (t : Int)] rfl rfl ?c1 ?c2 ?c3 ?c4 ?c5 ?_)
                  case c1 => exact cell_one_at _ (.int .i64 (t : Int)) 3 _ (by simp)
                  case c2 =>
                    intro u hu
                    simp only [List.mem_singleton] at hu
                    subst hu
                    rfl
                  case c3 => unfold maxLen; omega
                  case c4 => omega
                  case c5 => have := HP.out.far.lt; simp; omega
                  · intro v' w4 hown4 hg4 _ _
                    have HK := hide (HJ.out _ v' w4 hown4 hg4)
                    clear hown4 hg4
                    go_wp2
                    go_roundw
                    case rel => exact ⟨j + 1, _, by omega, by go_num, rfl, by rw [HE.out]; exact HK.out⟩
                    case measure => simp [intOf] <;> omega
            · obtain rfl : j = 4 := by omega
              have HT := hide T
              clear T
              go_wp2
              go_roundw
              case rel => exact ⟨m + 1, stepsL l q 4 Q, qv, by go_num, rfl, by have := HLE.out 4; have := HQL.out; omega, by have := HLE.out 4; have := HQL.out; omega, HQS.out 4 (by omega), HGO.out, HT.out⟩
              case measure => simp [intOf] <;> omega
        · have HE := hide (show Q = lgm l from by rw [← hgo]; exact (goL_endS (by omega)).symm)
          have hmi : (Q.length : Int) ≤ (m : Int) := by omega
          have HT := hide T
          generalize Q.length = ql at hmi HT hl6 ⊢
          clear T hgo hlt hm hpos hl6
          go_wp2
          go_returns
          exact ⟨rfl, by have := HT.out.far; rw [HE.out] at this; exact this, HT.out.bel⟩
end Go.Proofs.YtkknjokacinlaaaGreatDoor
