/- The walks of the law of LayersOf. -/
import Derived.Test.YthdkhikkdcjifaaDoorLoA
namespace Go.Proofs.YthdkhikkdcjifaaDoor
set_option maxRecDepth 100000
set_option linter.all false
open Go.RowKit Go.Maps Go.ChangeMaps

set_option maxHeartbeats 3200000 in
theorem specLO_any (s : ByteArray) (t : St) (w : World) (hs : s.size ≤ 1048576) : Calls Tryd.prog 39 #[.string s, St.v t] w fun e w' => ∃ v, e = .returned (.tuple #[v, .bool (askB s t)]) ∧ w'.ownsRow w.heap.size 3 1 v (loV s t).length (ints (loV s t)) ∧ Below w.heap.size w w' := by
  obtain ⟨i0, hi, hz0, hz1, hz2⟩ := info_parts info_intI
  have HI := hide hi
  have HZ0 := hide hz0
  have HZ1 := hide hz1
  have HZ2 := hide hz2
  clear hi hz0 hz1 hz2
  have S0 : IsS (w.alloc (.cells #[.int .i64 t.x, .int .i64 t.y, .int .i64 t.d.t, .int .i64 t.d.n, .int .i64 t.d.e, .int .i64 t.d.s, .int .i64 t.d.w, .int .i64 t.d.b] 30)) w.heap.size t 30 := IsS.new
  have q0 : Below w.heap.size w (w.alloc (.cells #[.int .i64 t.x, .int .i64 t.y, .int .i64 t.d.t, .int .i64 t.d.n, .int .i64 t.d.e, .int .i64 t.d.s, .int .i64 t.d.w, .int .i64 t.d.b] 30)) := by go_grown
  cases h : askB s t
  · have H := hide h
    have HX := hide (show loV s t = [] from by unfold loV; rw [h, if_neg (by decide)])
    rw [HX.out]
    clear h
    obtain ⟨l0, ⟨c0, c1, c2, c3, c4, c5, c6, c7⟩, -⟩ := S0.all
    go_enter Tryd.func39, Tryd.ntmps39
    go_wp2_with fail
    refine (boAsked_no s t _ hs H.out).mono ?_
    rintro e w1 ⟨W, Hh, p, m, c, rfl, hb1⟩
    have q1 := below_to hb1 q0 q0.size rfl rfl rfl rfl
    go_wp2
    go_returns
    exact ⟨_, rfl, World.ownsRow_nil _ _ _ _, q1.alloc q1.size _⟩
  · have H := hide h
    have HX := hide (show loV s t = hisD ((wysB s t).map Nd.far) from by unfold loV; rw [h, if_pos rfl])
    have HFB := hide (wysB_far h)
    have HLB := hide (wysB_len h)
    rw [HX.out]
    obtain ⟨Z, hZ⟩ : ∃ Z, Z = hisD ((wysB s t).map Nd.far) := ⟨_, rfl⟩
    rw [← hZ]
    have HZZ := hide hZ
    clear h hZ
    obtain ⟨l0, ⟨c0, c1, c2, c3, c4, c5, c6, c7⟩, -⟩ := S0.all
    go_enter Tryd.func39, Tryd.ntmps39
    go_wp2_with fail
    refine (boAsked_yes s t _ hs H.out).mono ?_
    rintro e w1 ⟨W, Hh, n, g, cap, hG, rfl, hA, hb1⟩
    have HG := hide hG
    have q1 := below_to hb1 q0 q0.size rfl rfl rfl rfl
    have S1 := (isS_to hb1 S0 rfl).alloc (.cells #[.int .i64 (W : Int), .int .i64 (Hh : Int), .slice (some ⟨g, 0, none⟩) n cap] 59)
    have G1 := IsG.new (w := w1) (x := (W : Int)) (y := (Hh : Int)) (v := .slice (some ⟨g, 0, none⟩) n cap)
    have A1 : BytesAt (w1.alloc (.cells #[.int .i64 (W : Int), .int .i64 (Hh : Int), .slice (some ⟨g, 0, none⟩) n cap] 59)) g (splitP s.data.toList).flatten := bytesAt_to ((Below.refl _ _).alloc (Nat.le_refl _) _) hA rfl
    have q2 := q1.alloc q1.size (.cells #[.int .i64 (W : Int), .int .i64 (Hh : Int), .slice (some ⟨g, 0, none⟩) n cap] 59)
    have HA := hide A1
    clear hb1 S0 q0 q1 hA hG A1 c0 c1 c2 c3 c4 c5 c6 c7 l0
    obtain ⟨l0, ⟨c0, c1, c2, c3, c4, c5, c6, c7⟩, -⟩ := S1.all
    obtain ⟨l1, ⟨d0, d1, d2⟩, -⟩ := G1.all
    go_wp2_with fail
    refine (wyAllB s t H.out W Hh n g cap HG.out _ HA.out).mono ?_
    rintro e w3 ⟨v, L, rfl, hL, hown, hb3⟩
    have q3 := below_to hb3 q2 q2.size rfl rfl rfl rfl
    have hlen : L.length = (wysB s t).length := core_len hL
    have hpos : 0 < L.length := by
      rw [hlen]
      exact (List.getElem?_eq_some_iff.1 (runW_ok (flAt s.data.toList) t 1000).head).1
    have hl9 : L.length ≤ 900 := by rw [hlen]; exact HLB.out
    have hfars : L.map (·.far) = (wysB s t).map Nd.far := core_fars hL
    have HB0 := hide (show ∀ d ∈ L.map (·.far), d ≤ 1000 from by rw [hfars]; exact HFB.out)
    have HZL := hide (show Z = hisD (fD L L.length) from by rw [HZZ.out, fD_all, hfars])
    obtain ⟨g1, c1', rfl, -, -⟩ := own_form hown hpos
    have HN0 := hide (own_mono hown (B' := w.heap.size) (by have := q2.size; omega))
    have HQ0 := hide q3
    clear HZZ hlen hfars HFB HLB HX hL hown hb3 H S1 G1 q2 q3 HA HG c0 c1 c2 c3 c4 c5 c6 c7 l0 d0 d1 d2 l1
    go_wp2
    go_loopw [8, 23] (fun mv i wr => ∃ (k : Nat) (v : Value), k ≤ L.length ∧ i = .int .i64 (k : Int) ∧ v = mv ∧ wr.ownsRow w.heap.size 77 16 (.slice (some ⟨g1, 0, none⟩) L.length c1') L.length (wnL L) ∧ wr.ownsRow w.heap.size 3 1 v (mxD (fD L k)) (ints (hisD (fD L k))) ∧ Below w.heap.size w wr) (fun _ i _ => L.length - (intOf i).toNat)
    case atStart => exact ⟨0, _, Nat.zero_le _, rfl, rfl, HN0.out, World.ownsRow_nil _ _ _ _, HQ0.out⟩
    case round =>
      obtain ⟨k, v, hk, rfl, rfl, RN, RV, q⟩ := hrel
      clear HN0 HQ0
      by_cases hlt : k < L.length
      · have hki : (k : Int) < (L.length : Int) := by omega
        have hx : L[k]? = some (L[k]'hlt) := List.getElem?_eq_getElem hlt
        generalize L[k]'hlt = x at hx
        have hfx : x.far ≤ 1000 := HB0.out x.far (List.mem_map.2 ⟨x, List.mem_of_getElem? hx, rfl⟩)
        have HD1 := hide (fD_succ hx)
        obtain ⟨D, hD⟩ : ∃ D, D = fD L k := ⟨_, rfl⟩
        rw [← hD] at RV HD1
        have hmx : mxD D ≤ 1001 := mxD_le.2 fun d hd => by
          rw [hD] at hd
          have := HB0.out d (((List.take_sublist k L).map _).subset hd)
          omega
        have hct : D.count x.far ≤ 900 := by
          have h1 : D.count x.far ≤ D.length := List.count_le_length
          have h2 : D.length ≤ k := by rw [hD]; unfold fD; simp; omega
          omega
        clear hD
        obtain ⟨l0, a0, a1, a2, a3, a4, a5, a6, a7, a8, a9, a10, a11, a12, a13, a14, a15⟩ := row_nd RN hx
        have HT0 := hide (show LoI w (wr.alloc (.cells #[.int .i64 x.s.x, .int .i64 x.s.y, .int .i64 x.s.d.t, .int .i64 x.s.d.n, .int .i64 x.s.d.e, .int .i64 x.s.d.s, .int .i64 x.s.d.w, .int .i64 x.s.d.b, .int .i64 (x.far : Int), .int .i64 x.cnt, .int .i64 x.bf, .int .i64 x.dr, .int .i64 (x.nx 0), .int .i64 (x.nx 1), .int .i64 (x.nx 2), .int .i64 (x.nx 3)] 77)) wr.heap.size (wnC x) 77 D v (mxD D) from ⟨RV.alloc _, IsBk.new, q.alloc q.size _⟩)
        have HNW := hide (RN.alloc (.cells #[.int .i64 x.s.x, .int .i64 x.s.y, .int .i64 x.s.d.t, .int .i64 x.s.d.n, .int .i64 x.s.d.e, .int .i64 x.s.d.s, .int .i64 x.s.d.w, .int .i64 x.s.d.b, .int .i64 (x.far : Int), .int .i64 x.cnt, .int .i64 x.bf, .int .i64 x.dr, .int .i64 (x.nx 0), .int .i64 (x.nx 1), .int .i64 (x.nx 2), .int .i64 (x.nx 3)] 77))
        have w1q : IntKind.i64.wrap ((k : Int) + 1) = (k : Int) + 1 := IntWalk.i64_in _ (by omega)
        clear hx RN RV q
        go_wp2
        generalize wr.alloc (.cells #[.int .i64 x.s.x, .int .i64 x.s.y, .int .i64 x.s.d.t, .int .i64 x.s.d.n, .int .i64 x.s.d.e, .int .i64 x.s.d.s, .int .i64 x.s.d.w, .int .i64 x.s.d.b, .int .i64 (x.far : Int), .int .i64 x.cnt, .int .i64 x.bf, .int .i64 x.dr, .int .i64 (x.nx 0), .int .i64 (x.nx 1), .int .i64 (x.nx 2), .int .i64 (x.nx 3)] 77) = wA at HT0 HNW ⊢
        generalize wr.heap.size = F at HT0 ⊢
        clear l0 a0 a1 a2 a3 a4 a5 a6 a7 a8 a9 a10 a11 a12 a13 a14 a15
        go_loopw [8] (fun mv wq => ∃ (p : Nat) (v : Value), v = mv ∧ mxD D ≤ p ∧ p ≤ max (mxD D) (x.far + 1) ∧ Hid (LoI w wq F (wnC x) 77 D v p) ∧ Hid (wq.ownsRow w.heap.size 77 16 (.slice (some ⟨g1, 0, none⟩) L.length c1') L.length (wnL L))) (fun v _ => x.far + 1 - lenV v)
        case atStart => exact ⟨_, v, rfl, Nat.le_refl _, Nat.le_max_left _ _, HT0, HNW⟩
        case round =>
          obtain ⟨p, v, rfl, hp1, hp2, HT, HR⟩ := hrel
          clear HT0 HNW
          have b8 : _ := HT.out.box.cell (j := 8) (u := .int .i64 (x.far : Int)) rfl
          have bl := HT.out.box.lt
          have hsz := HT.out.below.size
          have hp9 : p ≤ 1001 := by omega
          have hlv := lenV_own HT.out.row
          by_cases hle : p ≤ x.far
          · have hlei : (p : Int) ≤ (x.far : Int) := by omega
            go_wp2_with (first | (at_len; refine wpList_len_row rfl _ rfl _ p rfl (own_slc HT.out.row) ?_) | (at_builtin; go_loud (refine wpList_append_own_at _ rfl _ _ 48 rfl w.heap.size 3 i0 (.int .i64 0) 1 8 Tryd.underlying48 HI.out HZ0.out HZ1.out HZ2.out rfl (by decide) _ _ _ rfl (HT.out.row.alloc _) ⟨_, 0, none⟩ 1 1 [.int .i64 0] rfl rfl (cell_one_newR _ _ _) (by intro u hu; simp only [List.mem_singleton] at hu; subst hu; rfl) (by unfold maxLen; omega) (by omega) (by simp; omega) ?_); intro v' w4 hown hgr hnil hblk))
            have HT4 := hide (HT.out.app (by decide) hp1 hown hgr)
            have HR4 := hide (own_grownL hgr (HR.out.alloc _) (own_types HT.out.row HR.out (by decide)))
            clear hown hgr hnil hblk HT HR
            go_wp2
            go_roundw
            case rel => exact ⟨p + 1, _, rfl, by omega, by omega, HT4, HR4⟩
            case measure => have := lenV_own HT4.out.row; omega
          · have hlei : ¬ ((p : Int) ≤ (x.far : Int)) := by omega
            have hpe : p = mxD (D ++ [x.far]) := by rw [mxD_snoc]; omega
            obtain ⟨g, cap, rfl, -, hgl⟩ := own_form HT.out.row (by omega)
            have hci := ints_cell HT.out.row x.far _ (hisP_get (by omega))
            have hdp : (x.far : Int) < (p : Int) := by omega
            obtain ⟨HT5, HQ5⟩ := HT.out.put (by omega) hpe
            have HT6 := hide HT5
            have HQ6 := hide HQ5
            have HR6 := hide (own_grownL (grown_put _ ⟨g, x.far, none⟩ (.int .i64 ((D.count x.far : Int) + 1))) HR.out (fun g' hg' e => own_types HT.out.row HR.out (by decide) g' hg' e))
            have hfz := own_free HT.out.row x.far
            obtain ⟨cc, hcc⟩ : ∃ cc : Int, cc = (D.count x.far : Int) := ⟨_, rfl⟩
            have w2q : IntKind.i64.wrap (cc + 1) = cc + 1 := IntWalk.i64_in _ (by omega)
            have w3q : wrap64 (cc + 1) = cc + 1 := IntWalk.wrap64_in _ (by omega)
            rw [← hcc] at hci HT6 HQ6 HR6
            clear HT5 HQ5 HT HR hcc hct
            go_wp2
            go_roundw
            case rel => exact ⟨k + 1, _, by omega, by go_num, rfl, HR6.out, by rw [HD1.out]; exact HT6.out, HQ6.out⟩
            case measure => simp [intOf] <;> omega
      · obtain rfl : k = L.length := by omega
        have HRV := hide RV
        have HQ := hide q
        clear RV q RN
        go_wp2
        go_returns
        exact ⟨_, rfl, by rw [HZL.out, hisD_len]; exact HRV.out, HQ.out⟩
/-- The distances of the entries that have come. -/
def sD (M : List Nd) (seen : List Nat) : List Nat := seen.map (fun i => (M[i]?).elim 0 Nd.far)
theorem sD_snoc {M : List Nd} {seen : List Nat} {i : Nat} {q : Nd} (h : M[i]? = some q) : sD M (seen ++ [i]) = sD M seen ++ [q.far] := by
  unfold sD
  rw [List.map_append]
  simp [h]
theorem sD_all {M : List Nd} {seen : List Nat} (hn : seen.Nodup) (hs : ∀ i ∈ seen, i < M.length) (ha : ∀ i, i < M.length → i ∈ seen) : hisD (sD M seen) = hisD (M.map Nd.far) := by
  have h1 : seen.Perm (List.range M.length) := (List.perm_ext_iff_of_nodup hn List.nodup_range).2 (fun i => ⟨fun h => List.mem_range.2 (hs i h), fun h => ha i (List.mem_range.1 h)⟩)
  have h2 : (List.range M.length).map (fun i => (M[i]?).elim 0 Nd.far) = M.map Nd.far := by
    apply List.ext_getElem?
    intro j
    rw [List.getElem?_map, List.getElem?_map]
    by_cases h : j < M.length
    · rw [List.getElem?_range h, List.getElem?_eq_getElem h]
      simp [h]
    · rw [List.getElem?_eq_none (by simp; omega), List.getElem?_eq_none (by omega)]
      rfl
  rw [← h2]
  exact hisD_perm (h1.map _)
/-- The impl's outer loop. -/
structure LoJ (w wr : World) (rb ri : Nat) (M : List Nd) (seen : List Nat) (v : Value) : Prop where
  rg : RgS wr rb ri (seL M) M.length seen
  row : wr.ownsRow w.heap.size 3 1 v (mxD (sD M seen)) (ints (hisD (sD M seen)))
  nodup : seen.Nodup
  lt : ∀ i ∈ seen, i < M.length
  low : w.heap.size ≤ ri
  below : Below w.heap.size w wr
theorem sD_len {M : List Nd} {seen : List Nat} (hn : seen.Nodup) (hs : ∀ i ∈ seen, i < M.length) : (sD M seen).length ≤ M.length := by
  unfold sD
  rw [List.length_map]
  have h := nodup_le seen (List.range M.length) hn (fun i hi => List.mem_range.2 (hs i hi))
  simpa using h
theorem nodup_snocL {l : List Nat} {x : Nat} (h : l.Nodup) (hx : x ∉ l) : (l ++ [x]).Nodup := by
  rw [List.nodup_append]
  refine ⟨h, by simp, ?_⟩
  intro a ha b hb e
  rw [List.mem_singleton.1 hb] at e
  exact hx (e ▸ ha)
theorem sD_le {M : List Nd} {seen : List Nat} {B : Nat} (h : ∀ d ∈ M.map Nd.far, d ≤ B) : ∀ d ∈ sD M seen, d ≤ B := by
  intro d hd
  obtain ⟨i, _, rfl⟩ := List.mem_map.1 hd
  cases hm : M[i]? with
  | none => exact Nat.zero_le _
  | some q => exact h _ (List.mem_map.2 ⟨q, List.mem_of_getElem? hm, rfl⟩)
theorem own_noiter {w : World} {B z n r : Nat} {e : TypeId} {v : Value} {xs : List Value} (h : w.ownsRow B e z v n xs) {o : Obj} (hr : w.heap[r]? = some o) (ho : ∀ c T m, o ≠ .cells c T m) : v.ownBlock ≠ some r := by
  intro e1
  rcases h.2 with ⟨h0, _⟩ | ⟨g, cap, cur, hv, _, hh, _⟩
  · rw [h0] at e1; cases e1
  · rw [hv] at e1
    have e' : g = r := by simpa [Value.ownBlock] using e1
    subst e'
    rw [hr] at hh
    injection hh with hh
    exact ho _ _ _ hh
set_option maxHeartbeats 3200000 in
theorem implLO_any (s : ByteArray) (t : St) (w : World) (hs : s.size ≤ 1048576) (hg : Glob w) : Calls Tryd.prog 40 #[.string s, St.v t] w fun e w' => ∃ v, e = .returned (.tuple #[v, .bool (askB s t)]) ∧ w'.ownsRow w.heap.size 3 1 v (loV s t).length (ints (loV s t)) ∧ Below w.heap.size w w' := by
  obtain ⟨i0, hi, hz0, hz1, hz2⟩ := info_parts info_intI
  have HI := hide hi
  have HZ0 := hide hz0
  have HZ1 := hide hz1
  have HZ2 := hide hz2
  clear hi hz0 hz1 hz2
  have S0 : IsS (w.alloc (.cells #[.int .i64 t.x, .int .i64 t.y, .int .i64 t.d.t, .int .i64 t.d.n, .int .i64 t.d.e, .int .i64 t.d.s, .int .i64 t.d.w, .int .i64 t.d.b] 30)) w.heap.size t 30 := IsS.new
  have q0 : Below w.heap.size w (w.alloc (.cells #[.int .i64 t.x, .int .i64 t.y, .int .i64 t.d.t, .int .i64 t.d.n, .int .i64 t.d.e, .int .i64 t.d.s, .int .i64 t.d.w, .int .i64 t.d.b] 30)) := by go_grown
  have HG := hide (glob_to (w0 := w) q0 hg rfl)
  cases h : askB s t
  · have H := hide h
    have HX := hide (show loV s t = [] from by unfold loV; rw [h, if_neg (by decide)])
    rw [HX.out]
    clear h
    obtain ⟨l0, ⟨c0, c1, c2, c3, c4, c5, c6, c7⟩, -⟩ := S0.all
    go_enter Tryd.func40, Tryd.ntmps40
    go_wp2_with fail
    refine (routesFrom_no s t _ hs HG.out H.out).mono ?_
    rintro e w1 ⟨rfl, hb1⟩
    have q1 := below_to hb1 q0 q0.size rfl rfl rfl rfl
    go_wp2
    go_returns
    exact ⟨_, rfl, World.ownsRow_nil _ _ _ _, q1⟩
  · have H := hide h
    have HX := hide (show loV s t = hisD ((wysB s t).map Nd.far) from by unfold loV; rw [h, if_pos rfl])
    have HFB := hide (wysB_far h)
    have HLB := hide (wysB_len h)
    have HOK := hide (seL_ok (wysB_nodup s t) (wysB_okS h))
    rw [HX.out]
    have HRF := hide (fun wx hx => routesFrom_yes s t wx hs hx h)
    obtain ⟨M, hM⟩ : ∃ M, M = wysB s t := ⟨_, rfl⟩
    have HRF2 := hide (show ∀ wx, Glob wx → Calls Tryd.prog 47 #[.string s, St.v t, (.func (.func 48) #[] #[])] wx fun e w' => ∃ rb, e = .returned (.tuple #[.map (some rb), .bool true]) ∧ wx.heap.size ≤ rb ∧ MapR w' rb (seL M) M.length ∧ Below wx.heap.size wx w' from by rw [hM]; exact HRF.out)
    rw [← hM] at HFB HLB HOK ⊢
    obtain ⟨Z, hZ⟩ : ∃ Z, Z = hisD (M.map Nd.far) := ⟨_, rfl⟩
    rw [← hZ]
    have HZZ := hide hZ
    clear h hZ HX HRF hM
    obtain ⟨l0, ⟨c0, c1, c2, c3, c4, c5, c6, c7⟩, -⟩ := S0.all
    go_enter Tryd.func40, Tryd.ntmps40
    go_wp2_with fail
    refine (HRF2.out _ HG.out).mono ?_
    rintro e w1 ⟨rb, rfl, hrb, hmap, hb1⟩
    have q1 := below_to hb1 q0 q0.size rfl rfl rfl rfl
    have HQ1 := hide q1
    have hrb1 : w.heap.size ≤ rb := by have := q0.size; omega
    clear hb1 S0 q0 q1 HG HRF2 H c0 c1 c2 c3 c4 c5 c6 c7 l0 hrb
    go_wp2_with (at_range; refine wpList_range_S rfl _ rfl rb (seL M) M.length rfl hmap ?_; intro hrg0)
    have I0 : LoJ w (w1.alloc (.mapIter (some rb) M.length #[] M.length)) rb w1.heap.size M [] (.slice none 0 0) := ⟨hrg0, World.ownsRow_nil _ _ _ _, List.nodup_nil, (fun _ h => by cases h), HQ1.out.size, HQ1.out.alloc HQ1.out.size _⟩
    clear hmap hrg0 HQ1
    generalize w1.alloc (.mapIter (some rb) M.length #[] M.length) = W1 at I0 ⊢
    generalize w1.heap.size = RB at I0 ⊢
    go_frame
    go_loopw [8] (fun mv wr => ∃ (seen : List Nat) (v : Value), v = mv ∧ LoJ w wr rb RB M seen v) (fun _ wr => wr.rangeLeft rb RB)
    case atStart => exact ⟨[], _, rfl, I0⟩
    case round =>
      clear I0
      obtain ⟨seen, v, rfl, hI⟩ := hrel
      go_wp2_with (at_next; refine wpList_next_S rfl _ rfl rb RB (seL M) M.length seen rfl HOK.out hI.rg ?_ ?_)
      · intro hall
        have HALL := hide (show Z = hisD (sD M seen) from by
          rw [HZZ.out, sD_all hI.nodup hI.lt (fun i hi => by
            have hx : (seL M)[i]? = some (seOf (M[i]'hi) i) := by rw [seL_get, List.getElem?_eq_getElem hi]; rfl
            exact hall _ _ _ (List.mem_of_getElem? hx))])
        clear hall
        have HIH := hide hI
        clear hI
        go_wp2
        go_returns
        exact ⟨_, rfl, by rw [HALL.out, hisD_len]; exact HIH.out.row, HIH.out.below⟩
      · intro xs xr xi w2 hx hni hrg2 hlt hg2 hs2 hen
        obtain ⟨i, qn, hqn, hxe⟩ := seL_mem hx
        obtain rfl : xi = i := congrArg (fun z : SE => z.2) hxe
        have hxr : xr = rtOf qn := congrArg (fun z : SE => z.1.2) hxe
        obtain ⟨sv, hsv⟩ : ∃ sv : ByteArray, sv = ⟨xr.word.toArray⟩ := ⟨_, rfl⟩
        have hsz : sv.size = qn.far := by
          rw [hsv, hxr]
          show (wdB qn.hd).toArray.size = qn.hd.length
          rw [List.size_toArray, wdB_len]
        have hd9 : sv.size ≤ 1000 := by
          rw [hsz]
          exact HFB.out _ (List.mem_map.2 ⟨qn, List.mem_of_getElem? hqn, rfl⟩)
        have HD1 := hide (show sD M (seen ++ [xi]) = sD M seen ++ [sv.size] from by rw [hsz]; exact sD_snoc hqn)
        have HND := hide (nodup_snocL hI.nodup hni)
        have HLTS := hide (show ∀ j ∈ seen ++ [xi], j < M.length from fun j hj => by
          rcases List.mem_append.1 hj with hj | hj
          · exact hI.lt j hj
          · rw [List.mem_singleton.1 hj]; exact (List.getElem?_eq_some_iff.1 hqn).1)
        have hct0 := sD_len hI.nodup hI.lt
        have hmx : mxD (sD M seen) ≤ 1001 := mxD_le.2 fun d hd => by have := sD_le (seen := seen) HFB.out d hd; omega
        have hlow := hI.low
        have hm9 := HLB.out
        have HLT := hide (show (leftOf ((seL M).map entS).toArray (seen ++ [xi]).toArray).size < wr.rangeLeft rb RB from by rw [← hrg2.left_eq]; exact hlt)
        obtain ⟨D, hD⟩ : ∃ D, D = sD M seen := ⟨_, rfl⟩
        have hrow := hI.row
        rw [← hD] at HD1 hct0 hmx hrow
        have hct : D.count sv.size ≤ 900 := by
          have h1 : D.count sv.size ≤ D.length := List.count_le_length
          omega
        have hrow2 := hrow.kept hg2 (.inr (own_noiter hrow hI.rg.it (by intro _ _ _ e; cases e)))
        have hbel2 : Below w.heap.size w w2 := hI.below.grown hg2 hI.below.size (fun k hk => by cases hk; omega)
        have HT0 := hide (show LoI w (w2.alloc (.cells #[.string ⟨xr.word.toArray⟩, .int .i64 xr.cost, .int .i64 xr.count] 73)) w2.heap.size [.string sv, .int .i64 xr.cost, .int .i64 xr.count] 73 D v (mxD D) from ⟨hrow2.alloc _, by rw [hsv]; exact IsBk.new, hbel2.alloc hbel2.size _⟩)
        have HR0 := hide (hrg2.alloc (.cells #[.string ⟨xr.word.toArray⟩, .int .i64 xr.cost, .int .i64 xr.count] 73))
        have hap := own_noiter hrow2 hrg2.it
        clear hrow hrow2 hbel2 hD hI hx hxe hqn hni hlt hg2 hs2 hrg2 hsz hct0 hm9 hap hsv hxr
        go_wp2
        generalize w2.alloc (.cells #[.string ⟨xr.word.toArray⟩, .int .i64 xr.cost, .int .i64 xr.count] 73) = wA at HT0 HR0 ⊢
        generalize w2.heap.size = F at HT0 ⊢
        clear hen
        generalize xr.cost = rc at HT0
        generalize xr.count = rn at HT0
        go_loopw [8] (fun mv wq => ∃ (p : Nat) (v : Value), v = mv ∧ mxD D ≤ p ∧ p ≤ max (mxD D) (sv.size + 1) ∧ Hid (LoI w wq F [.string sv, .int .i64 rc, .int .i64 rn] 73 D v p) ∧ Hid (RgS wq rb RB (seL M) M.length (seen ++ [xi]))) (fun v _ => sv.size + 1 - lenV v)
        case atStart => exact ⟨_, v, rfl, Nat.le_refl _, Nat.le_max_left _ _, HT0, HR0⟩
        case round =>
          obtain ⟨p, v, rfl, hp1, hp2, HT, HR⟩ := hrel
          clear HT0 HR0
          have b0 := HT.out.box.cell (j := 0) (u := .string sv) rfl
          have bl := HT.out.box.lt
          have hsz := HT.out.below.size
          have hp9 : p ≤ 1001 := by omega
          have hlv := lenV_own HT.out.row
          by_cases hle : p ≤ sv.size
          · have hlei : (p : Int) ≤ (sv.size : Int) := by omega
            go_wp2_with (first | (at_len; refine wpList_len_row rfl _ rfl _ p rfl (own_slc HT.out.row) ?_) | (at_builtin; go_loud (refine wpList_append_own_at _ rfl _ _ 48 rfl w.heap.size 3 i0 (.int .i64 0) 1 8 Tryd.underlying48 HI.out HZ0.out HZ1.out HZ2.out rfl (by decide) _ _ _ rfl (HT.out.row.alloc _) ⟨_, 0, none⟩ 1 1 [.int .i64 0] rfl rfl (cell_one_newR _ _ _) (by intro u hu; simp only [List.mem_singleton] at hu; subst hu; rfl) (by unfold maxLen; omega) (by omega) (by simp; omega) ?_); intro v' w4 hown hgr hnil hblk))
            have HT4 := hide (HT.out.app (by decide) hp1 hown hgr)
            have HR4 := hide ((HR.out.alloc _).kept hgr (fun e => own_noiter HT.out.row HR.out.map (by intro _ _ _ e; cases e) e.symm) (fun e => own_noiter HT.out.row HR.out.it (by intro _ _ _ e; cases e) e.symm))
            clear hown hgr hnil hblk HT HR
            go_wp2
            go_roundw
            case rel => exact ⟨p + 1, _, rfl, by omega, by omega, HT4, HR4⟩
            case measure => have := lenV_own HT4.out.row; omega
          · have hlei : ¬ ((p : Int) ≤ (sv.size : Int)) := by omega
            have hpe : p = mxD (D ++ [sv.size]) := by rw [mxD_snoc]; omega
            obtain ⟨g, cap, rfl, -, hgl⟩ := own_form HT.out.row (by omega)
            have hci := ints_cell HT.out.row sv.size _ (hisP_get (by omega))
            have hdp : (sv.size : Int) < (p : Int) := by omega
            obtain ⟨HT5, HQ5⟩ := HT.out.put (by omega) hpe
            have HT6 := hide HT5
            have HQ6 := hide HQ5
            have HR6 := hide (HR.out.other (p := ⟨g, sv.size, none⟩) (fun e => own_noiter HT.out.row HR.out.map (by intro _ _ _ e; cases e) (congrArg some e.symm)) (fun e => own_noiter HT.out.row HR.out.it (by intro _ _ _ e; cases e) (congrArg some e.symm)) (.int .i64 ((D.count sv.size : Int) + 1)))
            have hfz := own_free HT.out.row sv.size
            obtain ⟨cc, hcc⟩ : ∃ cc : Int, cc = (D.count sv.size : Int) := ⟨_, rfl⟩
            have w2q : IntKind.i64.wrap (cc + 1) = cc + 1 := IntWalk.i64_in _ (by omega)
            have w3q : wrap64 (cc + 1) = cc + 1 := IntWalk.wrap64_in _ (by omega)
            rw [← hcc] at hci HT6 HQ6 HR6
            clear HT5 HQ5 HT HR hcc hct
            go_wp2
            go_roundw
            case rel => exact ⟨seen ++ [xi], _, rfl, ⟨HR6.out, by rw [HD1.out]; exact HT6.out, HND.out, HLTS.out, hlow, HQ6.out⟩⟩
            case measure => rw [HR6.out.left_eq]; exact HLT.out
theorem LayersOf_len (v : ByteArray) (t : St) : (loV v t).length ≤ 100000 := loV_len v t
theorem own_belowL {w w' : World} {B b : Nat} {e : TypeId} {z : Nat} {v : Value} {n : Nat} {xs : List Value} (hb : Below B w w') (h : w.ownsRow b e z v n xs) (hl : ∀ g, v.ownBlock = some g → g < B) : w'.ownsRow b e z v n xs := by
  obtain ⟨h1, h2⟩ := h
  refine ⟨h1, ?_⟩
  rcases h2 with h2 | ⟨g, cap, cur, hv, hg, hh, r⟩
  · exact .inl h2
  · exact .inr ⟨g, cap, cur, hv, hg, by rw [hb.block g (hl g (by rw [hv]; rfl))]; exact hh, r⟩

set_option maxHeartbeats 3200000 in
theorem walk_LayersOf (v : ByteArray) (hv : v.size ≤ maxLen) (t : St) (htx : (Lit.int .i64 t.x).wf = true) (hty : (Lit.int .i64 t.y).wf = true) (w : World) (hg : Glob w) : Calls Tryd.prog 12 #[.string v, St.v t] w fun e w' => e = .returned (.bool true) ∧ Below w.heap.size w w' := by
  have HGL := hide hg
  clear hg
  by_cases h0 : v.size ≤ 1048576
  · have HS0 := hide h0
    have hlen := hide (show (loV v t).length ≤ 100000 from LayersOf_len v t)
    go_enter Tryd.func12, Tryd.ntmps12
    go_wp2_with fail
    refine (toState_any t _).mono ?_
    rintro e w1 ⟨rfl, hb1⟩
    have u1 := isS_to hb1 (IsS.new (w := w) (s := t) (ty := 25)) rfl
    have q1 : Below w.heap.size w w1 := below_after (by go_grown) hb1 (by simp)
    clear hb1
    go_wp2_with fail
    refine (specLO_any v t _ HS0.out).mono ?_
    rintro e w2 ⟨v0, rfl, O2, hb2⟩
    have u2 := isS_to hb2 u1 rfl
    have q2 := below_to hb2 q1 q1.size rfl rfl rfl rfl
    clear hb2 u1
    have HIM := hide (fun wx (hx : Glob wx) => implLO_any v t wx HS0.out hx)
    generalize (loV v t) = Z at hlen O2 HIM
    generalize askB v t = ok at HIM ⊢
    obtain ⟨l1, ⟨c0, c1, c2, c3, c4, c5, c6, c7⟩, -⟩ := u2.all
    go_wp2_with fail
    clear c0 c1 c2 c3 c4 c5 c6 c7 l1
    refine (toState_any t _).mono ?_
    rintro e w3 ⟨rfl, hb3⟩
    have u3 := isS_to hb3 u2 rfl
    have q3 := below_to hb3 q2 q2.size rfl rfl rfl rfl
    have O3 := own_to hb3 O2 rfl
    have hg3 := hide (show Glob w3 from by
      have hl := HGL.out.lt
      obtain ⟨m, hm⟩ := HGL.out
      exact ⟨m, (q3.cell (p := ⟨0, 0, none⟩) hl).trans hm⟩)
    have hlt3 : ∀ g, v0.ownBlock = some g → g < w3.heap.size := fun g hg => (O3.lt g hg).2
    clear hb3 u2 O2 q2
    go_wp2_with fail
    refine (HIM.out _ hg3.out).mono ?_
    rintro e w4 ⟨v1, rfl, G4, hb4⟩
    have u4 := isS_to hb4 u3 rfl
    have q4 := below_to hb4 q3 q3.size rfl rfl rfl rfl
    have O4 := own_to hb4 O3 rfl
    have hw3 : w.heap.size < w3.heap.size := u3.lt
    clear hb4 u3 O3 hg3
    go_wp2_with fail
    refine (eqIntS_any v1 v0 Z.length w3.heap.size w1.heap.size Z w4 (by have := hlen.out; omega) G4 O4).mono ?_
    rintro e w5 ⟨rfl, hb5⟩
    have u5 := isS_to hb5 u4 rfl
    have q5 := below_to hb5 q4 q4.size rfl rfl rfl rfl
    have O5 := own_to hb5 O4 rfl
    have G5 := own_to hb5 G4 rfl
    clear hb5 u4 O4 G4 q4
    have e1 : (ok != ok) = false := by simp
    go_wp2_with fail
    refine (markIntS_any v1 Z.length w3.heap.size Z 1 w5 (by have := hlen.out; omega) (by omega) G5).mono ?_
    rintro e w6 ⟨rfl, G6, hb6⟩
    have u6 : IsS w6 w.heap.size t 25 := (hb6.block _ hw3).trans u5
    have q6 : Below w.heap.size w w6 := q5.trans (hb6.mono (by omega))
    have O6 := own_belowL hb6 O5 hlt3
    clear hb6 u5 O5 G5 q5
    generalize hN : ((Z.length : Nat) : Int) = N at *
    have hN0 : 0 ≤ N := by omega
    have HN := hide hN
    clear hN
    go_wp2_with fail
    refine (heldIntS_any v1 Z.length w3.heap.size 1 w6 (by have := hlen.out; omega) (by omega) G6).mono ?_
    rintro e w7 ⟨rfl, rfl⟩
    rw [HN.out]
    have n1 : ¬ (1 + N < 0) := by omega
    have n2 : ((1 + N) != (1 + N)) = false := by simp
    obtain ⟨l1, ⟨c0, c1, c2, c3, c4, c5, c6, c7⟩, -⟩ := u6.all
    go_wp2_with fail
    clear c0 c1 c2 c3 c4 c5 c6 c7 l1
    refine (toState_any t _).mono ?_
    rintro e w8 ⟨rfl, hb8⟩
    have q8 := below_to hb8 q6 q6.size rfl rfl rfl rfl
    have O8 := own_to hb8 O6 rfl
    have G8 := own_to hb8 G6 rfl
    have hg8 := hide (show Glob w8 from by
      have hl := HGL.out.lt
      obtain ⟨m, hm⟩ := HGL.out
      exact ⟨m, (q8.cell (p := ⟨0, 0, none⟩) hl).trans hm⟩)
    clear hb8 u6 O6 G6 q6
    go_wp2_with fail
    refine (HIM.out _ hg8.out).mono ?_
    rintro e w9 ⟨v2, rfl, H9, hb9⟩
    have q9 := below_to hb9 q8 q8.size rfl rfl rfl rfl
    have O9 := own_to hb9 O8 rfl
    have G9 := own_to hb9 G8 rfl
    clear hb9 O8 G8 hg8 q8
    go_wp2_with fail
    refine (eqIntS_any v2 v0 Z.length w8.heap.size w1.heap.size Z w9 (by have := hlen.out; omega) H9 O9).mono ?_
    rintro e w10 ⟨rfl, hb10⟩
    have q10 := below_to hb10 q9 q9.size rfl rfl rfl rfl
    have G10 := own_to hb10 G9 rfl
    clear hb10 O9 G9 H9 q9
    go_wp2_with fail
    refine (heldIntS_any v1 Z.length w3.heap.size 1 w10 (by have := hlen.out; omega) (by omega) G10).mono ?_
    rintro e w11 ⟨rfl, rfl⟩
    rw [HN.out]
    go_wp2
    go_returns
    exact ⟨rfl, q10⟩
  · go_enter Tryd.func12, Tryd.ntmps12
    go_wp2
    go_returns
    exact ⟨rfl, by go_grown⟩
end Go.Proofs.YthdkhikkdcjifaaDoor
