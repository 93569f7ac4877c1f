/- FnExactLabelsOfWord's walk: the program's side. FnExactLabelsOfWord's walk: the model's side, and the law. -/
import Derived.Test.YtmlfkcmmjmdhmaaDoorLabS
namespace Go.Proofs.YtmlfkcmmjmdhmaaDoor
set_option maxRecDepth 100000
set_option linter.all false
open Go.RowKit

/-- Has each of the first k states matched what was written ahead of it? -/
def lwOk (W : Nat) (t : St) (Lw l : List UInt8) : Nat → Bool
  | 0 => true
  | k + 1 => lwOk W t Lw l k && hitB (cellI (splitP (prS D.t W t Lw l k)) (atT t Lw k).x (atT t Lw k).y) (atT t Lw k).d.t
theorem lwOk_mono (W : Nat) (t : St) (Lw l : List UInt8) : ∀ m k, k ≤ m → lwOk W t Lw l k = false → lwOk W t Lw l m = false
  | 0, k, h, hk => by
    have : k = 0 := by omega
    subst this
    exact hk
  | m + 1, k, h, hk => by
    rcases Nat.lt_or_ge k (m + 1) with h1 | h1
    · rw [lwOk, lwOk_mono W t Lw l m k (by omega) hk]
      rfl
    · have : k = m + 1 := by omega
      subst this
      exact hk
/-- What LabelsOfWord answers. -/
def lwB (l : List UInt8) (t : St) (L : List UInt8) : Bool := raB l t L && lwOk (width l) t L l (L.length + 1)
def lwS (l : List UInt8) (t : St) (L : List UInt8) : ByteArray := if lwB l t L = true then ⟨(prS D.t (width l) t L l (L.length + 1)).toArray⟩ else ⟨#[]⟩
theorem lw_no {l : List UInt8} {t : St} {L : List UInt8} (h : lwB l t L = false) : lwS l t L = ⟨#[]⟩ := by unfold lwS; rw [h]; rfl
theorem lw_ra {l : List UInt8} {t : St} {L : List UInt8} (h : raB l t L = false) : lwB l t L = false := by unfold lwB; rw [h]; rfl
set_option maxHeartbeats 3200000 in
theorem implLW_any (s : ByteArray) (t : St) (v : ByteArray) (w : World) (hs : s.size ≤ 1048576) (hv : v.size ≤ 1048576) (hg : Glob w) : Calls Tryd.prog 15 #[.string s, St.v t, .string v] w fun e w' => e = .returned (.tuple #[.string (lwS s.data.toList t v.data.toList), .bool (lwB s.data.toList t v.data.toList)]) ∧ Below w.heap.size w w' := by
  have HG := hide (show Glob (w.alloc (.cells #[.int .i64 t.x, .int .i64 t.y, .int .i64 t.d.t, .int .i64 t.d.n, .int .i64 t.d.e, .int .i64 t.d.s, .int .i64 t.d.w, .int .i64 t.d.b] 30)) from glob_to (w0 := w) ((Below.refl _ _).alloc (Nat.le_refl _) _) hg rfl)
  clear hg
  cases hra : raB s.data.toList t v.data.toList
  · have HRA := hide hra
    have HB := hide (lw_ra hra)
    rw [HB.out, lw_no HB.out]
    clear hra
    go_enter Tryd.func15, Tryd.ntmps15
    go_wp2_with fail
    refine (implSA_any s t v _ hs hv HG.out).mono ?_
    rintro e w1 ⟨vv, rfl, hown, hb1⟩
    rw [HRA.out]
    have q0 : Below w.heap.size w w1 := below_after (by go_grown) hb1 (by simp)
    clear hown hb1
    go_wp2
    go_returns
    exact ⟨rfl, q0⟩
  ·
    have HRA := hide hra
    obtain ⟨p1, p2, p3, p4⟩ := ra_parts hra
    have hgd := (st_floor p2).2
    have hl : v.data.toList.length = v.size := by simp
    have hlen : v.size ≤ 60 := by have := isWord_len p3; simpa using this
    have HFL := hide (show ∀ j, j ≤ v.size → floorL s.data.toList (atT t v.data.toList j).x (atT t v.data.toList j).y = true from fun j hj => way_floor _ _ _ (st_floor p2).1 p4 j (by omega))
    have HFF := hide (show ∀ j, 0 ≤ D.t (atT t v.data.toList j).d ∧ D.t (atT t v.data.toList j).d ≤ 9 from fun j => good_top (way_good v.data.toList j hgd))
    have HSA := hide (show saV s.data.toList t v.data.toList = waysT t v.data.toList v.size from by rw [sa_yes hra, hl])
    have hgr : GridOk s.data.toList (width s.data.toList) (splitP s.data.toList).length (splitP s.data.toList).flatten.length := ⟨p1, rfl, rfl, rfl⟩
    obtain ⟨w0, w7, h0, h7, hn⟩ := grid_facts hgr
    have HBF := hide (show ∀ k, k ≤ v.size → lwOk (width s.data.toList) t v.data.toList s.data.toList (k + 1) = false → lwB s.data.toList t v.data.toList = false ∧ lwS s.data.toList t v.data.toList = ⟨#[]⟩ from fun k hk h => by
      have h1 : lwB s.data.toList t v.data.toList = false := by unfold lwB; rw [lwOk_mono _ _ _ _ _ (k + 1) (by omega) h, Bool.and_false]
      exact ⟨h1, lw_no h1⟩)
    have HBT := hide (show lwOk (width s.data.toList) t v.data.toList s.data.toList (v.size + 1) = true → lwB s.data.toList t v.data.toList = true ∧ lwS s.data.toList t v.data.toList = ⟨(prS D.t (width s.data.toList) t v.data.toList s.data.toList (v.size + 1)).toArray⟩ from fun h => by
      have h1 : lwB s.data.toList t v.data.toList = true := by unfold lwB; rw [hra, hl, h]; rfl
      exact ⟨h1, by unfold lwS; rw [if_pos h1, hl]⟩)
    have he : Even s.data.toList (width s.data.toList) := bd_even p1
    have HOK := hide (prS_ok hgr D.t t v.data.toList v.size HFL.out HFF.out)
    have HGR := hide hgr
    have HE := hide he
    have HN := hide hn
    clear hra p1 p2 p3 p4 hl hgr hgd he hn
    generalize hW : width s.data.toList = W at w0 w7 HN HGR HE HOK HBF HBT
    generalize hH : (splitP s.data.toList).length = H at h0 h7 HN HGR HOK
    generalize (splitP s.data.toList).flatten.length = n at HN HGR
    have HHH := hide hH
    clear hW hH
    have hSl : s.data.toList.length = s.size := by simp
    have hlenS := even_len HE.out
    rw [HHH.out] at hlenS
    have hS0 : 0 < s.size := by
      have := Nat.mul_le_mul h0 (show 2 ≤ W + 1 by omega)
      omega
    have HLN := hide hlenS
    clear hlenS
    go_enter Tryd.func15, Tryd.ntmps15
    go_wp2_with fail
    refine (implSA_any s t v _ hs hv HG.out).mono ?_
    rintro e w1 ⟨vv, rfl, hown, hb1⟩
    rw [HSA.out, waysT_len] at hown
    rw [HRA.out]
    obtain ⟨gq, cq, rfl, -, hgq⟩ := own_form hown (by omega)
    have q0 : Below w.heap.size w w1 := below_after (by go_grown) hb1 (by simp)
    have O0 := own_mono hown (show w.heap.size ≤ _ from by simp)
    clear hb1 hown
    obtain ⟨cap, W2, hcv, hcap, B2, hb2, hz2⟩ := bytes_new s w1
    have q2 := below_after q0 hb2 q0.size
    have HO2 := hide (own_to hb2 O0 rfl)
    have HB2 := hide B2
    have hgq2 : gq < w1.heap.size := hgq
    clear O0 B2 hb2 hz2 q0
    go_wp2_with fail
    clear hcv
    refine (cutRows_any s.data.toList W H HE.out HHH.out ⟨w0, w7⟩ ⟨h0, h7⟩ _ s.size cap hSl.symm hcap _ HB2.out).mono ?_
    rintro e w3 ⟨h, cap', rfl, O3, hb3⟩
    have HLA := hide (labAt_new (bufAt_to hb3 HB2.out rfl) O3)
    have HO3 := hide (own_to hb3 HO2.out rfl)
    have q3 := below_after q2 hb3 q2.size
    have hgB : w.heap.size ≤ w1.heap.size := by
      have := HO2.out.lt gq rfl
      omega
    clear O3 hb3 HB2 HO2 q2
    generalize w1.heap.size = g at HLA hgq2 hgB ⊢
    have HNE := hide (lab_ne HLA.out (by omega) (by omega))
    go_wp2
    go_loopw [29, 13] (fun i _ wr => ∃ k : Nat, k ≤ v.size + 1 ∧ i = .int .i64 (k : Int) ∧ LabAt wr h g (prS D.t W t v.data.toList s.data.toList k) W H ∧ lwOk W t v.data.toList s.data.toList k = true ∧ wr.ownsRow w.heap.size 30 8 (.slice (some ⟨gq, 0, none⟩) (v.size + 1) cq) (v.size + 1) (cellsS (waysT t v.data.toList v.size)) ∧ Below w.heap.size w wr) (fun i _ _ => v.size + 1 - (intOf i).toNat)
    case atStart => exact ⟨0, Nat.zero_le _, rfl, HLA.out, rfl, HO3.out, q3⟩
    case round =>
      obtain ⟨k, hk, rfl, A, hok, O, q⟩ := hrel
      clear HLA HO3 q3
      by_cases hlt : k < v.size + 1
      ·
        obtain ⟨a0, a1, a2, a3, a4, a5, a6, a7⟩ := row_cells_at k O hlt (waysT_get t v.data.toList v.size k (by omega))
        obtain ⟨e1, e2, e3⟩ := HOK.out k (by omega)
        obtain ⟨x, y, hx, hy, hxW, hyH⟩ := floor_in HGR.out (HFL.out k (by omega))
        have hfl := HFL.out k (by omega)
        have hff := HFF.out k
        have HS := hide (show prS D.t W t v.data.toList s.data.toList (k + 1) = (prS D.t W t v.data.toList s.data.toList k).set ((atT t v.data.toList k).y.toNat * (W + 1) + (atT t v.data.toList k).x.toNat) (lab (D.t (atT t v.data.toList k).d)) from rfl)
        obtain ⟨d, hd1, -, -⟩ := floor_cell (x := x) (y := y) e1 hxW (by omega) (by rw [e3, ← hx, ← hy]; exact hfl)
        have hpl := (List.getElem?_eq_some_iff.1 hd1).1
        have hyx : y * (W + 1) ≤ 6 * 8 := Nat.mul_le_mul (by omega) (by omega)
        have HRW := A.2.2 y hyH
        obtain ⟨c9, f9⟩ := A.2.1.cell hd1
        have hln := prS_len D.t W t v.data.toList s.data.toList k
        have HOKS := hide (show lwOk W t v.data.toList s.data.toList (k + 1) = (lwOk W t v.data.toList s.data.toList k && hitB (cellI (splitP (prS D.t W t v.data.toList s.data.toList k)) (atT t v.data.toList k).x (atT t v.data.toList k).y) (atT t v.data.toList k).d.t) from rfl)
        rw [hok, Bool.true_and] at HOKS
        have HBK := hide (HBF.out k (by omega))
        have HE1 := hide e1
        have HE2 := hide e2
        clear hok
        generalize prS D.t W t v.data.toList s.data.toList k = P at A HS hpl hln HOKS HE1 HE2 hd1
        generalize atT t v.data.toList k = u at a0 a1 a2 a3 a4 a5 a6 a7 hx hy hff HS HOKS
        obtain ⟨⟨ux, uy, ⟨ut, un, ue, us, uw, ub⟩⟩, rfl⟩ : ∃ u', u' = u := ⟨u, rfl⟩
        simp only at a0 a1 a2 a3 a4 a5 a6 a7 hx hy hff HS HOKS
        subst hx
        subst hy
        simp only [Int.toNat_natCast] at HS
        have hk0 : (k : Int) < ((v.size + 1 : Nat) : Int) := by omega
        have hxi : (x : Int) < (W : Int) := by omega
        have hyi : (y : Int) < (H : Int) := by omega
        have HA1 := hide (labAt_alloc A (.cells #[.int .i64 (x : Int), .int .i64 (y : Int), .int .i64 ut, .int .i64 un, .int .i64 ue, .int .i64 us, .int .i64 uw, .int .i64 ub] 30))
        have hgw := A.2.1.lt
        have HO1 := hide (O.alloc (.cells #[.int .i64 (x : Int), .int .i64 (y : Int), .int .i64 ut, .int .i64 un, .int .i64 ue, .int .i64 us, .int .i64 uw, .int .i64 ub] 30))
        have q1 := q.alloc q.size (.cells #[.int .i64 (x : Int), .int .i64 (y : Int), .int .i64 ut, .int .i64 un, .int .i64 ue, .int .i64 us, .int .i64 uw, .int .i64 ub] 30)
        have S1 := IsS.new (w := wr) (s := ⟨(x : Int), (y : Int), ⟨ut, un, ue, us, uw, ub⟩⟩) (ty := 30)
        obtain ⟨l1, ⟨c0, c1, c2, c3, c4, c5, c6, c7⟩, -⟩ := S1.all
        have HD1 := hide hd1
        have HPL := hide hpl
        clear A O q hd1 HRW c9 f9 e1 e2 e3 hfl hpl
        go_upto_region 9 with (fail)
        generalize wr.heap.size = b at hgw S1 l1 c0 c1 c2 c3 c4 c5 c6 c7 ⊢
        generalize wr.alloc (.cells #[.int .i64 (x : Int), .int .i64 (y : Int), .int .i64 ut, .int .i64 un, .int .i64 ue, .int .i64 us, .int .i64 uw, .int .i64 ub] 30) = w2 at HA1 HO1 q1 S1 l1 c0 c1 c2 c3 c4 c5 c6 c7 ⊢
        simp only at c0 c1 c2 c3 c4 c5 c6 c7
        go_wp2_with fail
        clear c0 c1 c2 c3 c4 c5 c6 c7 l1
        refine (matches_any P W H h g cap' HE1.out HE2.out w7 h7 ⟨(x : Int), (y : Int), ⟨ut, un, ue, us, uw, ub⟩⟩ hff.1 hff.2 _ HA1.out).mono ?_
        rintro e w3 ⟨rfl, hb3⟩
        simp only
        have A3 := labAt_to hb3 HA1.out rfl
        have S3 := isS_to hb3 S1 rfl
        have O3 := own_to hb3 HO1.out rfl
        have q3 := below_to hb3 q1 q1.size rfl rfl rfl rfl
        clear hb3 HA1 S1 HO1 q1
        cases hm : hitB (cellI (splitP P) (x : Int) (y : Int)) ut
        · have HBB := hide (HBK.out (by rw [HOKS.out, hm]))
          clear hm A3 S3 O3
          go_wp2
          go_returns
          exact ⟨by rw [HBB.out.1, HBB.out.2]; rfl, q3⟩
        · have HK1 := hide (show lwOk W t v.data.toList s.data.toList (k + 1) = true from by rw [HOKS.out, hm])
          clear hm
          have hlb := lab_nat hff.1 hff.2
          have hne := HNE.out
          have A4 := labAt_put A3 hne HPL.out (lab ut)
          rw [hlb] at A4
          have HA4 := hide A4
          have O4 := hide (show (w3.setCell ⟨g, y * (W + 1) + x, none⟩ (.int .u8 (48 + ut))).ownsRow w.heap.size 30 8 (.slice (some ⟨gq, 0, none⟩) (v.size + 1) cq) (v.size + 1) (cellsS (waysT t v.data.toList v.size)) from ownsRow_setCell_other O3 (by simp [Value.ownBlock]; omega) _)
          have q4 := q3.setCell (p := ⟨g, y * (W + 1) + x, none⟩) hgB (.int .u8 (48 + ut))
          have HRW2 := A3.2.2 y hyH
          obtain ⟨c92, f92⟩ := A3.2.1.cell HD1.out
          obtain ⟨l1, ⟨c0, c1, c2, c3, c4, c5, c6, c7⟩, -⟩ := S3.all
          simp only at c0 c1 c2 c3 c4 c5 c6 c7
          clear A3 S3 O3 q3 A4
          generalize y * (W + 1) = r at HS HA4 O4 q4 HRW2 c92 f92 hyx ⊢
          have nb : ∀ j i : Nat, (⟨g, j, none⟩ : Addr) ≠ ⟨b, i, none⟩ := fun j i e => by injection e; omega
          have nh : ∀ j i : Nat, (⟨g, j, none⟩ : Addr) ≠ ⟨h, i, none⟩ := fun j i e => HNE.out (by injection e with e1; exact e1.symm)
          clear hne
          go_upto_region 11 with (fail)
          go_region_held3 (fun w' => w'.cell? ⟨b, 0, none⟩ = some (.int .i64 (x : Int)) ∧ w'.cell? ⟨b, 1, none⟩ = some (.int .i64 (y : Int)) ∧ w'.cell? ⟨b, 2, none⟩ = some (.int .i64 ut) ∧ w'.cell? ⟨h, y, none⟩ = some (.slice (some ⟨g, r, none⟩) W W)) (first | (refine ⟨?_, ?_, ?_, ?_⟩ <;> with_reducible assumption) | exact ⟨(World.cell?_setCell_other _ _ _ _ (nb _ _)).trans c0, (World.cell?_setCell_other _ _ _ _ (nb _ _)).trans c1, (World.cell?_setCell_other _ _ _ _ (nb _ _)).trans c2, (World.cell?_setCell_other _ _ _ _ (nh _ _)).trans HRW2⟩ | exact ⟨c0, c1, c2, HRW2⟩)
            (first
              | (go_at_call 22; (refine (labelOf_any ut hff.1 hff.2 _).mono ?_); rintro e w' ⟨rfl, rfl⟩))
          all_goals
            go_wp2
            go_roundw
            case rel => exact ⟨k + 1, by omega, by go_num, by rw [HS.out]; exact HA4.out, HK1.out, O4.out, q4.drew⟩
            case measure => simp [intOf] <;> omega
      · obtain rfl : k = v.size + 1 := by omega
        have hln := prS_len D.t W t v.data.toList s.data.toList (v.size + 1)
        have hbk := bytes_out (cap := cap) A.2.1 (n := s.size) (by rw [hln, hSl])
        have HBB := hide (HBT.out hok)
        clear A O hok
        go_wp2
        go_returns
        exact ⟨by rw [HBB.out.1, HBB.out.2]; rfl, q⟩
end Go.Proofs.YtmlfkcmmjmdhmaaDoor
namespace Go.Proofs.YtmlfkcmmjmdhmaaDoor
set_option maxRecDepth 100000
set_option linter.all false
open Go.RowKit

theorem bytesV_oneC (L : List UInt8) : ∀ u ∈ bytesV L, u.oneCell' = true := by
  intro u hu
  obtain ⟨c, _, rfl⟩ := List.mem_map.1 hu
  rfl
set_option maxHeartbeats 3200000 in
theorem specLW_any (s : ByteArray) (t : St) (v : ByteArray) (w : World) (hs : s.size ≤ 1048576) (hv : v.size ≤ 1048576) : Calls Tryd.prog 14 #[.string s, St.v t, .string v] w fun e w' => e = .returned (.tuple #[.string (lwS s.data.toList t v.data.toList), .bool (lwB s.data.toList t v.data.toList)]) ∧ Below w.heap.size w w' := by
  cases hra : raB s.data.toList t v.data.toList
  · have HRA := hide hra
    have HB := hide (lw_ra hra)
    rw [HB.out, lw_no HB.out]
    clear hra
    go_enter Tryd.func14, Tryd.ntmps14
    go_wp2_with fail
    refine (boWayA_any s t v _ hs hv).mono ?_
    rintro e w1 ⟨vv, rfl, hown, hb1⟩
    rw [HRA.out]
    have q0 : Below w.heap.size w w1 := below_after (by go_grown) hb1 (by simp)
    clear hown hb1
    go_wp2
    go_returns
    exact ⟨rfl, q0⟩
  ·
    have HRA := hide hra
    obtain ⟨p1, p2, p3, p4⟩ := ra_parts hra
    have hgd := (st_floor p2).2
    have hl : v.data.toList.length = v.size := by simp
    have hlen : v.size ≤ 60 := by have := isWord_len p3; simpa using this
    have HFL := hide (show ∀ j, j ≤ v.size → floorL s.data.toList (atT t v.data.toList j).x (atT t v.data.toList j).y = true from fun j hj => way_floor _ _ _ (st_floor p2).1 p4 j (by omega))
    have HFF := hide (show ∀ j, 0 ≤ D.t (atT t v.data.toList j).d ∧ D.t (atT t v.data.toList j).d ≤ 9 from fun j => good_top (way_good v.data.toList j hgd))
    have HSA := hide (show saV s.data.toList t v.data.toList = waysT t v.data.toList v.size from by rw [sa_yes hra, hl])
    have hgr : GridOk s.data.toList (width s.data.toList) (splitP s.data.toList).length (splitP s.data.toList).flatten.length := ⟨p1, rfl, rfl, rfl⟩
    obtain ⟨w0, w7, h0, h7, hn⟩ := grid_facts hgr
    have HBF := hide (show ∀ k, k ≤ v.size → lwOk (width s.data.toList) t v.data.toList s.data.toList (k + 1) = false → lwB s.data.toList t v.data.toList = false ∧ lwS s.data.toList t v.data.toList = ⟨#[]⟩ from fun k hk h => by
      have h1 : lwB s.data.toList t v.data.toList = false := by unfold lwB; rw [lwOk_mono _ _ _ _ _ (k + 1) (by omega) h, Bool.and_false]
      exact ⟨h1, lw_no h1⟩)
    have HBT := hide (show lwOk (width s.data.toList) t v.data.toList s.data.toList (v.size + 1) = true → lwB s.data.toList t v.data.toList = true ∧ lwS s.data.toList t v.data.toList = ⟨(prS D.t (width s.data.toList) t v.data.toList s.data.toList (v.size + 1)).toArray⟩ from fun h => by
      have h1 : lwB s.data.toList t v.data.toList = true := by unfold lwB; rw [hra, hl, h]; rfl
      exact ⟨h1, by unfold lwS; rw [if_pos h1, hl]⟩)
    have HOK0 := hide (prS_ok hgr D.t t v.data.toList v.size HFL.out HFF.out)
    have HFLT0 := hide (prS_flat hgr D.t t v.data.toList v.size HFL.out HFF.out)
    have HBD := hide p1
    have HW0 := hide (show width s.data.toList = width s.data.toList from rfl)
    obtain ⟨i0, hi, hz0, hz1, hz2⟩ := info_parts info_u8U
    have HI := hide hi
    have HZ0 := hide hz0
    have HZ1 := hide hz1
    have HZ2 := hide hz2
    clear hi hz0 hz1 hz2
    clear hra p1 p2 p3 p4 hl hgr hgd hn w0 w7 h0 h7 HW0
    go_enter Tryd.func14, Tryd.ntmps14
    go_wp2_with fail
    refine (boWayA_any s t v _ hs hv).mono ?_
    rintro e w1 ⟨vv, rfl, hown, hb1⟩
    rw [HSA.out, waysT_len] at hown
    rw [HRA.out]
    obtain ⟨gq, cq, rfl, -, hgq⟩ := own_form hown (by omega)
    have q0 : Below w.heap.size w w1 := below_after (by go_grown) hb1 (by simp)
    have O0 := hide (own_mono hown (show w.heap.size ≤ _ from by simp))
    clear hb1 hown
    go_wp2_with fail
    refine (boRead_yesC s _ hs HBD.out).mono ?_
    rintro e w2 ⟨W, H, n, g, cap, hgr, rfl, hA, hcp, hb2⟩
    have hgr2 := hgr
    obtain ⟨hbd, hWw, hHh, hFl⟩ := hgr2
    have HWW := hide hWw
    rw [hWw] at HBF HBT HOK0 HFLT0
    have HOK := hide (prS_ok hgr D.t t v.data.toList v.size HFL.out HFF.out)
    have HFLT := hide (prS_flat hgr D.t t v.data.toList v.size HFL.out HFF.out)
    clear HOK0 HFLT0
    obtain ⟨w0, w7, h0, h7, hn⟩ := grid_facts hgr
    have HGR := hide hgr
    have HN := hide hn
    have HCP := hide hcp
    have HF0 := hide hFl
    have hnn : n ≤ 49 := by rw [hn]; exact Nat.mul_le_mul w7 h7
    have hn0 : 0 < n := by rw [hn]; exact Nat.mul_pos (by omega) (by omega)
    have q2 := below_after q0 hb2 q0.size
    have O2 := own_to hb2 O0.out rfl
    have hgq2 := (O2.lt gq rfl).2
    have HA := hide (hA.allocP (.cells #[.int .i64 (W : Int), .int .i64 (H : Int), .slice (some ⟨g, 0, none⟩) n cap] 43))
    have HO2 := hide (O2.alloc (.cells #[.int .i64 (W : Int), .int .i64 (H : Int), .slice (some ⟨g, 0, none⟩) n cap] 43))
    have G2 := IsG.new (w := w2) (x := (W : Int)) (y := (H : Int)) (v := .slice (some ⟨g, 0, none⟩) n cap)
    have q2a := q2.alloc q2.size (.cells #[.int .i64 (W : Int), .int .i64 (H : Int), .slice (some ⟨g, 0, none⟩) n cap] 43)
    have hgw := hA.lt
    clear hgr hbd hWw hHh hFl hn hcp hA hb2 O0 O2 q0 q2
    go_upto_region 5 with (fail)
    have hb2z : w2.heap.size + 1 = (w2.alloc (.cells #[.int .i64 (W : Int), .int .i64 (H : Int), .slice (some ⟨g, 0, none⟩) n cap] 43)).heap.size := by simp
    generalize w2.heap.size = b2 at G2 hgq2 hgw hb2z ⊢
    generalize w2.alloc (.cells #[.int .i64 (W : Int), .int .i64 (H : Int), .slice (some ⟨g, 0, none⟩) n cap] 43) = w3 at G2 HA HO2 q2a hb2z ⊢
    obtain ⟨l2, ⟨g0, g1, g2⟩, -⟩ := G2.all
    have HE0 := hide (show (w3.alloc (.cells #[] 5)).ownsRow w3.heap.size 5 1 (.slice (some ⟨w3.heap.size, 0, none⟩) 0 0) 0 [] from ⟨rfl, .inr ⟨w3.heap.size, 0, #[], rfl, Nat.le_refl _, (by show (w3.heap.push _)[w3.heap.size]? = _; simp), Nat.le_refl _, Nat.zero_le _, rfl, rfl⟩⟩)
    have HB3 := hide (show ∀ (j : Nat) (u : Value), (bytesV (splitP s.data.toList).flatten)[j]? = some u → (w3.alloc (.cells #[] 5)).cell? ((⟨g, 0, none⟩ : Addr).add j) = some u from fun j u hu => by
      obtain ⟨c, hc, rfl⟩ := Option.map_eq_some_iff.1 ((List.getElem?_map ..).symm.trans (show (List.map (fun c : UInt8 => Value.int .u8 (c.toNat : Int)) (splitP s.data.toList).flatten)[j]? = some u from hu))
      rw [addr_addT]
      have := (HA.out.allocP (.cells #[] 5)).cell hc
      simpa using this)
    go_wp2_with (at_builtin; refine wpList_append_own_at _ rfl _ _ 41 rfl w3.heap.size 5 i0 (.int .u8 0) 1 1 Tryd.underlying41 HI.out HZ0.out HZ1.out HZ2.out rfl (by decide) _ _ _ rfl HE0.out ⟨g, 0, none⟩ n cap (bytesV (splitP s.data.toList).flatten) rfl ?c0 ?c1 ?c2 ?c3 ?c4 ?c5 ?_)
    case c0 => have := HF0.out; unfold bytesV; rw [List.length_map]; omega
    case c1 => exact HB3.out
    case c2 => exact bytesV_oneC _
    case c3 => unfold maxLen; omega
    case c4 => omega
    case c5 => simp
    · intro v' w4 hown4 hg4 _ _
      have hbB : Below w3.heap.size (w3.alloc (.cells #[] 5)) w4 := (Below.refl _ _).grown hg4 (by simp) (fun j hj => by cases hj; exact Nat.le_refl _)
      have G4 : IsG w4 b2 (W : Int) (H : Int) (.slice (some ⟨g, 0, none⟩) n cap) := (hbB.block _ (by omega)).trans (G2.alloc _)
      have O4 := hide (own_below hbB (HO2.out.alloc (.cells #[] 5)) (fun j hj => by cases hj; show gq < _; omega))
      have q4 : Below w.heap.size w w4 := (q2a.alloc q2a.size _).grown hg4 (by have := q2a.size; simp; omega) (fun j hj => by cases hj; have := q2a.size; omega)
      obtain ⟨gl, capl, rfl, hbl, hgl⟩ := own_form hown4 hn0
      have hcl := own_capP hown4
      have HL4 := hide hown4
      have hgq3 : gq < w3.heap.size := by omega
      have hb23 : b2 < w3.heap.size := by omega
      have hgl3 : w3.heap.size ≤ gl := hbl
      have hwl : w.heap.size ≤ gl := by have := q2a.size; omega
      generalize w3.heap.size = B3 at HL4 hgq3 hb23 hgl3
      clear hown4 hg4 hbB HE0 HB3 G2 HO2 q2a g0 g1 g2 l2 HA hb2z hbl
      go_wp2
      go_loopw [37, 14, 15, 16] (fun i _ _ _ wr => ∃ k : Nat, k ≤ v.size + 1 ∧ i = .int .i64 (k : Int) ∧ wr.ownsRow B3 5 1 (.slice (some ⟨gl, 0, none⟩) n capl) n (bytesV (splitP (prS D.t W t v.data.toList s.data.toList k)).flatten) ∧ IsG wr b2 (W : Int) (H : Int) (.slice (some ⟨g, 0, none⟩) n cap) ∧ wr.ownsRow w.heap.size 30 8 (.slice (some ⟨gq, 0, none⟩) (v.size + 1) cq) (v.size + 1) (cellsS (waysT t v.data.toList v.size)) ∧ lwOk W t v.data.toList s.data.toList k = true ∧ Below w.heap.size w wr) (fun i _ _ _ _ => v.size + 1 - (intOf i).toNat)
      case atStart => exact ⟨0, Nat.zero_le _, rfl, HL4.out, G4, O4.out, rfl, q4⟩
      case round =>
        obtain ⟨k, hk, rfl, L, G, O, hok, q⟩ := hrel
        clear HL4 G4 O4 q4
        by_cases hlt : k < v.size + 1
        · obtain ⟨a0, a1, a2, a3, a4, a5, a6, a7⟩ := row_cells_at k O hlt (waysT_get t v.data.toList v.size k (by omega))
          obtain ⟨x, y, hx, hy, hxW, hyH⟩ := floor_in HGR.out (HFL.out k (by omega))
          have hff := HFF.out k
          have HS := hide (HFLT.out k (by omega))
          have HOKS := hide (show lwOk W t v.data.toList s.data.toList (k + 1) = (lwOk W t v.data.toList s.data.toList k && hitB (cellI (splitP (prS D.t W t v.data.toList s.data.toList k)) (atT t v.data.toList k).x (atT t v.data.toList k).y) (atT t v.data.toList k).d.t) from rfl)
          rw [hok, Bool.true_and] at HOKS
          have HBK := hide (HBF.out k (by omega))
          obtain ⟨e1, e2, e3⟩ := HOK.out k (by omega)
          have hcl0 := cellI_flat e1 (k := y) (j := x) (by omega) hxW
          have hul : unl (cellI (splitP (prS D.t W t v.data.toList s.data.toList k)) x y) = 46 := floor_unl (by rw [e3, ← hx, ← hy]; exact HFL.out k (by omega))
          rw [hx, hy] at HOKS
          generalize cellI (splitP (prS D.t W t v.data.toList s.data.toList k)) (x : Int) (y : Int) = c at HOKS hcl0 hul
          clear hok e1 e2 e3
          generalize (splitP (prS D.t W t v.data.toList s.data.toList k)).flatten = P at L HS hcl0
          generalize atT t v.data.toList k = u at a0 a1 a2 a3 a4 a5 a6 a7 hx hy hff HS HOKS
          obtain ⟨⟨ux, uy, ⟨ut, un, ue, us, uw, ub⟩⟩, rfl⟩ : ∃ u', u' = u := ⟨u, rfl⟩
          simp only at a0 a1 a2 a3 a4 a5 a6 a7 hx hy hff HS HOKS
          subst hx
          subst hy
          simp only [Int.toNat_natCast] at HS
          have hlb := lab_nat hff.1 hff.2
          have hPl : P.length = n := by have := L.1; simpa [bytesV] using this
          have hyW : y * W + x < n := by
            rw [HN.out]
            have := Nat.mul_le_mul_right W (show y + 1 ≤ H by omega)
            rw [Nat.add_mul, Nat.mul_comm H W] at this
            omega
          have hy7 : y * W ≤ 6 * 7 := Nat.mul_le_mul (by omega) w7
          have hp2 : (y : Int) * (W : Int) = ((y * W : Nat) : Int) := by simp
          have T3 : (bytesV P).set (y * W + x) (.int .u8 (48 + ut)) = bytesV (splitP (prS D.t W t v.data.toList s.data.toList (k + 1))).flatten := by
            rw [← hlb, bytesV_set, ← HS.out]
          generalize y * W = r at hyW hy7 hp2 T3 hcl0
          obtain ⟨p, hp⟩ : ∃ p, p = r + x := ⟨_, rfl⟩
          rw [← hp] at T3 hyW hcl0
          have hq2 : (r : Int) + (x : Int) = (p : Int) := by omega
          have hw1 : IntKind.i64.wrap (r : Int) = (r : Int) := IntWalk.i64_in _ (by omega)
          have hw2 : IntKind.i64.wrap ((r : Int) + (x : Int)) = (p : Int) := by rw [hq2]; exact IntWalk.i64_in _ (by omega)
          have hw3 : IntKind.i64.wrap (48 + ut) = 48 + ut := IntWalk.i64_in _ (by omega)
          obtain ⟨-, hw4⟩ := u8_lab hff.1 hff.2
          have hp0 : (0 : Int) ≤ (p : Int) := by omega
          have hpn : (p : Int) < (n : Int) := by omega
          have d0 := (L.cellAt p (by omega)).trans (show (bytesV P)[p]? = some (.int .u8 (c.toNat : Int)) from by rw [bytesV, List.getElem?_map, hcl0]; rfl)
          have df := own_free L p
          have hglw := (L.lt gl rfl).2
          have HT3 := hide (show ((wr.alloc (.cells #[.int .i64 (x : Int), .int .i64 (y : Int), .int .i64 ut, .int .i64 un, .int .i64 ue, .int .i64 us, .int .i64 uw, .int .i64 ub] 30)).setCell ⟨gl, p, none⟩ (.int .u8 (48 + ut))).ownsRow B3 5 1 (.slice (some ⟨gl, 0, none⟩) n capl) n (bytesV (splitP (prS D.t W t v.data.toList s.data.toList (k + 1))).flatten) from by
            have T4 := own_put (L.alloc (.cells #[.int .i64 (x : Int), .int .i64 (y : Int), .int .i64 ut, .int .i64 un, .int .i64 ue, .int .i64 us, .int .i64 uw, .int .i64 ub] 30)) p (by omega) (.int .u8 (48 + ut))
            rw [T3] at T4
            exact T4)
          have O3 := hide (ownsRow_setCell_other (O.alloc (.cells #[.int .i64 (x : Int), .int .i64 (y : Int), .int .i64 ut, .int .i64 un, .int .i64 ue, .int .i64 us, .int .i64 uw, .int .i64 ub] 30)) (a := ⟨gl, p, none⟩) (by simp [Value.ownBlock]; omega) (.int .u8 (48 + ut)))
          have G3 := hide ((G.alloc (.cells #[.int .i64 (x : Int), .int .i64 (y : Int), .int .i64 ut, .int .i64 un, .int .i64 ue, .int .i64 us, .int .i64 uw, .int .i64 ub] 30)).other (p := ⟨gl, p, none⟩) (by simp; omega) (.int .u8 (48 + ut)))
          have q1 := q.alloc q.size (.cells #[.int .i64 (x : Int), .int .i64 (y : Int), .int .i64 ut, .int .i64 un, .int .i64 ue, .int .i64 us, .int .i64 uw, .int .i64 ub] 30)
          have q3 := q1.setCell (p := ⟨gl, p, none⟩) hwl (.int .u8 (48 + ut))
          have hk0 : (k : Int) < ((v.size + 1 : Nat) : Int) := by omega
          have d1 : (wr.alloc (.cells #[.int .i64 (x : Int), .int .i64 (y : Int), .int .i64 ut, .int .i64 un, .int .i64 ue, .int .i64 us, .int .i64 uw, .int .i64 ub] 30)).cell? ⟨gl, p, none⟩ = some (.int .u8 (c.toNat : Int)) := by rw [((Below.refl _ _).alloc (Nat.le_refl _) _ : Below wr.heap.size wr (wr.alloc (.cells #[.int .i64 (x : Int), .int .i64 (y : Int), .int .i64 ut, .int .i64 un, .int .i64 ue, .int .i64 us, .int .i64 uw, .int .i64 ub] 30))).cell (p := ⟨gl, p, none⟩) hglw]; exact d0
          have f1 : (wr.alloc (.cells #[.int .i64 (x : Int), .int .i64 (y : Int), .int .i64 ut, .int .i64 un, .int .i64 ue, .int .i64 us, .int .i64 uw, .int .i64 ub] 30)).frozen? ⟨gl, p, none⟩ = false := by rw [((Below.refl _ _).alloc (Nat.le_refl _) _ : Below wr.heap.size wr (wr.alloc (.cells #[.int .i64 (x : Int), .int .i64 (y : Int), .int .i64 ut, .int .i64 un, .int .i64 ue, .int .i64 us, .int .i64 uw, .int .i64 ub] 30))).frozen (p := ⟨gl, p, none⟩) hglw]; exact df
          obtain ⟨l1, ⟨c0, c1, c2, c3, c4, c5, c6, c7⟩, -⟩ := (IsS.new (w := wr) (s := ⟨(x : Int), (y : Int), ⟨ut, un, ue, us, uw, ub⟩⟩) (ty := 30)).all
          simp only at c0 c1 c2 c3 c4 c5 c6 c7
          obtain ⟨l2, ⟨g0, g1, g2⟩, -⟩ := (G.alloc (.cells #[.int .i64 (x : Int), .int .i64 (y : Int), .int .i64 ut, .int .i64 un, .int .i64 ue, .int .i64 us, .int .i64 uw, .int .i64 ub] 30)).all
          have hne : gl ≠ wr.heap.size := by omega
          have hpc := hide hp
          have hqc := hide hq2
          have HUL := hide hul
          clear L T3 O G q hp hq2 hPl d0 df hcl0 hul hyW
          go_upto_region 9 with (fail)
          generalize wr.heap.size = b at hne hglw l1 c0 c1 c2 c3 c4 c5 c6 c7 ⊢
          generalize wr.alloc (.cells #[.int .i64 (x : Int), .int .i64 (y : Int), .int .i64 ut, .int .i64 un, .int .i64 ue, .int .i64 us, .int .i64 uw, .int .i64 ub] 30) = w2 at HT3 O3 G3 q1 q3 d1 f1 l1 l2 g0 g1 g2 c0 c1 c2 c3 c4 c5 c6 c7 ⊢
          go_quiet (fail)
          cases hd : isDig c
          · have h46 : c = 46 := by have := HUL.out; rwa [unl_no hd] at this
            have HK1 := hide (show lwOk W t v.data.toList s.data.toList (k + 1) = true from by rw [HOKS.out, h46]; rfl)
            have HD := hide hd
            clear hd h46
            go_wp2_with (go_at_call 23; refine (prDigit_any c _).mono ?_; rintro e w' ⟨rfl, rfl⟩; rw [HD.out])
            go_roundw
            case rel => exact ⟨k + 1, by omega, by go_num, HT3.out, G3.out, O3.out, HK1.out, below_n q3⟩
            case measure => simp [intOf] <;> omega
          · have HD := hide hd
            have hn46 : ¬ (c.toNat : Int) = 46 := by
              unfold isDig at hd
              rw [decide_eq_true_eq] at hd
              omega
            have HB1 := hide (show hitB c ut = labB c ut from by unfold hitB; rw [decide_eq_false hn46, Bool.false_or])
            have HBE := hide (beq_lab c ut)
            clear hd hn46
            cases hm : labB c ut
            · have HBB := hide (HBK.out (by rw [HOKS.out, HB1.out, hm]))
              have r1 : (((c.toNat : Nat) : Int) == 48 + ut) = false := by rw [HBE.out, hm]
              have r2 : (((c.toNat : Nat) : Int) != 48 + ut) = true := by rw [bne, r1]; rfl
              clear hm
              go_wp2_with (go_at_call 23; refine (prDigit_any c _).mono ?_; rintro e w' ⟨rfl, rfl⟩; rw [HD.out])
              go_returns
              exact ⟨by rw [HBB.out.1, HBB.out.2]; rfl, below_n q1⟩
            · have HK1 := hide (show lwOk W t v.data.toList s.data.toList (k + 1) = true from by rw [HOKS.out, HB1.out, hm])
              have r1 : (((c.toNat : Nat) : Int) == 48 + ut) = true := by rw [HBE.out, hm]
              have r2 : (((c.toNat : Nat) : Int) != 48 + ut) = false := by rw [bne, r1]; rfl
              clear hm
              go_wp2_with (go_at_call 23; refine (prDigit_any c _).mono ?_; rintro e w' ⟨rfl, rfl⟩; rw [HD.out])
              go_roundw
              case rel => exact ⟨k + 1, by omega, by go_num, HT3.out, G3.out, O3.out, HK1.out, below_n q3⟩
              case measure => simp [intOf] <;> omega
        · obtain rfl : k = v.size + 1 := by omega
          obtain ⟨e1, e2, e3⟩ := HOK.out (v.size + 1) (by omega)
          obtain ⟨l2, ⟨g0, g1, g2⟩, -⟩ := G.all
          have HT := hide (prText_any (prS D.t W t v.data.toList s.data.toList (v.size + 1)) W H n g cap gl capl e1 e2 ⟨w0, w7⟩ ⟨h0, h7⟩ HN.out hcl wr (fun j c hc => by
            have hj := (List.getElem?_eq_some_iff.1 hc).1
            have hl2 := L.1
            unfold bytesV at hl2
            rw [List.length_map] at hl2
            have := (L.cellAt j (by omega)).trans (show (bytesV (splitP (prS D.t W t v.data.toList s.data.toList (v.size + 1))).flatten)[j]? = some (.int .u8 (c.toNat : Int)) from by rw [bytesV, List.getElem?_map, hc]; rfl)
            exact this) (L.lt gl rfl).2)
          have HBB := hide (HBT.out hok)
          clear L O e1 e2 e3 G hok
          go_wp2_with fail
          refine HT.out.mono ?_
          rintro e w5 ⟨rfl, hb5⟩
          have q5 := below_after q hb5 q.size
          go_wp2
          go_returns
          exact ⟨by rw [HBB.out.1, HBB.out.2]; rfl, q5⟩

set_option maxHeartbeats 1600000 in
theorem walk_LabelsOfWord (v : ByteArray) (hv : v.size ≤ maxLen) (t : St) (htx : (Lit.int .i64 t.x).wf = true) (hty : (Lit.int .i64 t.y).wf = true) (u : ByteArray) (hu : u.size ≤ maxLen) (w : World) (hg : Glob w) : Calls Tryd.prog 5 #[.string v, St.v t, .string u] w fun e w' => e = .returned (.bool true) ∧ Below w.heap.size w w' := by
  have HGL := hide hg
  clear hg
  by_cases h0 : v.size ≤ 1048576
  · have HS0 := hide h0
    by_cases h1 : u.size ≤ 1048576
    · have HS1 := hide h1
      go_enter Tryd.func5, Tryd.ntmps5
      go_wp2_with fail
      refine (toState_any t _).mono ?_
      rintro e w1 ⟨rfl, hb1⟩
      have u1 := isS_to hb1 (IsS.new (w := w) (s := t) (ty := 25)) rfl
      have q1 : Below w.heap.size w w1 := below_after (by go_grown) hb1 (by simp)
      clear hb1
      go_wp2_with fail
      refine (specLW_any v t u _ HS0.out HS1.out).mono ?_
      rintro e w2 ⟨rfl, hb2⟩
      have u2 := isS_to hb2 u1 rfl
      have q2 := below_to hb2 q1 q1.size rfl rfl rfl rfl
      clear hb2 u1 q1
      generalize hz0 : lwS v.data.toList t u.data.toList = z0
      have HZ0 := hide hz0
      clear hz0
      generalize hz1 : lwB v.data.toList t u.data.toList = z1
      have HZ1 := hide hz1
      clear hz1
      obtain ⟨l1, ⟨c0, c1, c2, c3, c4, c5, c6, c7⟩, -⟩ := u2.all
      go_wp2_with fail
      clear c0 c1 c2 c3 c4 c5 c6 c7 l1
      refine (toState_any t _).mono ?_
      rintro e w3 ⟨rfl, hb3⟩
      have q3 := below_to hb3 q2 q2.size rfl rfl rfl rfl
      have hg3 := hide (show Glob w3 from by
        have hl := HGL.out.lt
        obtain ⟨m, hm⟩ := HGL.out
        exact ⟨m, (q3.cell (p := ⟨0, 0, none⟩) hl).trans hm⟩)
      clear hb3 u2 q2
      go_wp2_with fail
      refine (implLW_any v t u _ HS0.out HS1.out hg3.out).mono ?_
      rintro e w4 ⟨rfl, hb4⟩
      rw [HZ0.out, HZ1.out]
      have q4 := below_to hb4 q3 q3.size rfl rfl rfl rfl
      have e0 : (z0.toList != z0.toList) = false := by simp
      have e1 : (z1 != z1) = false := by simp
      go_wp2
      go_returns
      exact ⟨rfl, q4⟩
    · go_enter Tryd.func5, Tryd.ntmps5
      go_wp2
      go_returns
      exact ⟨rfl, by go_grown⟩
  · go_enter Tryd.func5, Tryd.ntmps5
    go_wp2
    go_returns
    exact ⟨rfl, by go_grown⟩
end Go.Proofs.YtmlfkcmmjmdhmaaDoor
