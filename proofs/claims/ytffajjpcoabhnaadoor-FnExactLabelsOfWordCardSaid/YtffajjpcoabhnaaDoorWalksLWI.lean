/- FnExactLabelsOfWord's walk: the program's side. -/
import Derived.Test.YtffajjpcoabhnaaDoorLabS
namespace Go.Proofs.YtffajjpcoabhnaaDoor
set_option maxRecDepth 100000
set_option linter.all false
open Go.RowKit

/-- Has each of the first k states matched what was written ahead of it? -/
def lwOk (W : Nat) (t : St) (Lw l : List UInt8) : Nat → Bool
  | 0 => true
  | k + 1 => lwOk W t Lw l k && hitB (cellI (splitP (prS D.t W t Lw l k)) (atT t Lw k).x (atT t Lw k).y) (atT t Lw k).d.t
theorem lwOk_mono (W : Nat) (t : St) (Lw l : List UInt8) : ∀ m k, k ≤ m → lwOk W t Lw l k = false → lwOk W t Lw l m = false
  | 0, k, h, hk => by
    have : k = 0 := by omega
    subst this
    exact hk
  | m + 1, k, h, hk => by
    rcases Nat.lt_or_ge k (m + 1) with h1 | h1
    · rw [lwOk, lwOk_mono W t Lw l m k (by omega) hk]
      rfl
    · have : k = m + 1 := by omega
      subst this
      exact hk
/-- What LabelsOfWord answers. -/
def lwB (l : List UInt8) (t : St) (L : List UInt8) : Bool := raB l t L && lwOk (width l) t L l (L.length + 1)
def lwS (l : List UInt8) (t : St) (L : List UInt8) : ByteArray := if lwB l t L = true then ⟨(prS D.t (width l) t L l (L.length + 1)).toArray⟩ else ⟨#[]⟩
theorem lw_no {l : List UInt8} {t : St} {L : List UInt8} (h : lwB l t L = false) : lwS l t L = ⟨#[]⟩ := by unfold lwS; rw [h]; rfl
theorem lw_ra {l : List UInt8} {t : St} {L : List UInt8} (h : raB l t L = false) : lwB l t L = false := by unfold lwB; rw [h]; rfl
set_option maxHeartbeats 3200000 in
theorem implLW_any (s : ByteArray) (t : St) (v : ByteArray) (w : World) (hs : s.size ≤ 1048576) (hv : v.size ≤ 1048576) (hg : Glob w) : Calls Tryd.prog 34 #[.string s, St.v t, .string v] w fun e w' => e = .returned (.tuple #[.string (lwS s.data.toList t v.data.toList), .bool (lwB s.data.toList t v.data.toList)]) ∧ Below w.heap.size w w' := by
  have HG := hide (show Glob (w.alloc (.cells #[.int .i64 t.x, .int .i64 t.y, .int .i64 t.d.t, .int .i64 t.d.n, .int .i64 t.d.e, .int .i64 t.d.s, .int .i64 t.d.w, .int .i64 t.d.b] 33)) from glob_to (w0 := w) ((Below.refl _ _).alloc (Nat.le_refl _) _) hg rfl)
  clear hg
  cases hra : raB s.data.toList t v.data.toList
  · have HRA := hide hra
    have HB := hide (lw_ra hra)
    rw [HB.out, lw_no HB.out]
    clear hra
    go_enter Tryd.func34, Tryd.ntmps34
    go_wp2_with fail
    refine (implSA_any s t v _ hs hv HG.out).mono ?_
    rintro e w1 ⟨vv, rfl, hown, hb1⟩
    rw [HRA.out]
    have q0 : Below w.heap.size w w1 := below_after (by go_grown) hb1 (by simp)
    clear hown hb1
    go_wp2
    go_returns
    exact ⟨rfl, q0⟩
  ·
    have HRA := hide hra
    obtain ⟨p1, p2, p3, p4⟩ := ra_parts hra
    have hgd := (st_floor p2).2
    have hl : v.data.toList.length = v.size := by simp
    have hlen : v.size ≤ 60 := by have := isWord_len p3; simpa using this
    have HFL := hide (show ∀ j, j ≤ v.size → floorL s.data.toList (atT t v.data.toList j).x (atT t v.data.toList j).y = true from fun j hj => way_floor _ _ _ (st_floor p2).1 p4 j (by omega))
    have HFF := hide (show ∀ j, 0 ≤ D.t (atT t v.data.toList j).d ∧ D.t (atT t v.data.toList j).d ≤ 9 from fun j => good_top (way_good v.data.toList j hgd))
    have HSA := hide (show saV s.data.toList t v.data.toList = waysT t v.data.toList v.size from by rw [sa_yes hra, hl])
    have hgr : GridOk s.data.toList (width s.data.toList) (splitP s.data.toList).length (splitP s.data.toList).flatten.length := ⟨p1, rfl, rfl, rfl⟩
    obtain ⟨w0, w7, h0, h7, hn⟩ := grid_facts hgr
    have HBF := hide (show ∀ k, k ≤ v.size → lwOk (width s.data.toList) t v.data.toList s.data.toList (k + 1) = false → lwB s.data.toList t v.data.toList = false ∧ lwS s.data.toList t v.data.toList = ⟨#[]⟩ from fun k hk h => by
      have h1 : lwB s.data.toList t v.data.toList = false := by unfold lwB; rw [lwOk_mono _ _ _ _ _ (k + 1) (by omega) h, Bool.and_false]
      exact ⟨h1, lw_no h1⟩)
    have HBT := hide (show lwOk (width s.data.toList) t v.data.toList s.data.toList (v.size + 1) = true → lwB s.data.toList t v.data.toList = true ∧ lwS s.data.toList t v.data.toList = ⟨(prS D.t (width s.data.toList) t v.data.toList s.data.toList (v.size + 1)).toArray⟩ from fun h => by
      have h1 : lwB s.data.toList t v.data.toList = true := by unfold lwB; rw [hra, hl, h]; rfl
      exact ⟨h1, by unfold lwS; rw [if_pos h1, hl]⟩)
    have he : Even s.data.toList (width s.data.toList) := bd_even p1
    have HOK := hide (prS_ok hgr D.t t v.data.toList v.size HFL.out HFF.out)
    have HGR := hide hgr
    have HE := hide he
    have HN := hide hn
    clear hra p1 p2 p3 p4 hl hgr hgd he hn
    generalize hW : width s.data.toList = W at w0 w7 HN HGR HE HOK HBF HBT
    generalize hH : (splitP s.data.toList).length = H at h0 h7 HN HGR HOK
    generalize (splitP s.data.toList).flatten.length = n at HN HGR
    have HHH := hide hH
    clear hW hH
    have hSl : s.data.toList.length = s.size := by simp
    have hlenS := even_len HE.out
    rw [HHH.out] at hlenS
    have hS0 : 0 < s.size := by
      have := Nat.mul_le_mul h0 (show 2 ≤ W + 1 by omega)
      omega
    have HLN := hide hlenS
    clear hlenS
    go_enter Tryd.func34, Tryd.ntmps34
    go_wp2_with fail
    refine (implSA_any s t v _ hs hv HG.out).mono ?_
    rintro e w1 ⟨vv, rfl, hown, hb1⟩
    rw [HSA.out, waysT_len] at hown
    rw [HRA.out]
    obtain ⟨gq, cq, rfl, -, hgq⟩ := own_form hown (by omega)
    have q0 : Below w.heap.size w w1 := below_after (by go_grown) hb1 (by simp)
    have O0 := own_mono hown (show w.heap.size ≤ _ from by simp)
    clear hb1 hown
    obtain ⟨cap, W2, hcv, hcap, B2, hb2, hz2⟩ := bytes_new s w1
    have q2 := below_after q0 hb2 q0.size
    have HO2 := hide (own_to hb2 O0 rfl)
    have HB2 := hide B2
    have hgq2 : gq < w1.heap.size := hgq
    clear O0 B2 hb2 hz2 q0
    go_wp2_with fail
    clear hcv
    refine (cutRows_any s.data.toList W H HE.out HHH.out ⟨w0, w7⟩ ⟨h0, h7⟩ _ s.size cap hSl.symm hcap _ HB2.out).mono ?_
    rintro e w3 ⟨h, cap', rfl, O3, hb3⟩
    have HLA := hide (labAt_new (bufAt_to hb3 HB2.out rfl) O3)
    have HO3 := hide (own_to hb3 HO2.out rfl)
    have q3 := below_after q2 hb3 q2.size
    have hgB : w.heap.size ≤ w1.heap.size := by
      have := HO2.out.lt gq rfl
      omega
    clear O3 hb3 HB2 HO2 q2
    generalize w1.heap.size = g at HLA hgq2 hgB ⊢
    have HNE := hide (lab_ne HLA.out (by omega) (by omega))
    go_wp2
    go_loopw [29, 13] (fun i _ wr => ∃ k : Nat, k ≤ v.size + 1 ∧ i = .int .i64 (k : Int) ∧ LabAt wr h g (prS D.t W t v.data.toList s.data.toList k) W H ∧ lwOk W t v.data.toList s.data.toList k = true ∧ wr.ownsRow w.heap.size 33 8 (.slice (some ⟨gq, 0, none⟩) (v.size + 1) cq) (v.size + 1) (cellsS (waysT t v.data.toList v.size)) ∧ Below w.heap.size w wr) (fun i _ _ => v.size + 1 - (intOf i).toNat)
    case atStart => exact ⟨0, Nat.zero_le _, rfl, HLA.out, rfl, HO3.out, q3⟩
    case round =>
      obtain ⟨k, hk, rfl, A, hok, O, q⟩ := hrel
      clear HLA HO3 q3
      by_cases hlt : k < v.size + 1
      ·
        obtain ⟨a0, a1, a2, a3, a4, a5, a6, a7⟩ := row_cells_at k O hlt (waysT_get t v.data.toList v.size k (by omega))
        obtain ⟨e1, e2, e3⟩ := HOK.out k (by omega)
        obtain ⟨x, y, hx, hy, hxW, hyH⟩ := floor_in HGR.out (HFL.out k (by omega))
        have hfl := HFL.out k (by omega)
        have hff := HFF.out k
        have HS := hide (show prS D.t W t v.data.toList s.data.toList (k + 1) = (prS D.t W t v.data.toList s.data.toList k).set ((atT t v.data.toList k).y.toNat * (W + 1) + (atT t v.data.toList k).x.toNat) (lab (D.t (atT t v.data.toList k).d)) from rfl)
        obtain ⟨d, hd1, -, -⟩ := floor_cell (x := x) (y := y) e1 hxW (by omega) (by rw [e3, ← hx, ← hy]; exact hfl)
        have hpl := (List.getElem?_eq_some_iff.1 hd1).1
        have hyx : y * (W + 1) ≤ 6 * 8 := Nat.mul_le_mul (by omega) (by omega)
        have HRW := A.2.2 y hyH
        obtain ⟨c9, f9⟩ := A.2.1.cell hd1
        have hln := prS_len D.t W t v.data.toList s.data.toList k
        have HOKS := hide (show lwOk W t v.data.toList s.data.toList (k + 1) = (lwOk W t v.data.toList s.data.toList k && hitB (cellI (splitP (prS D.t W t v.data.toList s.data.toList k)) (atT t v.data.toList k).x (atT t v.data.toList k).y) (atT t v.data.toList k).d.t) from rfl)
        rw [hok, Bool.true_and] at HOKS
        have HBK := hide (HBF.out k (by omega))
        have HE1 := hide e1
        have HE2 := hide e2
        clear hok
        generalize prS D.t W t v.data.toList s.data.toList k = P at A HS hpl hln HOKS HE1 HE2 hd1
        generalize atT t v.data.toList k = u at a0 a1 a2 a3 a4 a5 a6 a7 hx hy hff HS HOKS
        obtain ⟨⟨ux, uy, ⟨ut, un, ue, us, uw, ub⟩⟩, rfl⟩ : ∃ u', u' = u := ⟨u, rfl⟩
        simp only at a0 a1 a2 a3 a4 a5 a6 a7 hx hy hff HS HOKS
        subst hx
        subst hy
        simp only [Int.toNat_natCast] at HS
        have hk0 : (k : Int) < ((v.size + 1 : Nat) : Int) := by omega
        have hxi : (x : Int) < (W : Int) := by omega
        have hyi : (y : Int) < (H : Int) := by omega
        have HA1 := hide (labAt_alloc A (.cells #[.int .i64 (x : Int), .int .i64 (y : Int), .int .i64 ut, .int .i64 un, .int .i64 ue, .int .i64 us, .int .i64 uw, .int .i64 ub] 33))
        have hgw := A.2.1.lt
        have HO1 := hide (O.alloc (.cells #[.int .i64 (x : Int), .int .i64 (y : Int), .int .i64 ut, .int .i64 un, .int .i64 ue, .int .i64 us, .int .i64 uw, .int .i64 ub] 33))
        have q1 := q.alloc q.size (.cells #[.int .i64 (x : Int), .int .i64 (y : Int), .int .i64 ut, .int .i64 un, .int .i64 ue, .int .i64 us, .int .i64 uw, .int .i64 ub] 33)
        have S1 := IsS.new (w := wr) (s := ⟨(x : Int), (y : Int), ⟨ut, un, ue, us, uw, ub⟩⟩) (ty := 33)
        obtain ⟨l1, ⟨c0, c1, c2, c3, c4, c5, c6, c7⟩, -⟩ := S1.all
        have HD1 := hide hd1
        have HPL := hide hpl
        clear A O q hd1 HRW c9 f9 e1 e2 e3 hfl hpl
        go_upto_region 9 with (fail)
        generalize wr.heap.size = b at hgw S1 l1 c0 c1 c2 c3 c4 c5 c6 c7 ⊢
        generalize wr.alloc (.cells #[.int .i64 (x : Int), .int .i64 (y : Int), .int .i64 ut, .int .i64 un, .int .i64 ue, .int .i64 us, .int .i64 uw, .int .i64 ub] 33) = w2 at HA1 HO1 q1 S1 l1 c0 c1 c2 c3 c4 c5 c6 c7 ⊢
        simp only at c0 c1 c2 c3 c4 c5 c6 c7
        go_wp2_with fail
        clear c0 c1 c2 c3 c4 c5 c6 c7 l1
        refine (matches_any P W H h g cap' HE1.out HE2.out w7 h7 ⟨(x : Int), (y : Int), ⟨ut, un, ue, us, uw, ub⟩⟩ hff.1 hff.2 _ HA1.out).mono ?_
        rintro e w3 ⟨rfl, hb3⟩
        simp only
        have A3 := labAt_to hb3 HA1.out rfl
        have S3 := isS_to hb3 S1 rfl
        have O3 := own_to hb3 HO1.out rfl
        have q3 := below_to hb3 q1 q1.size rfl rfl rfl rfl
        clear hb3 HA1 S1 HO1 q1
        cases hm : hitB (cellI (splitP P) (x : Int) (y : Int)) ut
        · have HBB := hide (HBK.out (by rw [HOKS.out, hm]))
          clear hm A3 S3 O3
          go_wp2
          go_returns
          exact ⟨by rw [HBB.out.1, HBB.out.2]; rfl, q3⟩
        · have HK1 := hide (show lwOk W t v.data.toList s.data.toList (k + 1) = true from by rw [HOKS.out, hm])
          clear hm
          have hlb := lab_nat hff.1 hff.2
          have hne := HNE.out
          have A4 := labAt_put A3 hne HPL.out (lab ut)
          rw [hlb] at A4
          have HA4 := hide A4
          have O4 := hide (show (w3.setCell ⟨g, y * (W + 1) + x, none⟩ (.int .u8 (48 + ut))).ownsRow w.heap.size 33 8 (.slice (some ⟨gq, 0, none⟩) (v.size + 1) cq) (v.size + 1) (cellsS (waysT t v.data.toList v.size)) from ownsRow_setCell_other O3 (by simp [Value.ownBlock]; omega) _)
          have q4 := q3.setCell (p := ⟨g, y * (W + 1) + x, none⟩) hgB (.int .u8 (48 + ut))
          have HRW2 := A3.2.2 y hyH
          obtain ⟨c92, f92⟩ := A3.2.1.cell HD1.out
          obtain ⟨l1, ⟨c0, c1, c2, c3, c4, c5, c6, c7⟩, -⟩ := S3.all
          simp only at c0 c1 c2 c3 c4 c5 c6 c7
          clear A3 S3 O3 q3 A4
          generalize y * (W + 1) = r at HS HA4 O4 q4 HRW2 c92 f92 hyx ⊢
          have nb : ∀ j i : Nat, (⟨g, j, none⟩ : Addr) ≠ ⟨b, i, none⟩ := fun j i e => by injection e; omega
          have nh : ∀ j i : Nat, (⟨g, j, none⟩ : Addr) ≠ ⟨h, i, none⟩ := fun j i e => HNE.out (by injection e with e1; exact e1.symm)
          clear hne
          go_upto_region 11 with (fail)
          go_region_held3 (fun w' => w'.cell? ⟨b, 0, none⟩ = some (.int .i64 (x : Int)) ∧ w'.cell? ⟨b, 1, none⟩ = some (.int .i64 (y : Int)) ∧ w'.cell? ⟨b, 2, none⟩ = some (.int .i64 ut) ∧ w'.cell? ⟨h, y, none⟩ = some (.slice (some ⟨g, r, none⟩) W W)) (first | (refine ⟨?_, ?_, ?_, ?_⟩ <;> with_reducible assumption) | exact ⟨(World.cell?_setCell_other _ _ _ _ (nb _ _)).trans c0, (World.cell?_setCell_other _ _ _ _ (nb _ _)).trans c1, (World.cell?_setCell_other _ _ _ _ (nb _ _)).trans c2, (World.cell?_setCell_other _ _ _ _ (nh _ _)).trans HRW2⟩ | exact ⟨c0, c1, c2, HRW2⟩)
            (first
              | (go_at_call 59; (refine (labelOf_any ut hff.1 hff.2 _).mono ?_); rintro e w' ⟨rfl, rfl⟩))
          all_goals
            go_wp2
            go_roundw
            case rel => exact ⟨k + 1, by omega, by go_num, by rw [HS.out]; exact HA4.out, HK1.out, O4.out, q4.drew⟩
            case measure => simp [intOf] <;> omega
      · obtain rfl : k = v.size + 1 := by omega
        have hln := prS_len D.t W t v.data.toList s.data.toList (v.size + 1)
        have hbk := bytes_out (cap := cap) A.2.1 (n := s.size) (by rw [hln, hSl])
        have HBB := hide (HBT.out hok)
        clear A O hok
        go_wp2
        go_returns
        exact ⟨by rw [HBB.out.1, HBB.out.2]; rfl, q⟩
end Go.Proofs.YtffajjpcoabhnaaDoor
