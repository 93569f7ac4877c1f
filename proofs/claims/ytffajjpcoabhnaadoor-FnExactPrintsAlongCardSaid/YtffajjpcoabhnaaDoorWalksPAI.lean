/- FnExactPrintsAlong's walk. -/
import Derived.Test.YtffajjpcoabhnaaDoorLabS
namespace Go.Proofs.YtffajjpcoabhnaaDoor
set_option maxRecDepth 100000
set_option linter.all false
open Go.RowKit

/-- What PrintsAlong answers. -/
def paS (l : List UInt8) (t : St) (L : List UInt8) : ByteArray := if raB l t L = true then ⟨(prS D.b (width l) t L l (L.length + 1)).toArray⟩ else ⟨#[]⟩
set_option maxHeartbeats 3200000 in
theorem implPA_any (s : ByteArray) (t : St) (v : ByteArray) (w : World) (hs : s.size ≤ 1048576) (hv : v.size ≤ 1048576) (hg : Glob w) : Calls Tryd.prog 27 #[.string s, St.v t, .string v] w fun e w' => e = .returned (.tuple #[.string (paS s.data.toList t v.data.toList), .bool (raB s.data.toList t v.data.toList)]) ∧ Below w.heap.size w w' := by
  have HG := hide (show Glob (w.alloc (.cells #[.int .i64 t.x, .int .i64 t.y, .int .i64 t.d.t, .int .i64 t.d.n, .int .i64 t.d.e, .int .i64 t.d.s, .int .i64 t.d.w, .int .i64 t.d.b] 33)) from glob_to (w0 := w) ((Below.refl _ _).alloc (Nat.le_refl _) _) hg rfl)
  clear hg
  cases hra : raB s.data.toList t v.data.toList
  · have HRA := hide hra
    have HP := hide (show paS s.data.toList t v.data.toList = ⟨#[]⟩ from by unfold paS; rw [hra]; rfl)
    rw [HP.out]
    clear hra
    go_enter Tryd.func27, Tryd.ntmps27
    go_wp2_with fail
    refine (implSA_any s t v _ hs hv HG.out).mono ?_
    rintro e w1 ⟨vv, rfl, hown, hb1⟩
    rw [HRA.out]
    have q0 : Below w.heap.size w w1 := below_after (by go_grown) hb1 (by simp)
    clear hown hb1
    go_wp2
    go_returns
    exact ⟨rfl, q0⟩
  ·
    have HRA := hide hra
    obtain ⟨p1, p2, p3, p4⟩ := ra_parts hra
    have hgd := (st_floor p2).2
    have hl : v.data.toList.length = v.size := by simp
    have hlen : v.size ≤ 60 := by have := isWord_len p3; simpa using this
    have HFL := hide (show ∀ j, j ≤ v.size → floorL s.data.toList (atT t v.data.toList j).x (atT t v.data.toList j).y = true from fun j hj => way_floor _ _ _ (st_floor p2).1 p4 j (by omega))
    have HFF := hide (show ∀ j, 0 ≤ D.b (atT t v.data.toList j).d ∧ D.b (atT t v.data.toList j).d ≤ 9 from fun j => good_bot (way_good v.data.toList j hgd))
    have HSA := hide (show saV s.data.toList t v.data.toList = waysT t v.data.toList v.size from by rw [sa_yes hra, hl])
    have hgr : GridOk s.data.toList (width s.data.toList) (splitP s.data.toList).length (splitP s.data.toList).flatten.length := ⟨p1, rfl, rfl, rfl⟩
    obtain ⟨w0, w7, h0, h7, hn⟩ := grid_facts hgr
    have HP := hide (show paS s.data.toList t v.data.toList = ⟨(prS D.b (width s.data.toList) t v.data.toList s.data.toList (v.size + 1)).toArray⟩ from by unfold paS; rw [if_pos hra, hl])
    have he : Even s.data.toList (width s.data.toList) := bd_even p1
    have HOK := hide (prS_ok hgr D.b t v.data.toList v.size HFL.out HFF.out)
    have HGR := hide hgr
    have HE := hide he
    have HN := hide hn
    clear hra p1 p2 p3 p4 hl hgr hgd he hn
    generalize hW : width s.data.toList = W at w0 w7 HN HGR HE HOK HP
    generalize hH : (splitP s.data.toList).length = H at h0 h7 HN HGR HOK
    generalize (splitP s.data.toList).flatten.length = n at HN HGR
    have HHH := hide hH
    clear hW hH
    have hSl : s.data.toList.length = s.size := by simp
    have hlenS := even_len HE.out
    rw [HHH.out] at hlenS
    have hS0 : 0 < s.size := by
      have := Nat.mul_le_mul h0 (show 2 ≤ W + 1 by omega)
      omega
    have HLN := hide hlenS
    clear hlenS
    rw [HP.out]
    go_enter Tryd.func27, Tryd.ntmps27
    go_wp2_with fail
    refine (implSA_any s t v _ hs hv HG.out).mono ?_
    rintro e w1 ⟨vv, rfl, hown, hb1⟩
    rw [HSA.out, waysT_len] at hown
    rw [HRA.out]
    obtain ⟨gq, cq, rfl, -, hgq⟩ := own_form hown (by omega)
    have q0 : Below w.heap.size w w1 := below_after (by go_grown) hb1 (by simp)
    have O0 := own_mono hown (show w.heap.size ≤ _ from by simp)
    clear hb1 hown
    obtain ⟨cap, W2, hcv, hcap, B2, hb2, hz2⟩ := bytes_new s w1
    have q2 := below_after q0 hb2 q0.size
    have HO2 := hide (own_to hb2 O0 rfl)
    have HB2 := hide B2
    have hgq2 : gq < w1.heap.size := hgq
    clear O0 B2 hb2 hz2 q0
    go_wp2_with fail
    clear hcv
    refine (cutRows_any s.data.toList W H HE.out HHH.out ⟨w0, w7⟩ ⟨h0, h7⟩ _ s.size cap hSl.symm hcap _ HB2.out).mono ?_
    rintro e w3 ⟨h, cap', rfl, O3, hb3⟩
    have HLA := hide (labAt_new (bufAt_to hb3 HB2.out rfl) O3)
    have HO3 := hide (own_to hb3 HO2.out rfl)
    have q3 := below_after q2 hb3 q2.size
    have hgB : w.heap.size ≤ w1.heap.size := by
      have := HO2.out.lt gq rfl
      omega
    clear O3 hb3 HB2 HO2 q2
    generalize w1.heap.size = g at HLA hgq2 hgB ⊢
    have HNE := hide (lab_ne HLA.out (by omega) (by omega))
    go_wp2
    go_loopw [29, 13] (fun i _ wr => ∃ k : Nat, k ≤ v.size + 1 ∧ i = .int .i64 (k : Int) ∧ LabAt wr h g (prS D.b W t v.data.toList s.data.toList k) W H ∧ wr.ownsRow w.heap.size 33 8 (.slice (some ⟨gq, 0, none⟩) (v.size + 1) cq) (v.size + 1) (cellsS (waysT t v.data.toList v.size)) ∧ Below w.heap.size w wr) (fun i _ _ => v.size + 1 - (intOf i).toNat)
    case atStart => exact ⟨0, Nat.zero_le _, rfl, HLA.out, HO3.out, q3⟩
    case round =>
      obtain ⟨k, hk, rfl, A, O, q⟩ := hrel
      clear HLA HO3 q3
      by_cases hlt : k < v.size + 1
      ·
        obtain ⟨a0, a1, a2, a3, a4, a5, a6, a7⟩ := row_cells_at k O hlt (waysT_get t v.data.toList v.size k (by omega))
        obtain ⟨e1, e2, e3⟩ := HOK.out k (by omega)
        obtain ⟨x, y, hx, hy, hxW, hyH⟩ := floor_in HGR.out (HFL.out k (by omega))
        have hfl := HFL.out k (by omega)
        have hff := HFF.out k
        have HS := hide (show prS D.b W t v.data.toList s.data.toList (k + 1) = (prS D.b W t v.data.toList s.data.toList k).set ((atT t v.data.toList k).y.toNat * (W + 1) + (atT t v.data.toList k).x.toNat) (lab (D.b (atT t v.data.toList k).d)) from rfl)
        obtain ⟨d, hd1, -, -⟩ := floor_cell (x := x) (y := y) e1 hxW (by omega) (by rw [e3, ← hx, ← hy]; exact hfl)
        have hpl := (List.getElem?_eq_some_iff.1 hd1).1
        have hyx : y * (W + 1) ≤ 6 * 8 := Nat.mul_le_mul (by omega) (by omega)
        have HRW := A.2.2 y hyH
        obtain ⟨c9, f9⟩ := A.2.1.cell hd1
        have hln := prS_len D.b W t v.data.toList s.data.toList k
        generalize prS D.b W t v.data.toList s.data.toList k = P at A HS hpl hln
        generalize atT t v.data.toList k = u at a0 a1 a2 a3 a4 a5 a6 a7 hx hy hff HS
        obtain ⟨⟨ux, uy, ⟨ut, un, ue, us, uw, ub⟩⟩, rfl⟩ : ∃ u', u' = u := ⟨u, rfl⟩
        simp only at a0 a1 a2 a3 a4 a5 a6 a7 hx hy hff HS
        subst hx
        subst hy
        simp only [Int.toNat_natCast] at HS
        have hlb := lab_nat hff.1 hff.2
        have A3 := labAt_put (labAt_alloc A (.cells #[.int .i64 (x : Int), .int .i64 (y : Int), .int .i64 ut, .int .i64 un, .int .i64 ue, .int .i64 us, .int .i64 uw, .int .i64 ub] 33)) HNE.out hpl (lab ub)
        rw [hlb] at A3
        have O3 := hide (show ((wr.alloc (.cells #[.int .i64 (x : Int), .int .i64 (y : Int), .int .i64 ut, .int .i64 un, .int .i64 ue, .int .i64 us, .int .i64 uw, .int .i64 ub] 33)).setCell ⟨g, y * (W + 1) + x, none⟩ (.int .u8 (48 + ub))).ownsRow w.heap.size 33 8 (.slice (some ⟨gq, 0, none⟩) (v.size + 1) cq) (v.size + 1) (cellsS (waysT t v.data.toList v.size)) from ownsRow_setCell_other (O.alloc _) (by simp [Value.ownBlock]; omega) _)
        have q3 := (q.alloc q.size (.cells #[.int .i64 (x : Int), .int .i64 (y : Int), .int .i64 ut, .int .i64 un, .int .i64 ue, .int .i64 us, .int .i64 uw, .int .i64 ub] 33)).setCell (p := ⟨g, y * (W + 1) + x, none⟩) hgB (.int .u8 (48 + ub))
        have HA3 := hide A3
        have hgw := A.2.1.lt
        have hhw := A.1
        have HRW2 : (wr.alloc (.cells #[.int .i64 (x : Int), .int .i64 (y : Int), .int .i64 ut, .int .i64 un, .int .i64 ue, .int .i64 us, .int .i64 uw, .int .i64 ub] 33)).cell? ⟨h, y, none⟩ = some (.slice (some ⟨g, y * (W + 1), none⟩) W W) := by rw [((Below.refl _ _).alloc (Nat.le_refl _) _ : Below wr.heap.size wr (wr.alloc (.cells #[.int .i64 (x : Int), .int .i64 (y : Int), .int .i64 ut, .int .i64 un, .int .i64 ue, .int .i64 us, .int .i64 uw, .int .i64 ub] 33))).cell (p := ⟨h, y, none⟩) hhw]; exact HRW
        have c92 : (wr.alloc (.cells #[.int .i64 (x : Int), .int .i64 (y : Int), .int .i64 ut, .int .i64 un, .int .i64 ue, .int .i64 us, .int .i64 uw, .int .i64 ub] 33)).cell? ⟨g, y * (W + 1) + x, none⟩ = some (.int .u8 (d.toNat : Int)) := by rw [((Below.refl _ _).alloc (Nat.le_refl _) _ : Below wr.heap.size wr (wr.alloc (.cells #[.int .i64 (x : Int), .int .i64 (y : Int), .int .i64 ut, .int .i64 un, .int .i64 ue, .int .i64 us, .int .i64 uw, .int .i64 ub] 33))).cell (p := ⟨g, y * (W + 1) + x, none⟩) hgw]; exact c9
        have f92 : (wr.alloc (.cells #[.int .i64 (x : Int), .int .i64 (y : Int), .int .i64 ut, .int .i64 un, .int .i64 ue, .int .i64 us, .int .i64 uw, .int .i64 ub] 33)).frozen? ⟨g, y * (W + 1) + x, none⟩ = false := by rw [((Below.refl _ _).alloc (Nat.le_refl _) _ : Below wr.heap.size wr (wr.alloc (.cells #[.int .i64 (x : Int), .int .i64 (y : Int), .int .i64 ut, .int .i64 un, .int .i64 ue, .int .i64 us, .int .i64 uw, .int .i64 ub] 33))).frozen (p := ⟨g, y * (W + 1) + x, none⟩) hgw]; exact f9
        have hk0 : (k : Int) < ((v.size + 1 : Nat) : Int) := by omega
        have hxi : (x : Int) < (W : Int) := by omega
        have hyi : (y : Int) < (H : Int) := by omega
        obtain ⟨l1, ⟨c0, c1, c2, c3, c4, c5, c6, c7⟩, -⟩ := (IsS.new (w := wr) (s := ⟨(x : Int), (y : Int), ⟨ut, un, ue, us, uw, ub⟩⟩) (ty := 33)).all
        simp only at c0 c1 c2 c3 c4 c5 c6 c7
        have HD1 := hide hd1
        clear A A3 O q hd1 HRW c9 f9 hpl e1 e2 e3 hfl
        generalize y * (W + 1) = r at HS HA3 O3 q3 HRW2 c92 f92 hyx HD1 ⊢
        go_upto_region 9 with (fail)
        generalize wr.heap.size = b at hgw l1 c0 c1 c2 c3 c4 c5 c6 c7 ⊢
        have nb : ∀ j i : Nat, (⟨g, j, none⟩ : Addr) ≠ ⟨b, i, none⟩ := fun j i e => by injection e; omega
        have nh : ∀ j i : Nat, (⟨g, j, none⟩ : Addr) ≠ ⟨h, i, none⟩ := fun j i e => HNE.out (by injection e with e1; exact e1.symm)
        generalize wr.alloc (.cells #[.int .i64 (x : Int), .int .i64 (y : Int), .int .i64 ut, .int .i64 un, .int .i64 ue, .int .i64 us, .int .i64 uw, .int .i64 ub] 33) = w2 at HA3 O3 q3 HRW2 c92 f92 l1 c0 c1 c2 c3 c4 c5 c6 c7 ⊢
        go_region_held3 (fun w' => w'.cell? ⟨b, 0, none⟩ = some (.int .i64 (x : Int)) ∧ w'.cell? ⟨b, 1, none⟩ = some (.int .i64 (y : Int)) ∧ w'.cell? ⟨b, 7, none⟩ = some (.int .i64 ub) ∧ w'.cell? ⟨h, y, none⟩ = some (.slice (some ⟨g, r, none⟩) W W)) (first | (refine ⟨?_, ?_, ?_, ?_⟩ <;> with_reducible assumption) | exact ⟨(World.cell?_setCell_other _ _ _ _ (nb _ _)).trans c0, (World.cell?_setCell_other _ _ _ _ (nb _ _)).trans c1, (World.cell?_setCell_other _ _ _ _ (nb _ _)).trans c7, (World.cell?_setCell_other _ _ _ _ (nh _ _)).trans HRW2⟩ | exact ⟨c0, c1, c7, HRW2⟩)
          (first
            | (go_at_call 59; (refine (labelOf_any ub hff.1 hff.2 _).mono ?_); rintro e w' ⟨rfl, rfl⟩))
        all_goals
          go_wp2
          go_roundw
          case rel => exact ⟨k + 1, by omega, by go_num, by rw [HS.out]; exact HA3.out, O3.out, q3.drew⟩
          case measure => simp [intOf] <;> omega
      · obtain rfl : k = v.size + 1 := by omega
        have hln := prS_len D.b W t v.data.toList s.data.toList (v.size + 1)
        have hbk := bytes_out (cap := cap) A.2.1 (n := s.size) (by rw [hln, hSl])
        clear A O
        go_wp2
        go_returns
        exact ⟨rfl, q⟩
end Go.Proofs.YtffajjpcoabhnaaDoor
