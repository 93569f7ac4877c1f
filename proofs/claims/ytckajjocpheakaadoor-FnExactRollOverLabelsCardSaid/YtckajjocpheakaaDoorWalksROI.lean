/- FnExactRollOverLabels's walk: the plain side and the program's. -/
import Derived.Test.YtckajjocpheakaaDoorWayA
import Derived.Test.YtckajjocpheakaaDoorWalksLM
namespace Go.Proofs.YtckajjocpheakaaDoor
set_option maxRecDepth 100000
set_option linter.all false
open Go.RowKit

theorem labAt_allocR {w : World} {h g : Nat} {L : List UInt8} {W H : Nat} (hl : LabAt w h g L W H) (o : Obj) : LabAt (w.alloc o) h g L W H := labAt_to ((Below.refl _ _).alloc (Nat.le_refl _) _) hl rfl
/-- Do the first k states match? -/
def hitsT (l : List UInt8) (t : St) (L : List UInt8) : Nat → Bool
  | 0 => true
  | k + 1 => hitsT l t L k && hitAt l (atT t L k)
theorem hitsT_mono (l : List UInt8) (t : St) (L : List UInt8) : ∀ m k, k ≤ m → hitsT l t L k = false → hitsT l t L m = false
  | 0, k, h, hk => by
    have : k = 0 := by omega
    subst this
    exact hk
  | m + 1, k, h, hk => by
    rcases Nat.lt_or_ge k (m + 1) with h1 | h1
    · rw [hitsT, hitsT_mono l t L m k (by omega) hk]
      rfl
    · have : k = m + 1 := by omega
      subst this
      exact hk
theorem hitsT_all (l : List UInt8) (t : St) (L : List UInt8) : ∀ m, hitsT l t L m = true → ∀ j, j < m → hitAt l (atT t L j) = true
  | m + 1, h, j, hj => by
    rw [hitsT, Bool.and_eq_true] at h
    rcases Nat.lt_or_ge j m with h1 | h1
    · exact hitsT_all l t L m h.1 j h1
    · have : j = m := by omega
      subst this
      exact h.2
/-- What RollOverLabels answers. -/
def rlB (l : List UInt8) (t : St) (L : List UInt8) : Bool := onL l t && (isWord L && hitsT l t L (L.length + 1))
def rlV (l : List UInt8) (t : St) (L : List UInt8) : St := if rlB l t L = true then atT t L L.length else ⟨0, 0, ⟨0, 0, 0, 0, 0, 0⟩⟩
theorem rl_no {l : List UInt8} {t : St} {L : List UInt8} (h : rlB l t L = false) : rlV l t L = ⟨0, 0, ⟨0, 0, 0, 0, 0, 0⟩⟩ := by unfold rlV; rw [h]; rfl
theorem rl_yes {l : List UInt8} {t : St} {L : List UInt8} (h : rlB l t L = true) : rlV l t L = atT t L L.length := by unfold rlV; rw [if_pos h]
theorem rl_stop {l : List UInt8} {t : St} {L : List UInt8} (hg : goodB t.d = true) (h : hitsT l t L (L.length + 1) = true) : stopT (unlab l) t L = L.length := by
  refine stop_at (unlab l) L t L.length (Nat.le_refl _) (fun j c hj hc => ?_) (fun c hc => ?_)
  · have h1 := hitsT_all l t L _ h (j + 1) (by omega)
    have h2 := good_top (way_good L (j + 1) hg)
    have h3 := hit_floor h2.1 h2.2 h1
    rw [atT_succ t L j c hc] at h3
    exact h3
  · rw [List.getElem?_eq_none (Nat.le_refl _)] at hc
    cases hc
theorem rl_ra {l : List UInt8} {t : St} {L : List UInt8} (h : rlB l t L = true) : raB (unlab l) t L = true := by
  unfold rlB at h
  simp only [Bool.and_eq_true] at h
  obtain ⟨h1, h2, h3⟩ := h
  obtain ⟨p1, p2, p3, p4⟩ := on_parts h1
  have h4 := rl_stop p4 h3
  unfold raB
  rw [p2, h2, h4]
  rw [show isBd (unlab l) = true from p1]
  simp
theorem rl_eq {l : List UInt8} {t : St} {L : List UInt8} (h : raB (unlab l) t L = true) : rlB l t L = hitsT l t L (L.length + 1) := by
  obtain ⟨p1, p2, p3, p4⟩ := ra_parts h
  unfold rlB onL
  rw [show isLab l = true from p1, p2, p3]
  rfl
set_option maxHeartbeats 3200000 in
theorem implRO_any (s : ByteArray) (t : St) (v : ByteArray) (w : World) (hs : s.size ≤ 1048576) (hv : v.size ≤ 1048576) (hg : Glob w) : Calls Tryd.prog 31 #[.string s, St.v t, .string v] w fun e w' => e = .returned (.tuple #[St.v (rlV s.data.toList t v.data.toList), .bool (rlB s.data.toList t v.data.toList)]) ∧ Below w.heap.size w w' := by
  obtain ⟨x, hx, hxl, hxs⟩ := floor_text s hs
  have HF := hide (floorText_any s)
  rw [← hx] at HF
  have HG := hide (show Glob ((w.alloc (.cells #[.int .i64 t.x, .int .i64 t.y, .int .i64 t.d.t, .int .i64 t.d.n, .int .i64 t.d.e, .int .i64 t.d.s, .int .i64 t.d.w, .int .i64 t.d.b] 30)).alloc (.cells #[.int .i64 0, .int .i64 0, .int .i64 0, .int .i64 0, .int .i64 0, .int .i64 0, .int .i64 0, .int .i64 0] 30)) from glob_to (w0 := w) (by go_grown) hg rfl)
  have S0 := hide ((IsS.new (w := w) (s := t) (ty := 30)).alloc (.cells #[.int .i64 0, .int .i64 0, .int .i64 0, .int .i64 0, .int .i64 0, .int .i64 0, .int .i64 0, .int .i64 0] 30))
  have R0 := hide (IsS.new2 (w := w) (o := (.cells #[.int .i64 t.x, .int .i64 t.y, .int .i64 t.d.t, .int .i64 t.d.n, .int .i64 t.d.e, .int .i64 t.d.s, .int .i64 t.d.w, .int .i64 t.d.b] 30)) (s := ⟨0, 0, ⟨0, 0, 0, 0, 0, 0⟩⟩) (ty := 30))
  have q0 : Below w.heap.size w ((w.alloc (.cells #[.int .i64 t.x, .int .i64 t.y, .int .i64 t.d.t, .int .i64 t.d.n, .int .i64 t.d.e, .int .i64 t.d.s, .int .i64 t.d.w, .int .i64 t.d.b] 30)).alloc (.cells #[.int .i64 0, .int .i64 0, .int .i64 0, .int .i64 0, .int .i64 0, .int .i64 0, .int .i64 0, .int .i64 0] 30)) := by go_grown
  have HSA := hide (fun wx (hgx : Glob wx) => implSA_any x t v wx hxs hv hgx)
  obtain ⟨l0, ⟨a0, a1, a2, a3, a4, a5, a6, a7⟩, -⟩ := S0.out.all
  cases hra : raB x.data.toList t v.data.toList
  · have HB := hide (show rlB s.data.toList t v.data.toList = false from by
      cases h : rlB s.data.toList t v.data.toList
      · rfl
      · have := rl_ra h
        rw [← hxl, hra] at this
        cases this)
    have HRA := hide hra
    rw [HB.out, rl_no HB.out]
    clear hx hxl hg hra
    go_enter Tryd.func31, Tryd.ntmps31
    go_upto_region 1 with (fail)
    generalize (w.alloc (.cells #[.int .i64 t.x, .int .i64 t.y, .int .i64 t.d.t, .int .i64 t.d.n, .int .i64 t.d.e, .int .i64 t.d.s, .int .i64 t.d.w, .int .i64 t.d.b] 30)).alloc (.cells #[.int .i64 0, .int .i64 0, .int .i64 0, .int .i64 0, .int .i64 0, .int .i64 0, .int .i64 0, .int .i64 0] 30) = W0 at HG S0 R0 q0 l0 a0 a1 a2 a3 a4 a5 a6 a7 ⊢
    go_region_held3 (fun w' => w'.cell? ⟨w.heap.size, 0, none⟩ = some (.int .i64 t.x) ∧ w'.cell? ⟨w.heap.size, 1, none⟩ = some (.int .i64 t.y) ∧ w'.cell? ⟨w.heap.size, 2, none⟩ = some (.int .i64 t.d.t) ∧ w'.cell? ⟨w.heap.size, 3, none⟩ = some (.int .i64 t.d.n) ∧ w'.cell? ⟨w.heap.size, 4, none⟩ = some (.int .i64 t.d.e) ∧ w'.cell? ⟨w.heap.size, 5, none⟩ = some (.int .i64 t.d.s) ∧ w'.cell? ⟨w.heap.size, 6, none⟩ = some (.int .i64 t.d.w) ∧ w'.cell? ⟨w.heap.size, 7, none⟩ = some (.int .i64 t.d.b)) (first | (refine ⟨?_, ?_, ?_, ?_, ?_, ?_, ?_, ?_⟩ <;> with_reducible assumption) | (refine ⟨?_, ?_, ?_, ?_, ?_, ?_, ?_, ?_⟩ <;> assumption))
      (first
        | (go_at_call 49; (refine (HF.out _ hs).mono ?_); rintro e w2 ⟨rfl, hb2⟩; have S2 := isS_to hb2 S0.out rfl; have R2 := isS_to hb2 R0.out rfl; have q2 := below_to hb2 q0 q0.size rfl rfl rfl rfl; have HG2 := hide (glob_to hb2 HG.out rfl); obtain ⟨l2, ⟨b0, b1, b2, b3, b4, b5, b6, b7⟩, -⟩ := S2.all; clear hb2)
        | (go_at_call 52; (refine (HSA.out _ HG2.out).mono ?_); rintro e w3 ⟨vv, rfl, hown3, hb3⟩; rw [HRA.out]; have S3 := isS_to hb3 S2 rfl; have R3 := isS_to hb3 R2 rfl; have q3 := below_to hb3 q2 q2.size rfl rfl rfl rfl; obtain ⟨l3, ⟨d0, d1, d2, d3, d4, d5, d6, d7⟩, -⟩ := S3.all; clear hb3))
    all_goals
      obtain ⟨l4, ⟨c0, c1, c2, c3, c4, c5, c6, c7⟩, f0, f1, f2, f3, f4, f5, f6, f7⟩ := R3.all
      go_wp2
      refine bodyPost_ret (ret_state2 Tryd.results31 rfl rfl (R3.set8 ⟨0, 0, ⟨0, 0, 0, 0, 0, 0⟩⟩)) rfl ⟨rfl, ?_⟩
      exact below_set8 q3 (show w.heap.size ≤ w.heap.size + 1 from by omega) ⟨0, 0, ⟨0, 0, 0, 0, 0, 0⟩⟩
  · have HRA := hide hra
    have hra2 := hra
    rw [hxl] at hra2
    obtain ⟨p1, p2, p3, p4⟩ := ra_parts hra2
    have hgd := (st_floor p2).2
    have hl : v.data.toList.length = v.size := by simp
    have hlen : v.size ≤ 60 := by have := isWord_len p3; simpa using this
    have HEQ := hide (show rlB s.data.toList t v.data.toList = hitsT s.data.toList t v.data.toList (v.size + 1) from by rw [rl_eq hra2, hl])
    have HV := hide (show rlB s.data.toList t v.data.toList = true → rlV s.data.toList t v.data.toList = atT t v.data.toList v.size from fun h => by rw [rl_yes h, hl])
    have HT := hide (show ∀ j, 0 ≤ (atT t v.data.toList j).d.t ∧ (atT t v.data.toList j).d.t ≤ 9 from fun j => good_top (way_good v.data.toList j hgd))
    have HW := hide (show saV x.data.toList t v.data.toList = waysT t v.data.toList v.size from by rw [sa_yes hra, hl])
    have hgr : GridOk (unlab s.data.toList) (width (unlab s.data.toList)) (splitP (unlab s.data.toList)).length (splitP (unlab s.data.toList)).flatten.length := ⟨p1, rfl, rfl, rfl⟩
    obtain ⟨w0, w7, h0, h7, hn⟩ := grid_facts hgr
    obtain ⟨he, hH, -⟩ := lab_facts hgr
    generalize width (unlab s.data.toList) = W at he w0 w7
    generalize (splitP (unlab s.data.toList)).length = H at hH h0 h7
    have HE := hide he
    have HHH := hide hH
    clear hx hxl hg hra hra2 p1 p2 p3 p4 hgd hl hgr hn he hH
    go_enter Tryd.func31, Tryd.ntmps31
    go_upto_region 1 with (fail)
    generalize (w.alloc (.cells #[.int .i64 t.x, .int .i64 t.y, .int .i64 t.d.t, .int .i64 t.d.n, .int .i64 t.d.e, .int .i64 t.d.s, .int .i64 t.d.w, .int .i64 t.d.b] 30)).alloc (.cells #[.int .i64 0, .int .i64 0, .int .i64 0, .int .i64 0, .int .i64 0, .int .i64 0, .int .i64 0, .int .i64 0] 30) = W0 at HG S0 R0 q0 l0 a0 a1 a2 a3 a4 a5 a6 a7 ⊢
    go_region_held3 (fun w' => w'.cell? ⟨w.heap.size, 0, none⟩ = some (.int .i64 t.x) ∧ w'.cell? ⟨w.heap.size, 1, none⟩ = some (.int .i64 t.y) ∧ w'.cell? ⟨w.heap.size, 2, none⟩ = some (.int .i64 t.d.t) ∧ w'.cell? ⟨w.heap.size, 3, none⟩ = some (.int .i64 t.d.n) ∧ w'.cell? ⟨w.heap.size, 4, none⟩ = some (.int .i64 t.d.e) ∧ w'.cell? ⟨w.heap.size, 5, none⟩ = some (.int .i64 t.d.s) ∧ w'.cell? ⟨w.heap.size, 6, none⟩ = some (.int .i64 t.d.w) ∧ w'.cell? ⟨w.heap.size, 7, none⟩ = some (.int .i64 t.d.b)) (first | (refine ⟨?_, ?_, ?_, ?_, ?_, ?_, ?_, ?_⟩ <;> with_reducible assumption) | (refine ⟨?_, ?_, ?_, ?_, ?_, ?_, ?_, ?_⟩ <;> assumption))
      (first
        | (go_at_call 49; (refine (HF.out _ hs).mono ?_); rintro e w2 ⟨rfl, hb2⟩; have S2 := isS_to hb2 S0.out rfl; have R2 := isS_to hb2 R0.out rfl; have q2 := below_to hb2 q0 q0.size rfl rfl rfl rfl; have HG2 := hide (glob_to hb2 HG.out rfl); obtain ⟨l2, ⟨b0, b1, b2, b3, b4, b5, b6, b7⟩, -⟩ := S2.all; clear hb2)
        | (go_at_call 52; (refine (HSA.out _ HG2.out).mono ?_); rintro e w3 ⟨vv, rfl, hown3, hb3⟩; rw [HRA.out]; have S3 := isS_to hb3 S2 rfl; have R3 := isS_to hb3 R2 rfl; have q3 := below_to hb3 q2 q2.size rfl rfl rfl rfl; obtain ⟨l3, ⟨d0, d1, d2, d3, d4, d5, d6, d7⟩, -⟩ := S3.all; clear hb3))
    rw [HW.out, waysT_len] at hown3
    obtain ⟨gq, cq, rfl, -, hgq⟩ := own_form hown3 (by omega)
    have hb0 := q3.size
    have O0 := own_mono hown3 (show w.heap.size ≤ _ from by have := q2.size; omega)
    clear a0 a1 a2 a3 a4 a5 a6 a7 l0 b0 b1 b2 b3 b4 b5 b6 b7 l2 d0 d1 d2 d3 d4 d5 d6 d7 l3 S2 R2 S3 HG2 q2 hown3
    obtain ⟨cap, W4, hcv, hcap, B4, hb4, hz4⟩ := bytes_new s w3
    have q4 := below_after q3 hb4 q3.size
    have HO4 := hide (own_to hb4 O0 rfl)
    have HB4 := hide B4
    have HR4 := hide (isS_to hb4 R3 rfl)
    have hgB : w.heap.size ≤ w3.heap.size := q3.size
    clear O0 B4 hb4 hz4 q3 R3
    go_wp2_with fail
    clear hcv
    refine (cutRows_any s.data.toList W H HE.out HHH.out ⟨w0, w7⟩ ⟨h0, h7⟩ _ s.size cap (by simp) hcap _ HB4.out).mono ?_
    rintro e w5 ⟨h, cap', rfl, O5, hb5⟩
    have HLA := hide (labAt_new (bufAt_to hb5 HB4.out rfl) O5)
    have HO5 := hide (own_to hb5 HO4.out rfl)
    have R5 := isS_to hb5 HR4.out rfl
    have q5 := below_after q4 hb5 q4.size
    clear O5 hb5 HB4 HO4 HR4 q4
    generalize w3.heap.size = g at HLA ⊢
    go_wp2
    go_loopw [29, 12] (fun i _ wr => ∃ k : Nat, k ≤ v.size + 1 ∧ i = .int .i64 (k : Int) ∧ LabAt wr h g s.data.toList W H ∧ wr.ownsRow w.heap.size 30 8 (.slice (some ⟨gq, 0, none⟩) (v.size + 1) cq) (v.size + 1) (cellsS (waysT t v.data.toList v.size)) ∧ IsS wr (w.heap.size + 1) ⟨0, 0, ⟨0, 0, 0, 0, 0, 0⟩⟩ 30 ∧ hitsT s.data.toList t v.data.toList k = true ∧ Below w.heap.size w wr) (fun i _ _ => v.size + 1 - (intOf i).toNat)
    case atStart => exact ⟨0, Nat.zero_le _, rfl, HLA.out, HO5.out, R5, rfl, q5⟩
    case round =>
      obtain ⟨k, hk, rfl, A, O, R, hok, q⟩ := hrel
      clear HLA HO5 R5 q5
      by_cases hlt : k < v.size + 1
      · obtain ⟨a0, a1, a2, a3, a4, a5, a6, a7⟩ := row_cells_at k O hlt (waysT_get t v.data.toList v.size k (by omega))
        have hT := HT.out k
        have HKS := hide (show hitsT s.data.toList t v.data.toList (k + 1) = (hitsT s.data.toList t v.data.toList k && hitAt s.data.toList (atT t v.data.toList k)) from rfl)
        rw [hok, Bool.true_and] at HKS
        have HNO := hide (show hitsT s.data.toList t v.data.toList (k + 1) = false → rlB s.data.toList t v.data.toList = false from fun h => by rw [HEQ.out]; exact hitsT_mono _ _ _ _ (k + 1) (by omega) h)
        clear hok
        generalize atT t v.data.toList k = u at a0 a1 a2 a3 a4 a5 a6 a7 hT HKS
        have hk0 : (k : Int) < ((v.size + 1 : Nat) : Int) := by omega
        have HA1 := hide (labAt_allocR A (.cells #[.int .i64 u.x, .int .i64 u.y, .int .i64 u.d.t, .int .i64 u.d.n, .int .i64 u.d.e, .int .i64 u.d.s, .int .i64 u.d.w, .int .i64 u.d.b] 30))
        have HO1 := hide (O.alloc (.cells #[.int .i64 u.x, .int .i64 u.y, .int .i64 u.d.t, .int .i64 u.d.n, .int .i64 u.d.e, .int .i64 u.d.s, .int .i64 u.d.w, .int .i64 u.d.b] 30))
        have R1 := R.alloc (.cells #[.int .i64 u.x, .int .i64 u.y, .int .i64 u.d.t, .int .i64 u.d.n, .int .i64 u.d.e, .int .i64 u.d.s, .int .i64 u.d.w, .int .i64 u.d.b] 30)
        have q1 := q.alloc q.size (.cells #[.int .i64 u.x, .int .i64 u.y, .int .i64 u.d.t, .int .i64 u.d.n, .int .i64 u.d.e, .int .i64 u.d.s, .int .i64 u.d.w, .int .i64 u.d.b] 30)
        have S1 := IsS.new (w := wr) (s := u) (ty := 30)
        obtain ⟨l1, ⟨c0, c1, c2, c3, c4, c5, c6, c7⟩, -⟩ := S1.all
        clear A O q R S1
        go_upto_region 8 with (fail)
        generalize wr.heap.size = b at l1 c0 c1 c2 c3 c4 c5 c6 c7 ⊢
        generalize wr.alloc (.cells #[.int .i64 u.x, .int .i64 u.y, .int .i64 u.d.t, .int .i64 u.d.n, .int .i64 u.d.e, .int .i64 u.d.s, .int .i64 u.d.w, .int .i64 u.d.b] 30) = w6 at HA1 HO1 R1 q1 l1 c0 c1 c2 c3 c4 c5 c6 c7 ⊢
        go_wp2_with fail
        clear c0 c1 c2 c3 c4 c5 c6 c7 l1
        refine (matches_any s.data.toList W H h g cap' HE.out HHH.out w7 h7 u hT.1 hT.2 _ HA1.out).mono ?_
        rintro e w7' ⟨rfl, hb7⟩
        have A3 := hide (labAt_to hb7 HA1.out rfl)
        have O3 := hide (own_to hb7 HO1.out rfl)
        have R3 := isS_to hb7 R1 rfl
        have q3 := below_to hb7 q1 q1.size rfl rfl rfl rfl
        clear hb7 HA1 HO1 R1 q1
        cases hm : hitB (cellI (splitP s.data.toList) u.x u.y) u.d.t
        · have HB := hide (HNO.out (by rw [HKS.out]; exact hm))
          clear hm
          obtain ⟨l4, ⟨c0, c1, c2, c3, c4, c5, c6, c7⟩, f0, f1, f2, f3, f4, f5, f6, f7⟩ := R3.all
          go_wp2
          refine bodyPost_ret (ret_state2 Tryd.results31 rfl rfl (R3.set8 ⟨0, 0, ⟨0, 0, 0, 0, 0, 0⟩⟩)) rfl ⟨by rw [HB.out, rl_no HB.out], ?_⟩
          exact below_set8 q3 (show w.heap.size ≤ w.heap.size + 1 from by omega) ⟨0, 0, ⟨0, 0, 0, 0, 0, 0⟩⟩
        · have HK1 := hide (show hitsT s.data.toList t v.data.toList (k + 1) = true from by rw [HKS.out]; exact hm)
          clear hm
          go_wp2
          go_roundw
          case rel => exact ⟨k + 1, by omega, by go_num, A3.out, O3.out, R3, HK1.out, q3⟩
          case measure => simp [intOf] <;> omega
      · obtain rfl : k = v.size + 1 := by omega
        have HB := hide (show rlB s.data.toList t v.data.toList = true from by rw [HEQ.out]; exact hok)
        have HVV := hide (HV.out HB.out)
        obtain ⟨a0, a1, a2, a3, a4, a5, a6, a7⟩ := row_cells_at v.size O (by omega) (waysT_get t v.data.toList v.size v.size (Nat.le_refl _))
        clear O A hok
        generalize hu : atT t v.data.toList v.size = u at a0 a1 a2 a3 a4 a5 a6 a7
        have HU := hide hu
        clear hu
        have hk0 : (0 : Int) ≤ (v.size : Int) := by omega
        have hk1 : (v.size : Int) < (v.size : Int) + 1 := by omega
        have hk2 : (v.size : Int) < ((v.size + 1 : Nat) : Int) := by omega
        have hk3 : (v.size : Int) + 1 - 1 = (v.size : Int) := by omega
        obtain ⟨m1, ⟨c0, c1, c2, c3, c4, c5, c6, c7⟩, f0, f1, f2, f3, f4, f5, f6, f7⟩ := R.all
        go_wp2
        refine bodyPost_ret (ret_state2 Tryd.results31 rfl rfl (R.set8 u)) rfl ⟨by rw [HB.out, HVV.out, HU.out], ?_⟩
        exact below_set8 q (show w.heap.size ≤ w.heap.size + 1 from by omega) u
end Go.Proofs.YtckajjocpheakaaDoor
