/- FnExactLabelMoves's walk. -/
import Derived.Test.YtckajjocpheakaaDoorMoves
namespace Go.Proofs.YtckajjocpheakaaDoor
set_option maxRecDepth 100000
set_option linter.all false
open Go.RowKit

/-- What LabelMoves answers. -/
def lmS (l : List UInt8) (t : St) : ByteArray := if mhB l t = true then ⟨(mvW l t 4).toArray⟩ else ⟨#[]⟩
theorem lab_near {l : List UInt8} {t : St} (h : onL l t = true) : (-100000 ≤ t.x ∧ t.x ≤ 100000) ∧ (-100000 ≤ t.y ∧ t.y ≤ 100000) := by
  unfold onL at h
  rw [Bool.and_eq_true] at h
  exact st_near h.1 h.2
theorem on_parts {l : List UInt8} {t : St} (h : onL l t = true) : isLab l = true ∧ stL (unlab l) t = true ∧ floorL (unlab l) t.x t.y = true ∧ goodB t.d = true := by
  unfold onL at h
  rw [Bool.and_eq_true] at h
  exact ⟨h.1, h.2, (st_floor h.2).1, (st_floor h.2).2⟩
theorem mh_hit {l : List UInt8} {t : St} (h : onL l t = true) : mhB l t = hitAt l t := by unfold mhB; rw [h]; rfl
set_option maxHeartbeats 800000 in
theorem specLM_bad (s : ByteArray) (t : St) (w : World) (h : isLab s.data.toList = false) : Calls Tryd.prog 28 #[.string s, St.v t] w fun e w' => e = .returned (.tuple #[.string ⟨#[]⟩, .bool false]) ∧ Below w.heap.size w w' := by
  have H := hide h
  clear h
  go_enter Tryd.func28, Tryd.ntmps28
  go_wp2_with fail
  refine (prAsked_bad s t _ H.out).mono ?_
  rintro e w1 ⟨v, rfl, hb1⟩
  have q0 : Below w.heap.size w w1 := below_after (by go_grown) hb1 (by simp)
  clear hb1
  go_wp2
  go_returns
  exact ⟨rfl, q0.alloc q0.size _⟩
set_option maxHeartbeats 800000 in
theorem specLM_off (s : ByteArray) (t : St) (w : World) (h : isLab s.data.toList = true) (h2 : stL (unlab s.data.toList) t = false) : Calls Tryd.prog 28 #[.string s, St.v t] w fun e w' => e = .returned (.tuple #[.string ⟨#[]⟩, .bool false]) ∧ Below w.heap.size w w' := by
  have H := hide h
  have H2 := hide h2
  clear h h2
  go_enter Tryd.func28, Tryd.ntmps28
  go_wp2_with fail
  refine (prAsked_in s t _ H.out).mono ?_
  rintro e w1 ⟨W, Hh, n, g, cap, gl, capl, hG, rfl, hA, hcp, hAL, hb1⟩
  rw [H2.out]
  have q0 : Below w.heap.size w w1 := below_after (by go_grown) hb1 (by simp)
  clear hb1 hA hcp hAL hG
  go_wp2
  go_returns
  exact ⟨rfl, q0.alloc q0.size _⟩
/-- What the model has gathered. -/
def lmW (l : List UInt8) (t : St) (k : Nat) : List UInt8 := if hitAt l t = true then mvW l t k else []
set_option maxHeartbeats 3200000 in
theorem specLM_on (s : ByteArray) (t : St) (w : World) (h : onL s.data.toList t = true) : Calls Tryd.prog 28 #[.string s, St.v t] w fun e w' => e = .returned (.tuple #[.string (lmS s.data.toList t), .bool true]) ∧ Below w.heap.size w w' := by
  obtain ⟨hx, hy⟩ := lab_near h
  obtain ⟨h1, h2, h3, h4⟩ := on_parts h
  have HX := hide hx
  have HY := hide hy
  have H := hide h1
  have HST := hide h2
  have HFL := hide h3
  have HGD := hide h4
  have HM := hide (mh_hit h)
  have HV := hide (show lmS s.data.toList t = (if mhB s.data.toList t = true then ⟨(mvW s.data.toList t 4).toArray⟩ else ⟨#[]⟩) from rfl)
  rw [HM.out] at HV
  clear h h1 h2 h3 h4 hx hy
  go_enter Tryd.func28, Tryd.ntmps28
  go_wp2_with fail
  refine (prAsked_in s t _ H.out).mono ?_
  rintro e w1 ⟨W, Hh, n, g, cap, gl, capl, hG, rfl, hA, hcp, hAL, hb1⟩
  rw [HST.out]
  have u1 := (isS_to hb1 (IsS.new (w := w) (s := t) (ty := 30)) rfl).alloc (.cells #[.int .i64 (W : Int), .int .i64 (Hh : Int), .slice (some ⟨g, 0, none⟩) n cap] 44)
  have q0 : Below w.heap.size w w1 := below_after (by go_grown) hb1 (by simp)
  have G1 := IsG.new (w := w1) (x := (W : Int)) (y := (Hh : Int)) (v := .slice (some ⟨g, 0, none⟩) n cap)
  have A1 := hA.allocP (.cells #[.int .i64 (W : Int), .int .i64 (Hh : Int), .slice (some ⟨g, 0, none⟩) n cap] 44)
  have AL1 := hAL.allocP (.cells #[.int .i64 (W : Int), .int .i64 (Hh : Int), .slice (some ⟨g, 0, none⟩) n cap] 44)
  have q1 := q0.alloc q0.size (.cells #[.int .i64 (W : Int), .int .i64 (Hh : Int), .slice (some ⟨g, 0, none⟩) n cap] 44)
  have HG := hide hG
  clear hb1 q0 hA hG hcp hAL
  go_wp2_with fail
  generalize hB : w1.heap.size = B at G1 ⊢
  generalize w1.alloc (.cells #[.int .i64 (W : Int), .int .i64 (Hh : Int), .slice (some ⟨g, 0, none⟩) n cap] 44) = W1 at u1 G1 A1 AL1 q1 ⊢
  clear hB
  have HI := hide (show ∀ k : Nat, (lmW s.data.toList t k).length ≤ k from fun k => by
    have := mvW_len s.data.toList t k
    unfold lmW
    split
    · exact this
    · simp)
  go_loopw [9, 10] (fun o i wr => ∃ k : Nat, k ≤ 4 ∧ i = .int .i64 (k : Int) ∧ o = .string ⟨(lmW s.data.toList t k).toArray⟩ ∧ IsS wr w.heap.size t 30 ∧ IsG wr B (W : Int) (Hh : Int) (.slice (some ⟨g, 0, none⟩) n cap) ∧ BytesAt wr g (splitP (unlab s.data.toList)).flatten ∧ BytesAt wr gl (splitP s.data.toList).flatten ∧ Below w.heap.size w wr) (fun _ i _ => 4 - (intOf i).toNat)
  case atStart => exact ⟨0, by omega, rfl, by simp [lmW, mvW], u1, G1, A1, AL1, q1⟩
  case round =>
    obtain ⟨k, hk, rfl, rfl, u, G, A, AL, q⟩ := hrel
    clear u1 G1 A1 AL1 q1
    by_cases hlt : k < 4
    · obtain ⟨l0, ⟨a0, a1, a2, a3, a4, a5, a6, a7⟩, -⟩ := u.all
      obtain ⟨l1, ⟨b0, b1, b2⟩, -⟩ := G.all
      have hki : (k : Int) < 4 := by omega
      have HK := hide (show mvW s.data.toList t (k + 1) = (if hitAt s.data.toList (rollT t (k : Int)) = true then mvW s.data.toList t k ++ [dirN k] else mvW s.data.toList t k) from rfl)
      have hol := HI.out k
      have HT := hide (good_top (good_roll HGD.out k hlt))
      have HA := hide A
      have HAL := hide AL
      clear A AL
      cases hct : hitAt s.data.toList (rollT t (k : Int))
      · have HC := hide (show lmW s.data.toList t (k + 1) = lmW s.data.toList t k from by unfold lmW; rw [HK.out, hct]; rfl)
        have HCT := hide hct
        clear hct
        go_wp2_with fail
        refine (prRoll_no s.data.toList W Hh n g cap gl capl HG.out t (k : Int) _ HA.out HAL.out HX.out HY.out HCT.out).mono ?_
        rintro e w2 ⟨rfl, hb2⟩
        have u2 := (isS_to hb2 u rfl).alloc (.cells #[.int .i64 0, .int .i64 0, .int .i64 0, .int .i64 0, .int .i64 0, .int .i64 0, .int .i64 0, .int .i64 0] 30)
        have G2 := (isG_to hb2 G rfl).alloc (.cells #[.int .i64 0, .int .i64 0, .int .i64 0, .int .i64 0, .int .i64 0, .int .i64 0, .int .i64 0, .int .i64 0] 30)
        have A2 := hide ((bytesAt_to hb2 HA.out rfl).allocP (.cells #[.int .i64 0, .int .i64 0, .int .i64 0, .int .i64 0, .int .i64 0, .int .i64 0, .int .i64 0, .int .i64 0] 30))
        have AL2 := hide ((bytesAt_to hb2 HAL.out rfl).allocP (.cells #[.int .i64 0, .int .i64 0, .int .i64 0, .int .i64 0, .int .i64 0, .int .i64 0, .int .i64 0, .int .i64 0] 30))
        have q2 := (below_to hb2 q q.size rfl rfl rfl rfl)
        have q3 := q2.alloc q2.size (.cells #[.int .i64 0, .int .i64 0, .int .i64 0, .int .i64 0, .int .i64 0, .int .i64 0, .int .i64 0, .int .i64 0] 30)
        clear hb2 a0 a1 a2 a3 a4 a5 a6 a7 b0 b1 b2 l0 l1 u G q q2
        go_wp2
        go_roundw
        case rel => exact ⟨k + 1, by omega, by go_num, by rw [HC.out], u2, G2, A2.out, AL2.out, q3⟩
        case measure => simp [intOf] <;> omega
      · have HCT := hide hct
        have HK2 := hide (show mvW s.data.toList t (k + 1) = mvW s.data.toList t k ++ [dirN k] from by rw [HK.out, hct]; rfl)
        clear hct
        go_wp2_with fail
        refine (prRoll_yes s.data.toList W Hh n g cap gl capl HG.out t (k : Int) _ HA.out HAL.out HX.out HY.out HT.out.1 HT.out.2 HCT.out).mono ?_
        rintro e w2 ⟨rfl, hb2⟩
        generalize rollT t (k : Int) = r
        have u2 := (isS_to hb2 u rfl).alloc (.cells #[.int .i64 r.x, .int .i64 r.y, .int .i64 r.d.t, .int .i64 r.d.n, .int .i64 r.d.e, .int .i64 r.d.s, .int .i64 r.d.w, .int .i64 r.d.b] 30)
        have G2 := (isG_to hb2 G rfl).alloc (.cells #[.int .i64 r.x, .int .i64 r.y, .int .i64 r.d.t, .int .i64 r.d.n, .int .i64 r.d.e, .int .i64 r.d.s, .int .i64 r.d.w, .int .i64 r.d.b] 30)
        have A2 := hide ((bytesAt_to hb2 HA.out rfl).allocP (.cells #[.int .i64 r.x, .int .i64 r.y, .int .i64 r.d.t, .int .i64 r.d.n, .int .i64 r.d.e, .int .i64 r.d.s, .int .i64 r.d.w, .int .i64 r.d.b] 30))
        have AL2 := hide ((bytesAt_to hb2 HAL.out rfl).allocP (.cells #[.int .i64 r.x, .int .i64 r.y, .int .i64 r.d.t, .int .i64 r.d.n, .int .i64 r.d.e, .int .i64 r.d.s, .int .i64 r.d.w, .int .i64 r.d.b] 30))
        have q2 := (below_to hb2 q q.size rfl rfl rfl rfl)
        have q3 := q2.alloc q2.size (.cells #[.int .i64 r.x, .int .i64 r.y, .int .i64 r.d.t, .int .i64 r.d.n, .int .i64 r.d.e, .int .i64 r.d.s, .int .i64 r.d.w, .int .i64 r.d.b] 30)
        clear hb2 a0 a1 a2 a3 a4 a5 a6 a7 b0 b1 b2 l0 l1 u G q q2
        go_upto_region 9 with (fail)
        generalize w2.alloc (.cells #[.int .i64 r.x, .int .i64 r.y, .int .i64 r.d.t, .int .i64 r.d.n, .int .i64 r.d.e, .int .i64 r.d.s, .int .i64 r.d.w, .int .i64 r.d.b] 30) = w3 at u2 G2 A2 AL2 q3 ⊢
        obtain ⟨l0, ⟨a0, a1, a2, a3, a4, a5, a6, a7⟩, -⟩ := u2.all
        obtain ⟨l1, ⟨b0, b1, b2⟩, -⟩ := G2.all
        go_wp2_with fail
        refine (prMatch_any s.data.toList W Hh n g cap gl capl HG.out t HFL.out _ AL2.out).mono ?_
        rintro e w4 ⟨rfl, hb4⟩
        have u4 := isS_to hb4 u2 rfl
        have G4 := isG_to hb4 G2 rfl
        have A4 := hide (bytesAt_to hb4 A2.out rfl)
        have AL4 := hide (bytesAt_to hb4 AL2.out rfl)
        have q4 := below_to hb4 q3 q3.size rfl rfl rfl rfl
        clear hb4 a0 a1 a2 a3 a4 a5 a6 a7 b0 b1 b2 l0 l1 u2 G2 A2 AL2 q3
        cases hmm : hitB (cellI (splitP s.data.toList) t.x t.y) t.d.t
        · have hf : hitAt s.data.toList t = false := hmm
          have HC := hide (show lmW s.data.toList t (k + 1) = lmW s.data.toList t k from by unfold lmW; rw [hf]; rfl)
          clear hmm hf
          go_wp2
          go_roundw
          case rel => exact ⟨k + 1, by omega, by go_num, by rw [HC.out], u4, G4, A4.out, AL4.out, q4⟩
          case measure => simp [intOf] <;> omega
        · have hf : hitAt s.data.toList t = true := hmm
          have HC := hide (show lmW s.data.toList t (k + 1) = lmW s.data.toList t k ++ [dirN k] from by unfold lmW; rw [hf, if_pos rfl, if_pos rfl]; exact HK2.out)
          clear hmm hf
          generalize lmW s.data.toList t k = o at hol HC ⊢
          have hsl := dslU k hlt
          have ha : ¬ 9223372036854775807 < o.length + 1 := by omega
          go_wp2_with (first
            | (go_at_call 37; refine (diDirsU_any _).mono ?_; rintro e w' ⟨rfl, rfl⟩))
          go_roundw
          case rel => exact ⟨k + 1, by omega, by go_num, by rw [HC.out, ← str_snoc], u4, G4, A4.out, AL4.out, q4⟩
          case measure => simp [intOf] <;> omega
    · obtain rfl : k = 4 := by omega
      have HE := hide (show lmS s.data.toList t = ⟨(lmW s.data.toList t 4).toArray⟩ from by rw [HV.out]; unfold lmW; split <;> rfl)
      generalize hx : (⟨(lmW s.data.toList t 4).toArray⟩ : ByteArray) = x at HE ⊢
      clear hx
      go_wp2
      go_returns
      exact ⟨by rw [HE.out]; rfl, q⟩
theorem specLM_any (s : ByteArray) (t : St) (w : World) (_hs : s.size ≤ 1048576) : Calls Tryd.prog 28 #[.string s, St.v t] w fun e w' => e = .returned (.tuple #[.string (lmS s.data.toList t), .bool (onL s.data.toList t)]) ∧ Below w.heap.size w w' := by
  cases h : onL s.data.toList t
  · have e : lmS s.data.toList t = ⟨#[]⟩ := by unfold lmS mhB; rw [h]; rfl
    rw [e]
    cases h1 : isLab s.data.toList
    · exact specLM_bad s t w h1
    · exact specLM_off s t w h1 (by rw [← onL_eq h1]; exact h)
  · exact specLM_on s t w h
set_option maxHeartbeats 3200000 in
theorem implLM_any (s : ByteArray) (t : St) (w : World) (hs : s.size ≤ 1048576) (hg : Glob w) : Calls Tryd.prog 29 #[.string s, St.v t] w fun e w' => e = .returned (.tuple #[.string (lmS s.data.toList t), .bool (onL s.data.toList t)]) ∧ Below w.heap.size w w' := by
  have HG := hide (show Glob (w.alloc (.cells #[.int .i64 t.x, .int .i64 t.y, .int .i64 t.d.t, .int .i64 t.d.n, .int .i64 t.d.e, .int .i64 t.d.s, .int .i64 t.d.w, .int .i64 t.d.b] 30)) from glob_to (w0 := w) ((Below.refl _ _).alloc (Nat.le_refl _) _) hg rfl)
  clear hg
  cases hon : onL s.data.toList t
  · have HM := hide (show lmS s.data.toList t = ⟨#[]⟩ from by unfold lmS mhB; rw [hon]; rfl)
    have HON := hide hon
    rw [HM.out]
    clear hon
    go_enter Tryd.func29, Tryd.ntmps29
    go_wp2_with fail
    refine (labelsUnder_no s t _ hs HG.out HON.out).mono ?_
    rintro e w1 ⟨rfl, hb1⟩
    have q1 : Below w.heap.size w w1 := below_after (by go_grown) hb1 (by simp)
    go_wp2
    go_returns
    exact ⟨rfl, q1⟩
  · have HON := hide hon
    obtain ⟨h1, h2, h3, h4⟩ := on_parts hon
    obtain ⟨hx, hy⟩ := lab_near hon
    obtain ⟨h0, h9⟩ := good_top h4
    have HX := hide hx
    have HY := hide hy
    have HGD := hide h4
    have HV := hide (show lmS s.data.toList t = (if mhB s.data.toList t = true then ⟨(mvW s.data.toList t 4).toArray⟩ else ⟨#[]⟩) from rfl)
    rw [mh_hit hon] at HV
    clear hon h1 h2 h3 h4 hx hy
    go_enter Tryd.func29, Tryd.ntmps29
    go_wp2_with fail
    refine (labelsUnder_yes s t _ hs HG.out HON.out).mono ?_
    rintro e w1 ⟨W, Hh, n, h, g, cap, hG, rfl, hLA, hb1⟩
    have u1 := isS_to hb1 (IsS.new (s := t) (ty := 30)) rfl
    have q1 : Below w.heap.size w w1 := below_after (by go_grown) hb1 (by simp)
    obtain ⟨w0, w7, i0, i7, hn⟩ := grid_facts hG
    obtain ⟨he, hH, hfl⟩ := lab_facts hG
    have HE := hide he
    have HH := hide hH
    have HLA := hide hLA
    obtain ⟨l1, ⟨c0, c1, c2, c3, c4, c5, c6, c7⟩, -⟩ := u1.all
    clear hb1 he hH hfl hLA hG hn
    go_wp2_with fail
    clear c0 c1 c2 c3 c4 c5 c6 c7 l1
    refine (matches_any s.data.toList W Hh h g cap HE.out HH.out w7 i7 t h0 h9 _ HLA.out).mono ?_
    rintro e w3 ⟨rfl, hb3⟩
    have q3 := below_to hb3 q1 q1.size rfl rfl rfl rfl
    have u := isS_to hb3 u1 rfl
    have HLB := hide (labAt_to hb3 HLA.out rfl)
    clear hb3 u1 q1 HLA
    cases hmm : hitB (cellI (splitP s.data.toList) t.x t.y) t.d.t
    · have hf : hitAt s.data.toList t = false := hmm
      have HE2 := hide (show lmS s.data.toList t = ⟨#[]⟩ from by rw [HV.out, hf]; rfl)
      clear hmm hf
      go_wp2
      go_returns
      exact ⟨by rw [HE2.out]; rfl, q3⟩
    · have hf : hitAt s.data.toList t = true := hmm
      have HE2 := hide (show lmS s.data.toList t = ⟨(mvW s.data.toList t 4).toArray⟩ from by rw [HV.out, hf]; rfl)
      clear hmm hf
      obtain ⟨l0, ⟨a0, a1, a2, a3, a4, a5, a6, a7⟩, -⟩ := u.all
      have HLD := hide (show LabAt w3.drew h g s.data.toList W Hh from HLB.out)
      go_upto_region 4 with (fail)
      go_region_held3 (fun w' => w'.cell? ⟨w.heap.size, 0, none⟩ = some (.int .i64 t.x) ∧ w'.cell? ⟨w.heap.size, 1, none⟩ = some (.int .i64 t.y) ∧ w'.cell? ⟨w.heap.size, 2, none⟩ = some (.int .i64 t.d.t) ∧ w'.cell? ⟨w.heap.size, 3, none⟩ = some (.int .i64 t.d.n) ∧ w'.cell? ⟨w.heap.size, 4, none⟩ = some (.int .i64 t.d.e) ∧ w'.cell? ⟨w.heap.size, 5, none⟩ = some (.int .i64 t.d.s) ∧ w'.cell? ⟨w.heap.size, 6, none⟩ = some (.int .i64 t.d.w) ∧ w'.cell? ⟨w.heap.size, 7, none⟩ = some (.int .i64 t.d.b)) (first | (refine ⟨?_, ?_, ?_, ?_, ?_, ?_, ?_, ?_⟩ <;> with_reducible assumption) | (refine ⟨?_, ?_, ?_, ?_, ?_, ?_, ?_, ?_⟩ <;> assumption))
        (first
          | (go_at_call 61; (refine (matchesOn_any s.data.toList W Hh h g cap _ HLD.out).mono ?_); rintro e w4 ⟨b, rfl, hC4, hb4⟩; have C4 := hide hC4; have u4 := isS_to hb4 u rfl; have q4 := below_to hb4 q3 q3.size rfl rfl rfl rfl; obtain ⟨m0, ⟨b0, b1, b2, b3, b4, b5, b6, b7⟩, -⟩ := u4.all; clear hb4 hC4)
          | (go_at_call 40; (refine (movesOf_any s.data.toList W Hh h g cap b HE.out HH.out w7 i7 t HGD.out HX.out HY.out _ C4.out).mono ?_); rintro e w5 ⟨rfl, hb5⟩; have u5 := isS_to hb5 u4 rfl; have q5 := below_to hb5 q4 q4.size rfl rfl rfl rfl; obtain ⟨n0, ⟨d0, d1, d2, d3, d4, d5, d6, d7⟩, -⟩ := u5.all; clear hb5))
      all_goals
        go_wp2
        go_returns
        exact ⟨by rw [HE2.out]; rfl, q5⟩

set_option maxHeartbeats 1600000 in
theorem walk_LabelMoves (v : ByteArray) (hv : v.size ≤ maxLen) (t : St) (htx : (Lit.int .i64 t.x).wf = true) (hty : (Lit.int .i64 t.y).wf = true) (w : World) (hg : Glob w) : Calls Tryd.prog 10 #[.string v, St.v t] w fun e w' => e = .returned (.bool true) ∧ Below w.heap.size w w' := by
  have HGL := hide hg
  clear hg
  by_cases h0 : v.size ≤ 1048576
  · have HS0 := hide h0
    go_enter Tryd.func10, Tryd.ntmps10
    go_wp2_with fail
    refine (toState_any t _).mono ?_
    rintro e w1 ⟨rfl, hb1⟩
    have u1 := isS_to hb1 (IsS.new (w := w) (s := t) (ty := 25)) rfl
    have q1 : Below w.heap.size w w1 := below_after (by go_grown) hb1 (by simp)
    clear hb1
    go_wp2_with fail
    refine (specLM_any v t _ HS0.out).mono ?_
    rintro e w2 ⟨rfl, hb2⟩
    have u2 := isS_to hb2 u1 rfl
    have q2 := below_to hb2 q1 q1.size rfl rfl rfl rfl
    clear hb2 u1 q1
    generalize hz0 : lmS v.data.toList t = z0
    have HZ0 := hide hz0
    clear hz0
    generalize hz1 : onL v.data.toList t = z1
    have HZ1 := hide hz1
    clear hz1
    obtain ⟨l1, ⟨c0, c1, c2, c3, c4, c5, c6, c7⟩, -⟩ := u2.all
    go_wp2_with fail
    clear c0 c1 c2 c3 c4 c5 c6 c7 l1
    refine (toState_any t _).mono ?_
    rintro e w3 ⟨rfl, hb3⟩
    have q3 := below_to hb3 q2 q2.size rfl rfl rfl rfl
    have hg3 := hide (show Glob w3 from by
      have hl := HGL.out.lt
      obtain ⟨m, hm⟩ := HGL.out
      exact ⟨m, (q3.cell (p := ⟨0, 0, none⟩) hl).trans hm⟩)
    clear hb3 u2 q2
    go_wp2_with fail
    refine (implLM_any v t _ HS0.out hg3.out).mono ?_
    rintro e w4 ⟨rfl, hb4⟩
    rw [HZ0.out, HZ1.out]
    have q4 := below_to hb4 q3 q3.size rfl rfl rfl rfl
    have e0 : (z0.toList != z0.toList) = false := by simp
    have e1 : (z1 != z1) = false := by simp
    go_wp2
    go_returns
    exact ⟨rfl, q4⟩
  · go_enter Tryd.func10, Tryd.ntmps10
    go_wp2
    go_returns
    exact ⟨rfl, by go_grown⟩
end Go.Proofs.YtckajjocpheakaaDoor
