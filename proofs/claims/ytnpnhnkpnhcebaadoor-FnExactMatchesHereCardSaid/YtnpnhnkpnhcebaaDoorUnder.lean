/- The contract of labelsUnder. -/
import Derived.Test.YtnpnhnkpnhcebaaDoorPrAsk
import Derived.Test.YtnpnhnkpnhcebaaDoorWalksIL
namespace Go.Proofs.YtnpnhnkpnhcebaaDoor
set_option maxRecDepth 100000
set_option linter.all false
open Go.RowKit

theorem rowsUnder_v (s : ByteArray) (t : St) (w : World) (hs : s.size ≤ 1048576) (hg : Glob w) : Calls Tryd.prog 39 #[.string s, St.v t] w fun e w' => ∃ v, e = .returned (.tuple #[v, .bool (isBd s.data.toList && stL s.data.toList t)]) ∧ Below w.heap.size w w' := by
  cases h : isBd s.data.toList
  · refine (rowsUnder_bad s t w hs hg h).mono ?_
    rintro e w' ⟨rfl, hb⟩
    exact ⟨_, rfl, hb⟩
  · cases h2 : stL s.data.toList t
    · refine (rowsUnder_off s t w hs hg h h2).mono ?_
      rintro e w' ⟨rfl, hb⟩
      exact ⟨_, rfl, hb⟩
    · refine (rowsUnder_on s t w hs hg h h2).mono ?_
      rintro e w' ⟨rfl, _, hb⟩
      exact ⟨_, rfl, hb⟩
set_option maxHeartbeats 1600000 in
theorem labelsUnder_no (s : ByteArray) (t : St) (w : World) (hs : s.size ≤ 1048576) (hg : Glob w) (h : (isLab s.data.toList && stL (unlab s.data.toList) t) = false) : Calls Tryd.prog 30 #[.string s, St.v t] w fun e w' => e = .returned (.tuple #[.slice none 0 0, .bool false]) ∧ Below w.heap.size w w' := by
  obtain ⟨x, hx, hxl, hxs⟩ := floor_text s hs
  have HF := hide (floorText_any s)
  rw [← hx] at HF
  have HU := hide (rowsUnder_v x t)
  have HV := hide (show (isBd x.data.toList && stL x.data.toList t) = false from by rw [hxl]; exact h)
  have HG := hide (show Glob (w.alloc (.cells #[.int .i64 t.x, .int .i64 t.y, .int .i64 t.d.t, .int .i64 t.d.n, .int .i64 t.d.e, .int .i64 t.d.s, .int .i64 t.d.w, .int .i64 t.d.b] 33)) from glob_to (w0 := w) ((Below.refl _ _).alloc (Nat.le_refl _) _) hg rfl)
  have S0 := hide (IsS.new (w := w) (s := t) (ty := 33))
  have q0 : Below w.heap.size w (w.alloc (.cells #[.int .i64 t.x, .int .i64 t.y, .int .i64 t.d.t, .int .i64 t.d.n, .int .i64 t.d.e, .int .i64 t.d.s, .int .i64 t.d.w, .int .i64 t.d.b] 33)) := by go_grown
  have HLAB := hide h
  clear hx hxl hg h
  obtain ⟨l0, ⟨a0, a1, a2, a3, a4, a5, a6, a7⟩, -⟩ := S0.out.all
  go_enter Tryd.func30, Tryd.ntmps30
  go_upto_region 1 with (fail)
  generalize w.alloc (.cells #[.int .i64 t.x, .int .i64 t.y, .int .i64 t.d.t, .int .i64 t.d.n, .int .i64 t.d.e, .int .i64 t.d.s, .int .i64 t.d.w, .int .i64 t.d.b] 33) = W0 at HG S0 q0 l0 a0 a1 a2 a3 a4 a5 a6 a7 ⊢
  go_region_held3 (fun w' => w'.cell? ⟨w.heap.size, 0, none⟩ = some (.int .i64 t.x) ∧ w'.cell? ⟨w.heap.size, 1, none⟩ = some (.int .i64 t.y) ∧ w'.cell? ⟨w.heap.size, 2, none⟩ = some (.int .i64 t.d.t) ∧ w'.cell? ⟨w.heap.size, 3, none⟩ = some (.int .i64 t.d.n) ∧ w'.cell? ⟨w.heap.size, 4, none⟩ = some (.int .i64 t.d.e) ∧ w'.cell? ⟨w.heap.size, 5, none⟩ = some (.int .i64 t.d.s) ∧ w'.cell? ⟨w.heap.size, 6, none⟩ = some (.int .i64 t.d.w) ∧ w'.cell? ⟨w.heap.size, 7, none⟩ = some (.int .i64 t.d.b)) (first | (refine ⟨?_, ?_, ?_, ?_, ?_, ?_, ?_, ?_⟩ <;> assumption) | (simp [go_sem, World.cell?_alloc_past]; done))
    (first
      | (go_at_call 26; (refine (HF.out _ hs).mono ?_); rintro e w2 ⟨rfl, hb2⟩; have S2 := isS_to hb2 S0.out rfl; have q2 := below_to hb2 q0 q0.size rfl rfl rfl rfl; have HG2 := hide (glob_to hb2 HG.out rfl); obtain ⟨l2, ⟨b0, b1, b2, b3, b4, b5, b6, b7⟩, -⟩ := S2.all; clear hb2)
      | (go_at_call 39; (refine (HU.out _ hxs HG2.out).mono ?_); rintro e w3 ⟨v3, rfl, hb3⟩; rw [HV.out]; have S3 := isS_to hb3 S2 rfl; have q3 := below_to hb3 q2 q2.size rfl rfl rfl rfl; obtain ⟨l3, ⟨d0, d1, d2, d3, d4, d5, d6, d7⟩, -⟩ := S3.all; clear hb3))
  all_goals
    go_wp2
    go_returns
    exact ⟨rfl, q3⟩
set_option maxHeartbeats 1600000 in
theorem labelsUnder_yes (s : ByteArray) (t : St) (w : World) (hs : s.size ≤ 1048576) (hg : Glob w) (h : (isLab s.data.toList && stL (unlab s.data.toList) t) = true) : Calls Tryd.prog 30 #[.string s, St.v t] w fun e w' => ∃ W H n h g cap, GridOk (unlab s.data.toList) W H n ∧ e = .returned (.tuple #[.slice (some ⟨h, 0, none⟩) H cap, .bool true]) ∧ LabAt w' h g s.data.toList W H ∧ Below w.heap.size w w' := by
  obtain ⟨x, hx, hxl, hxs⟩ := floor_text s hs
  have HF := hide (floorText_any s)
  rw [← hx] at HF
  have HU := hide (rowsUnder_v x t)
  have HV := hide (show (isBd x.data.toList && stL x.data.toList t) = true from by rw [hxl]; exact h)
  have HG := hide (show Glob (w.alloc (.cells #[.int .i64 t.x, .int .i64 t.y, .int .i64 t.d.t, .int .i64 t.d.n, .int .i64 t.d.e, .int .i64 t.d.s, .int .i64 t.d.w, .int .i64 t.d.b] 33)) from glob_to (w0 := w) ((Below.refl _ _).alloc (Nat.le_refl _) _) hg rfl)
  have S0 := hide (IsS.new (w := w) (s := t) (ty := 33))
  have q0 : Below w.heap.size w (w.alloc (.cells #[.int .i64 t.x, .int .i64 t.y, .int .i64 t.d.t, .int .i64 t.d.n, .int .i64 t.d.e, .int .i64 t.d.s, .int .i64 t.d.w, .int .i64 t.d.b] 33)) := by go_grown
  have HLAB := hide h
  clear hx hxl hg h
  obtain ⟨l0, ⟨a0, a1, a2, a3, a4, a5, a6, a7⟩, -⟩ := S0.out.all
  go_enter Tryd.func30, Tryd.ntmps30
  go_upto_region 1 with (fail)
  generalize w.alloc (.cells #[.int .i64 t.x, .int .i64 t.y, .int .i64 t.d.t, .int .i64 t.d.n, .int .i64 t.d.e, .int .i64 t.d.s, .int .i64 t.d.w, .int .i64 t.d.b] 33) = W0 at HG S0 q0 l0 a0 a1 a2 a3 a4 a5 a6 a7 ⊢
  go_region_held3 (fun w' => w'.cell? ⟨w.heap.size, 0, none⟩ = some (.int .i64 t.x) ∧ w'.cell? ⟨w.heap.size, 1, none⟩ = some (.int .i64 t.y) ∧ w'.cell? ⟨w.heap.size, 2, none⟩ = some (.int .i64 t.d.t) ∧ w'.cell? ⟨w.heap.size, 3, none⟩ = some (.int .i64 t.d.n) ∧ w'.cell? ⟨w.heap.size, 4, none⟩ = some (.int .i64 t.d.e) ∧ w'.cell? ⟨w.heap.size, 5, none⟩ = some (.int .i64 t.d.s) ∧ w'.cell? ⟨w.heap.size, 6, none⟩ = some (.int .i64 t.d.w) ∧ w'.cell? ⟨w.heap.size, 7, none⟩ = some (.int .i64 t.d.b)) (first | (refine ⟨?_, ?_, ?_, ?_, ?_, ?_, ?_, ?_⟩ <;> assumption) | (simp [go_sem, World.cell?_alloc_past]; done))
    (first
      | (go_at_call 26; (refine (HF.out _ hs).mono ?_); rintro e w2 ⟨rfl, hb2⟩; have S2 := isS_to hb2 S0.out rfl; have q2 := below_to hb2 q0 q0.size rfl rfl rfl rfl; have HG2 := hide (glob_to hb2 HG.out rfl); obtain ⟨l2, ⟨b0, b1, b2, b3, b4, b5, b6, b7⟩, -⟩ := S2.all; clear hb2)
      | (go_at_call 39; (refine (HU.out _ hxs HG2.out).mono ?_); rintro e w3 ⟨v3, rfl, hb3⟩; rw [HV.out]; have S3 := isS_to hb3 S2 rfl; have q3 := below_to hb3 q2 q2.size rfl rfl rfl rfl; obtain ⟨l3, ⟨d0, d1, d2, d3, d4, d5, d6, d7⟩, -⟩ := S3.all; clear hb3))
  rw [Bool.and_eq_true] at HLAB
  have HL1 := HLAB.out.1
  have hgr : GridOk (unlab s.data.toList) (width (unlab s.data.toList)) (splitP (unlab s.data.toList)).length (splitP (unlab s.data.toList)).flatten.length := ⟨HL1, rfl, rfl, rfl⟩
  obtain ⟨w0, w7, h0, h7, hn⟩ := grid_facts hgr
  obtain ⟨he, hH, hfl⟩ := lab_facts hgr
  have HGR := hide hgr
  clear hgr hfl HL1
  generalize width (unlab s.data.toList) = W at he w0 w7 hn HGR
  generalize (splitP (unlab s.data.toList)).length = H at hH h0 h7 hn HGR
  generalize (splitP (unlab s.data.toList)).flatten.length = n at hn HGR
  have HE := hide he
  have HH := hide hH
  clear he hH hn
  all_goals
    obtain ⟨cap, W4, hcv, hcap, B4, q4, hz⟩ := bytes_new s w3
    have q5 := below_to q4 q3 q3.size rfl rfl rfl rfl
    have HB4 := hide B4
    clear B4 q4 hz
    go_wp2_with fail
    refine (cutRows_any s.data.toList W H HE.out HH.out ⟨w0, w7⟩ ⟨h0, h7⟩ _ s.size cap (by simp) hcap _ HB4.out).mono ?_
    rintro e w5 ⟨g, cap', rfl, O5, hb5⟩
    have HLA := hide (labAt_new (bufAt_to hb5 HB4.out rfl) O5)
    have q6 := below_after q5 hb5 q5.size
    clear O5 hb5
    go_wp2
    go_returns
    exact ⟨W, H, n, g, _, cap', HGR.out, rfl, HLA.out, q6⟩
end Go.Proofs.YtnpnhnkpnhcebaaDoor
