/- The contract of spec.wyTo. -/
import Derived.Test.YthdkhikkdcjifaaDoorWyT
namespace Go.Proofs.YthdkhikkdcjifaaDoor
set_option maxRecDepth 100000
set_option linter.all false
open Go.RowKit Go.Maps Go.ChangeMaps

def dtV (s : ByteArray) (t u : St) : Int := (ndB s t u).elim 0 (fun q => (q.far : Int))
def cntN (q : Nd) : Int := wrap64 (q.ws.length : Int)
theorem cntN_eq (q : Nd) : wrap64 (q.ws.length : Int) = cntN q := by unfold cntN; with_reducible rfl
theorem rtOf_count (q : Nd) : (rtOf q).count = cntN q := by
  unfold rtOf cntN
  with_reducible rfl
def csV (s : ByteArray) (t u : St) : Int := (ndB s t u).elim 0 cntN
theorem csV_some {s : ByteArray} {t u : St} {q : Nd} (h : ndB s t u = some q) : csV s t u = cntN q := by unfold csV; rw [h, Option.elim_some]
theorem dtV_some {s : ByteArray} {t u : St} {q : Nd} (h : ndB s t u = some q) : dtV s t u = (q.far : Int) := by unfold dtV; rw [h, Option.elim_some]
def irB (s : ByteArray) (t u : St) : Bool := askB s t && stL s.data.toList u
/-- A place as a number, -1 for none. -/
def plF : Option Nat → Int
  | some i => (i : Int)
  | none => -1
theorem fndW_pl (u : St) (L : List WN) (M : List Nd) (h : L.map coreW = M.map coreN) : fndW L u 0 = plF (findI M u) := by
  rw [fndW_findI u L M 0 h]
  generalize findI M u = fo
  cases fo with
  | none => rfl
  | some i => simp [plF]
/-- What spec.wyTo hands back. -/
def ToWy (s : ByteArray) (t u : St) (w : World) (e : Ending) (w' : World) : Prop :=
  (ndB s t u = none ∧ irB s t u = false ∧ e = .returned (.tuple #[.slice none 0 0, .int .i64 (-1), .bool false]) ∧ Below w.heap.size w w') ∨
  (∃ (g1 c1 : Nat) (L : List WN) (at_ : Int), 0 < L.length ∧ irB s t u = true ∧ L.map coreW = (wysB s t).map coreN ∧ at_ = plF (findI (wysB s t) u) ∧ e = .returned (.tuple #[.slice (some ⟨g1, 0, none⟩) L.length c1, .int .i64 at_, .bool true]) ∧ w'.ownsRow (w.heap.size + 2) 77 16 (.slice (some ⟨g1, 0, none⟩) L.length c1) L.length (wnL L) ∧ Below w.heap.size w w')
theorem nd_off {s : ByteArray} {t u : St} (h : irB s t u = false) : ndB s t u = none := by
  unfold ndB
  cases ha : askB s t
  · rfl
  · rw [if_pos rfl]
    unfold irB at h
    rw [ha, Bool.true_and] at h
    cases hf : findI (wysB s t) u with
    | none => rfl
    | some i =>
      obtain ⟨q, hq, hqs⟩ := findI_some hf
      have := wysB_on ha q (List.mem_of_getElem? hq)
      rw [hqs, h] at this
      cases this
set_option maxHeartbeats 3200000 in
theorem wyTo_any (s : ByteArray) (t u : St) (w : World) (hs : s.size ≤ 1048576) : Calls Tryd.prog 49 #[.string s, St.v t, St.v u] w (ToWy s t u w) := by
  have S0 : IsS ((w.alloc (.cells #[.int .i64 t.x, .int .i64 t.y, .int .i64 t.d.t, .int .i64 t.d.n, .int .i64 t.d.e, .int .i64 t.d.s, .int .i64 t.d.w, .int .i64 t.d.b] 30)).alloc (.cells #[.int .i64 u.x, .int .i64 u.y, .int .i64 u.d.t, .int .i64 u.d.n, .int .i64 u.d.e, .int .i64 u.d.s, .int .i64 u.d.w, .int .i64 u.d.b] 30)) w.heap.size t 30 := (IsS.new (s := t)).alloc _
  have T0 : IsS ((w.alloc (.cells #[.int .i64 t.x, .int .i64 t.y, .int .i64 t.d.t, .int .i64 t.d.n, .int .i64 t.d.e, .int .i64 t.d.s, .int .i64 t.d.w, .int .i64 t.d.b] 30)).alloc (.cells #[.int .i64 u.x, .int .i64 u.y, .int .i64 u.d.t, .int .i64 u.d.n, .int .i64 u.d.e, .int .i64 u.d.s, .int .i64 u.d.w, .int .i64 u.d.b] 30)) (w.alloc (.cells #[.int .i64 t.x, .int .i64 t.y, .int .i64 t.d.t, .int .i64 t.d.n, .int .i64 t.d.e, .int .i64 t.d.s, .int .i64 t.d.w, .int .i64 t.d.b] 30)).heap.size u 30 := IsS.new
  simp only [World.size_alloc] at T0
  have q0 : Below w.heap.size w ((w.alloc (.cells #[.int .i64 t.x, .int .i64 t.y, .int .i64 t.d.t, .int .i64 t.d.n, .int .i64 t.d.e, .int .i64 t.d.s, .int .i64 t.d.w, .int .i64 t.d.b] 30)).alloc (.cells #[.int .i64 u.x, .int .i64 u.y, .int .i64 u.d.t, .int .i64 u.d.n, .int .i64 u.d.e, .int .i64 u.d.s, .int .i64 u.d.w, .int .i64 u.d.b] 30)) := by go_grown
  cases ha : askB s t
  · have H := hide ha
    have HI := hide (show irB s t u = false from by unfold irB; rw [ha]; rfl)
    have HN := hide (nd_off HI.out)
    clear ha
    obtain ⟨l0, ⟨c0, c1, c2, c3, c4, c5, c6, c7⟩, -⟩ := S0.all
    obtain ⟨m0, ⟨d0, d1, d2, d3, d4, d5, d6, d7⟩, -⟩ := T0.all
    go_enter Tryd.func49, Tryd.ntmps49
    go_wp2_with fail
    refine (boAsked_no s t _ hs H.out).mono ?_
    rintro e w1 ⟨W, Hh, p, m, c, rfl, hb1⟩
    have q1 := below_to hb1 q0 q0.size rfl rfl rfl rfl
    clear l0 c0 c1 c2 c3 c4 c5 c6 c7 m0 d0 d1 d2 d3 d4 d5 d6 d7
    go_wp2
    go_returns
    exact .inl ⟨HN.out, HI.out, rfl, q1.alloc q1.size _⟩
  · have H := hide ha
    have HST := hide (show irB s t u = stL s.data.toList u from by unfold irB; rw [ha]; rfl)
    clear ha
    obtain ⟨l0, ⟨c0, c1, c2, c3, c4, c5, c6, c7⟩, -⟩ := S0.all
    obtain ⟨m0, ⟨d0, d1, d2, d3, d4, d5, d6, d7⟩, -⟩ := T0.all
    go_enter Tryd.func49, Tryd.ntmps49
    go_wp2_with fail
    refine (boAsked_yes s t _ hs H.out).mono ?_
    rintro e w1 ⟨W, Hh, n, g, cap, hG, rfl, hA, hb1⟩
    have HG := hide hG
    have q1 := below_to hb1 q0 q0.size rfl rfl rfl rfl
    have S1 := (isS_to hb1 S0 rfl).alloc (.cells #[.int .i64 (W : Int), .int .i64 (Hh : Int), .slice (some ⟨g, 0, none⟩) n cap] 59)
    have T1 := (isS_to hb1 T0 rfl).alloc (.cells #[.int .i64 (W : Int), .int .i64 (Hh : Int), .slice (some ⟨g, 0, none⟩) n cap] 59)
    have G1 := IsG.new (w := w1) (x := (W : Int)) (y := (Hh : Int)) (v := .slice (some ⟨g, 0, none⟩) n cap)
    have A1 : BytesAt (w1.alloc (.cells #[.int .i64 (W : Int), .int .i64 (Hh : Int), .slice (some ⟨g, 0, none⟩) n cap] 59)) g (splitP s.data.toList).flatten := bytesAt_to ((Below.refl _ _).alloc (Nat.le_refl _) _) hA rfl
    have q2 := q1.alloc q1.size (.cells #[.int .i64 (W : Int), .int .i64 (Hh : Int), .slice (some ⟨g, 0, none⟩) n cap] 59)
    have HA := hide A1
    clear l0 c0 c1 c2 c3 c4 c5 c6 c7 m0 d0 d1 d2 d3 d4 d5 d6 d7
    clear hb1 S0 T0 q0 q1 hA hG A1
    obtain ⟨l0, ⟨c0, c1, c2, c3, c4, c5, c6, c7⟩, -⟩ := S1.all
    obtain ⟨m0, ⟨d0, d1, d2, d3, d4, d5, d6, d7⟩, -⟩ := T1.all
    obtain ⟨l1, ⟨b0, b1, b2⟩, -⟩ := G1.all
    go_wp2_with fail
    refine (boState_any s.data.toList W Hh n HG.out g cap u _ HA.out).mono ?_
    rintro e w3 ⟨rfl, hb3⟩
    have q3 := below_to hb3 q2 q2.size rfl rfl rfl rfl
    have S3 := isS_to hb3 S1 rfl
    have T3 := isS_to hb3 T1 rfl
    have G3 := isG_to hb3 G1 rfl
    have HA3 := hide (bytesAt_to hb3 HA.out rfl)
    clear l0 c0 c1 c2 c3 c4 c5 c6 c7 m0 d0 d1 d2 d3 d4 d5 d6 d7
    clear hb3 S1 T1 G1 q2 l1 b0 b1 b2
    generalize hst : stL s.data.toList u = st at HST
    have HSTL := hide hst
    clear hst
    cases st
    · have HN := hide (nd_off HST.out)
      go_wp2
      go_returns
      exact .inl ⟨HN.out, HST.out, rfl, q3⟩
    · obtain ⟨l0, ⟨c0, c1, c2, c3, c4, c5, c6, c7⟩, -⟩ := S3.all
      obtain ⟨l1, ⟨b0, b1, b2⟩, -⟩ := G3.all
      go_wp2_with fail
      refine (wyAllB s t H.out W Hh n g cap HG.out _ HA3.out).mono ?_
      rintro e w4 ⟨v, L, rfl, hL, hown, hb4⟩
      have q4 := below_to hb4 q3 q3.size rfl rfl rfl rfl
      have T4 := isS_to hb4 T3 rfl
      have hlen : L.length = (wysB s t).length := core_len hL
      have hpos : 0 < L.length := by
        rw [hlen]
        exact (List.getElem?_eq_some_iff.1 (runW_ok (flAt s.data.toList) t 1000).head).1
      have hl9 : L.length ≤ 1000 := by have := wysB_len H.out; omega
      obtain ⟨g1, c1', rfl, -, -⟩ := own_form hown hpos
      have HO := hide (own_mono hown (show w.heap.size + 2 ≤ w3.heap.size + 2 by have := q3.size; omega))
      have HL := hide hL
      have HP := hide hpos
      have HFN := hide (fndW_pl u L (wysB s t) hL)
      have HOW := hide hown
      clear hlen hpos hL hb4 hown S3 G3 c0 c1 c2 c3 c4 c5 c6 c7 l0 b0 b1 b2 l1
      obtain ⟨m0, ⟨d0, d1, d2, d3, d4, d5, d6, d7⟩, -⟩ := T4.all
      go_wp2_with fail
      refine (wyFind_any _ g1 c1' L u hl9 _ HOW.out).mono ?_
      rintro e w5 ⟨rfl, hb5⟩
      have q5 := below_to hb5 q4 q4.size rfl rfl rfl rfl
      have HO5 := hide (own_to hb5 HO.out rfl)
      generalize fndW L u 0 = at_ at HFN ⊢
      clear hb5 m0 d0 d1 d2 d3 d4 d5 d6 d7
      clear hl9
      go_wp2
      go_returns
      exact .inr ⟨g1, c1', L, at_, HP.out, HST.out, HL.out, HFN.out, rfl, HO5.out, q5⟩
end Go.Proofs.YthdkhikkdcjifaaDoor
