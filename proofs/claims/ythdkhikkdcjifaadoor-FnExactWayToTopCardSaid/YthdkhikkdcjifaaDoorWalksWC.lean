/- WayToCell, whole: the model's side (the word to the first state at a cell), entries of a map that go while it is ranged over, keepCell, bestOfRolls, routesAt, the walks of the law. Merged of WcS, WcC, WcN, WcK, WcB, WcU, WcV. -/
import Derived.Test.YthdkhikkdcjifaaDoorWyT
import Derived.Test.YthdkhikkdcjifaaDoorWalksQ
import Derived.Test.YthdkhikkdcjifaaDoorCardKit
import Derived.Test.YthdkhikkdcjifaaDoorStateTo
namespace Go.Proofs.YthdkhikkdcjifaaDoor
set_option maxRecDepth 100000
set_option linter.all false
open Go.RowKit Go.Maps Go.ChangeMaps

theorem diDirsW_any (w : World) : Calls Tryd.prog 80 #[] w fun e w' => e = .returned (.string ⟨#[110, 101, 115, 119]⟩) ∧ w' = w := by
  go_enter Tryd.func80, Tryd.ntmps80
  go_wp2
  go_ret
  exact ⟨rfl, rfl⟩
theorem addL (c : UInt8) (u : List UInt8) (h : u.length ≤ 1000) (wx : World) : (Op.stringOp .add ⟨#[c]⟩ ⟨u.toArray⟩).run Tryd.prog wx = .ok (.string ⟨(c :: u).toArray⟩) wx := by
  have e : (⟨#[c]⟩ : ByteArray) ++ ⟨u.toArray⟩ = ⟨(c :: u).toArray⟩ := by
    apply ByteArray.ext
    simp
  rw [run_string_add_sum wx _ _ (by simp [ByteArray.size]; omega), e]
set_option maxHeartbeats 3200000 in
theorem wyWord_any (B g1 c1 : Nat) (L : List WN) (M : List Nd) (fit : St → Bool) (s0 : St) (n : Nat) (hok : OkW fit s0 n 0 M) (hcore : L.map coreW = M.map coreN) (hl : L.length ≤ 1000) (i : Nat) (q : Nd) (hq : M[i]? = some q) (w : World) (hr : w.ownsRow B 77 16 (.slice (some ⟨g1, 0, none⟩) L.length c1) L.length (wnL L)) :
    Calls Tryd.prog 52 #[.slice (some ⟨g1, 0, none⟩) L.length c1, .int .i64 (i : Int)] w fun e w' => e = .returned (.string ⟨(wdB q.hd).toArray⟩) ∧ Below w.heap.size w w' := by
  have HOK := hide hok
  have HC := hide hcore
  have HLM := hide (core_len hcore)
  have HR := hide hr
  have HQ := hide (show q.hd.length ≤ 1000 from by
    have h1 := hok.far_ix i i q (Nat.le_refl _) hq
    have h2 := (List.getElem?_eq_some_iff.1 hq).1
    have h3 := core_len hcore
    unfold Nd.far at h1
    omega)
  obtain ⟨hd, hhd⟩ : ∃ hd, hd = q.hd := ⟨_, rfl⟩
  rw [← hhd] at HQ ⊢
  have HHD := hide hhd
  have HQI := hide hq
  clear hok hcore hr hhd hq
  go_enter Tryd.func52, Tryd.ntmps52
  go_wp2_with fail
  go_loopw [1, 5] (fun a s wr => ∃ (m : Nat) (q' : Nd) (u : W4), a = .int .i64 (m : Int) ∧ Hid (M[m]? = some q') ∧ Hid (hd = q'.hd ++ u) ∧ s = .string ⟨(wdB u).toArray⟩ ∧ Below w.heap.size w wr) (fun a _ _ => (intOf a).toNat)
  case atStart => exact ⟨i, q, [], rfl, HQI.out, by show hd = q.hd ++ []; rw [List.append_nil]; exact HHD.out, rfl, Below.refl _ _⟩
  case round =>
    obtain ⟨m, q', u, rfl, hm, hu, rfl, hB⟩ := hrel
    have hml : m < L.length := by have := (List.getElem?_eq_some_iff.1 hm.out).1; have := HLM.out; omega
    have hx : L[m]? = some (L[m]'hml) := List.getElem?_eq_getElem hml
    generalize L[m]'hml = x at hx
    have HCX := hide (core_at HC.out hx hm.out)
    have R1 := own_to hB HR.out rfl
    have hmi : (m : Int) < (L.length : Int) := by omega
    obtain ⟨l0, a0, a1, a2, a3, a4, a5, a6, a7, a8, a9, a10, a11, a12, a13, a14, a15⟩ := row_nd R1 hx
    clear a12 a13 a14 a15 a0 a1 a2 a3 a4 a5 a6 a7 a8 a9
    by_cases h0 : m = 0
    · have hb : x.bf = -1 := by
        have h1 := HOK.out.head
        have h2 := hm.out
        rw [h0, h1] at h2
        have h3 := HCX.out.2.2.2.1
        rw [← Option.some.inj h2] at h3
        exact h3
      have hres : hd = u := by
        have h1 := HOK.out.head
        have h2 := hm.out
        rw [h0, h1] at h2
        have h3 := hu.out
        rw [← Option.some.inj h2] at h3
        exact h3
      have HRES := hide hres
      rw [hb] at a10
      clear hres hb h0 hx
      go_wp2
      go_returns
      exact ⟨by rw [HRES.out]; rfl, hB⟩
    · obtain ⟨k', p, j', h1, h2, h3, h4, h5, _⟩ := HOK.out.par m q' (by omega) hm.out
      have hb : x.bf = (k' : Int) := HCX.out.2.2.2.1.trans h1
      have hdr : x.dr = (j'.val : Int) := HCX.out.2.2.2.2.trans h2
      rw [hb] at a10
      rw [hdr] at a11
      have HP := hide h4
      have HH := hide h5
      have hjl := j'.isLt
      have hsl := dslR hjl
      have w1q : IntKind.i64.wrap ((j'.val : Int) + 1) = (j'.val : Int) + 1 := IntWalk.i64_in _ (by omega)
      have hul : u.length ≤ 1000 := by
        have h6 := HQ.out
        have h7 := hu.out
        rw [h7, List.length_append] at h6
        omega
      have hadd := addL (dirC j'.val) (wdB u) (by rw [wdB_len]; exact hul)
      have HNEW := hide (show hd = p.hd ++ (j' :: u) from by rw [hu.out, h5, List.append_assoc]; rfl)
      have HWD := hide (show (⟨(dirC j'.val :: wdB u).toArray⟩ : ByteArray) = ⟨(wdB (j' :: u)).toArray⟩ from rfl)
      have hk0 : (0 : Int) ≤ (k' : Int) := by omega
      have hkm : k' < m := h3
      generalize j'.val = jv at hjl hsl w1q hadd a11 HWD
      clear h1 h2 h3 h4 h5 hb hdr hx h0 hul
      go_wp2_with fail
      go_quiet ((go_at_call 80; refine Calls.quiet_of_same (diDirsW_any _)))
      rw [HWD.out]
      have hB2 := bDrewN hB nq
      go_wp2
      go_roundw
      case rel => exact ⟨k', p, j' :: u, rfl, HP.out, HNEW.out, rfl, hB2⟩
      case measure => simp [intOf]; omega
/-- Is a state at a cell, with a face on top, if one is asked for? -/
def wcP (a b top : Int) (s : St) : Bool := decide (s.x = a) && (decide (s.y = b) && (decide (top < 0) || decide (s.d.t = top)))
def wcQ (a b top : Int) (q : Nd) : Bool := wcP a b top q.s && decide (q.far ≤ 60)
def wcR (a b top : Int) (M : List Nd) : Option Nd := M.find? (wcQ a b top)
def wcS (R : Option Nd) : ByteArray := R.elim ⟨#[]⟩ (fun q => ⟨(wdB q.hd).toArray⟩)
theorem wcR_step {a b top : Int} {M : List Nd} {k : Nat} {q : Nd} (h : M[k]? = some q) : wcR a b top (M.drop k) = if wcQ a b top q = true then some q else wcR a b top (M.drop (k + 1)) := by
  have hl := (List.getElem?_eq_some_iff.1 h).1
  have hd : M.drop k = q :: M.drop (k + 1) := by rw [List.drop_eq_getElem_cons hl, (List.getElem?_eq_some_iff.1 h).2]
  unfold wcR
  rw [hd, List.find?_cons]
  cases wcQ a b top q <;> simp
set_option maxHeartbeats 3200000 in
theorem wyFirst_any (B g1 c1 : Nat) (L : List WN) (M : List Nd) (fit : St → Bool) (s0 : St) (m : Nat) (hok : OkW fit s0 m 0 M) (hcore : L.map coreW = M.map coreN) (hl : L.length ≤ 1000) (a b top : Int) (w : World) (hr : w.ownsRow B 77 16 (.slice (some ⟨g1, 0, none⟩) L.length c1) L.length (wnL L)) : Calls Tryd.prog 55 #[.slice (some ⟨g1, 0, none⟩) L.length c1, .int .i64 a, .int .i64 b, .int .i64 top] w fun e w' => e = .returned (.tuple #[.string (wcS (wcR a b top M)), .bool (wcR a b top M).isSome]) ∧ Below w.heap.size w w' := by
  have HWW := hide (fun (i : Nat) (q : Nd) (hq : M[i]? = some q) (wx : World) (hx : wx.ownsRow B 77 16 (.slice (some ⟨g1, 0, none⟩) L.length c1) L.length (wnL L)) => wyWord_any B g1 c1 L M fit s0 m hok hcore hl i q hq wx hx)
  have HC := hide hcore
  have HR := hide hr
  have HLM := hide (core_len hcore)
  obtain ⟨R, hR⟩ : ∃ R, R = wcR a b top M := ⟨_, rfl⟩
  rw [← hR]
  have HR0 := hide (show R = wcR a b top (M.drop 0) from by rw [hR]; rfl)
  clear hr hcore hR hok
  go_enter Tryd.func55, Tryd.ntmps55
  go_wp2_with fail
  go_loopw [14] (fun i wr => ∃ k : Nat, k ≤ L.length ∧ i = .int .i64 (k : Int) ∧ Hid (R = wcR a b top (M.drop k)) ∧ Below w.heap.size w wr) (fun i _ => L.length - (intOf i).toNat)
  case atStart => exact ⟨0, Nat.zero_le _, rfl, HR0, Below.refl _ _⟩
  case round =>
    obtain ⟨k, hk, rfl, hrs, hB⟩ := hrel
    have R1 := own_to (w0 := w) hB HR.out rfl
    by_cases hlt : k < L.length
    · have hki : (k : Int) < (L.length : Int) := by omega
      have hx : L[k]? = some (L[k]'hlt) := List.getElem?_eq_getElem hlt
      generalize L[k]'hlt = x at hx
      have hm : M[k]? = some (M[k]'(by have := HLM.out; omega)) := List.getElem?_eq_getElem (by have := HLM.out; omega)
      generalize M[k]'(by have := HLM.out; omega) = qm at hm
      obtain ⟨c1', c2', -, -, -⟩ := core_at HC.out hx hm
      have hQ : wcQ a b top qm = (decide (x.s.x = a) && (decide (x.s.y = b) && (decide (top < 0) || decide (x.s.d.t = top))) && decide (x.far ≤ 60)) := by rw [c1', c2']; rfl
      have HS := hide (wcR_step (a := a) (b := b) (top := top) hm)
      have HM := hide hm
      obtain ⟨l0, a0, a1, a2, a3, a4, a5, a6, a7, a8, a9, a10, a11, a12, a13, a14, a15⟩ := row_nd R1 hx
      have R2 := R1.alloc (.cells #[.int .i64 x.s.x, .int .i64 x.s.y, .int .i64 x.s.d.t, .int .i64 x.s.d.n, .int .i64 x.s.d.e, .int .i64 x.s.d.s, .int .i64 x.s.d.w, .int .i64 x.s.d.b, .int .i64 (x.far : Int), .int .i64 x.cnt, .int .i64 x.bf, .int .i64 x.dr, .int .i64 (x.nx 0), .int .i64 (x.nx 1), .int .i64 (x.nx 2), .int .i64 (x.nx 3)] 77)
      have hB2 : Below w.heap.size w (wr.alloc (.cells #[.int .i64 x.s.x, .int .i64 x.s.y, .int .i64 x.s.d.t, .int .i64 x.s.d.n, .int .i64 x.s.d.e, .int .i64 x.s.d.s, .int .i64 x.s.d.w, .int .i64 x.s.d.b, .int .i64 (x.far : Int), .int .i64 x.cnt, .int .i64 x.bf, .int .i64 x.dr, .int .i64 (x.nx 0), .int .i64 (x.nx 1), .int .i64 (x.nx 2), .int .i64 (x.nx 3)] 77)) := hB.alloc hB.size _
      have q2 := hB2
      have HQH := hide hQ
      clear hQ
      clear hx hm R1 hB c1' c2' HLM HC
      by_cases h1 : x.s.x = a
      · have dh1 := hide (show decide (x.s.x = a) = true from decide_eq_true h1)
        have eh1 : (x.s.x == a) = true := by simp [h1]
        clear h1
        by_cases h2 : x.s.y = b
        · have dh2 := hide (show decide (x.s.y = b) = true from decide_eq_true h2)
          have eh2 : (x.s.y == b) = true := by simp [h2]
          clear h2
          by_cases h3 : top < 0
          · have dh3 := hide (show decide (top < 0) = true from decide_eq_true h3)
            by_cases h4 : x.far ≤ 60
            · have d4 := hide (show decide (x.far ≤ 60) = true from decide_eq_true h4)
              have e4 : (x.far : Int) ≤ 60 := by omega
              clear h4
              have HRES := hide (show R = some qm from by rw [hrs.out, HS.out, if_pos (by rw [HQH.out]; simp [dh1.out, dh2.out, dh3.out, d4.out])])
              have HO := hide R2
              clear R2
              go_wp2_with (go_at_call 52; fail)
              refine (HWW.out k qm HM.out _ HO.out).mono ?_
              rintro e w2 ⟨rfl, hb2⟩
              have q3 := below_to hb2 q2 q2.size rfl rfl rfl rfl
              go_wp2
              go_returns
              exact ⟨by rw [HRES.out]; rfl, q3⟩
            · have d4 := hide (show decide (x.far ≤ 60) = false from decide_eq_false h4)
              have e4 : ¬ ((x.far : Int) ≤ 60) := by omega
              clear h4
              have HRES := hide (show R = wcR a b top (M.drop (k + 1)) from by rw [hrs.out, HS.out, if_neg (by rw [HQH.out]; simp [dh1.out, dh2.out, dh3.out, d4.out])])
              go_wp2
              go_roundw
              case rel => exact ⟨k + 1, by omega, by go_num, HRES.out, hB2⟩
              case measure => simp [intOf]; omega
          · have dh3 := hide (show decide (top < 0) = false from decide_eq_false h3)
            by_cases h5 : x.s.d.t = top
            · have dh5 := hide (show decide (x.s.d.t = top) = true from decide_eq_true h5)
              have eh5 : (x.s.d.t == top) = true := by simp [h5]
              clear h5
              by_cases h4 : x.far ≤ 60
              · have d4 := hide (show decide (x.far ≤ 60) = true from decide_eq_true h4)
                have e4 : (x.far : Int) ≤ 60 := by omega
                clear h4
                have HRES := hide (show R = some qm from by rw [hrs.out, HS.out, if_pos (by rw [HQH.out]; simp [dh1.out, dh2.out, dh3.out, dh5.out, d4.out])])
                have HO := hide R2
                clear R2
                go_wp2_with (go_at_call 52; fail)
                refine (HWW.out k qm HM.out _ HO.out).mono ?_
                rintro e w2 ⟨rfl, hb2⟩
                have q3 := below_to hb2 q2 q2.size rfl rfl rfl rfl
                go_wp2
                go_returns
                exact ⟨by rw [HRES.out]; rfl, q3⟩
              · have d4 := hide (show decide (x.far ≤ 60) = false from decide_eq_false h4)
                have e4 : ¬ ((x.far : Int) ≤ 60) := by omega
                clear h4
                have HRES := hide (show R = wcR a b top (M.drop (k + 1)) from by rw [hrs.out, HS.out, if_neg (by rw [HQH.out]; simp [dh1.out, dh2.out, dh3.out, dh5.out, d4.out])])
                go_wp2
                go_roundw
                case rel => exact ⟨k + 1, by omega, by go_num, HRES.out, hB2⟩
                case measure => simp [intOf]; omega
            · have dh5 := hide (show decide (x.s.d.t = top) = false from decide_eq_false h5)
              have eh5 : (x.s.d.t == top) = false := by simp [h5]
              clear h5
              have HRES := hide (show R = wcR a b top (M.drop (k + 1)) from by rw [hrs.out, HS.out, if_neg (by rw [HQH.out]; simp [dh1.out, dh2.out, dh3.out, dh5.out, Bool.false_and, Bool.and_false, Bool.or_false, Bool.true_and])])
              go_wp2
              go_roundw
              case rel => exact ⟨k + 1, by omega, by go_num, HRES.out, hB2⟩
              case measure => simp [intOf]; omega
        · have dh2 := hide (show decide (x.s.y = b) = false from decide_eq_false h2)
          have eh2 : (x.s.y == b) = false := by simp [h2]
          clear h2
          have HRES := hide (show R = wcR a b top (M.drop (k + 1)) from by rw [hrs.out, HS.out, if_neg (by rw [HQH.out]; simp [dh1.out, dh2.out, Bool.false_and, Bool.and_false])])
          go_wp2
          go_roundw
          case rel => exact ⟨k + 1, by omega, by go_num, HRES.out, hB2⟩
          case measure => simp [intOf]; omega
      · have dh1 := hide (show decide (x.s.x = a) = false from decide_eq_false h1)
        have eh1 : (x.s.x == a) = false := by simp [h1]
        clear h1
        have HRES := hide (show R = wcR a b top (M.drop (k + 1)) from by rw [hrs.out, HS.out, if_neg (by rw [HQH.out]; simp [dh1.out, Bool.false_and])])
        go_wp2
        go_roundw
        case rel => exact ⟨k + 1, by omega, by go_num, HRES.out, hB2⟩
        case measure => simp [intOf]; omega
    · obtain rfl : k = L.length := by omega
      have HRES := hide (show R = none from by rw [hrs.out, List.drop_eq_nil_of_le (by have := HLM.out; omega)]; rfl)
      go_wp2
      go_returns
      exact ⟨by rw [HRES.out]; rfl, hB⟩

def wcB (s : ByteArray) (t : St) (a b : Int) : Bool := askB s t && inL s.data.toList a b
/-- What wyCell hands back. -/
def ToCell (s : ByteArray) (t : St) (a b : Int) (w : World) (e : Ending) (w' : World) : Prop :=
  (wcB s t a b = false ∧ e = .returned (.tuple #[.slice none 0 0, .bool false]) ∧ Below w.heap.size w w') ∨
  (∃ g1 c1 L, wcB s t a b = true ∧ L.map coreW = (wysB s t).map coreN ∧ e = .returned (.tuple #[.slice (some ⟨g1, 0, none⟩) L.length c1, .bool true]) ∧ w'.ownsRow w.heap.size 77 16 (.slice (some ⟨g1, 0, none⟩) L.length c1) L.length (wnL L) ∧ Below w.heap.size w w')
set_option maxHeartbeats 3200000 in
theorem wyCell_any (s : ByteArray) (t : St) (a b : Int) (w : World) (hs : s.size ≤ 1048576) : Calls Tryd.prog 53 #[.string s, St.v t, .int .i64 a, .int .i64 b] w (ToCell s t a b w) := by
  unfold ToCell
  have S0 : IsS (w.alloc (.cells #[.int .i64 t.x, .int .i64 t.y, .int .i64 t.d.t, .int .i64 t.d.n, .int .i64 t.d.e, .int .i64 t.d.s, .int .i64 t.d.w, .int .i64 t.d.b] 30)) w.heap.size t 30 := IsS.new
  have q0 : Below w.heap.size w (w.alloc (.cells #[.int .i64 t.x, .int .i64 t.y, .int .i64 t.d.t, .int .i64 t.d.n, .int .i64 t.d.e, .int .i64 t.d.s, .int .i64 t.d.w, .int .i64 t.d.b] 30)) := by go_grown
  cases h : askB s t
  · have H := hide h
    have HX := hide (show wcB s t a b = false from by unfold wcB; rw [h]; rfl)
    rw [HX.out]
    clear h
    obtain ⟨l0, ⟨c0, c1, c2, c3, c4, c5, c6, c7⟩, -⟩ := S0.all
    go_enter Tryd.func53, Tryd.ntmps53
    go_wp2_with fail
    refine (boAsked_no s t _ hs H.out).mono ?_
    rintro e w1 ⟨W, Hh, p, m, c, rfl, hb1⟩
    have q1 := below_to hb1 q0 q0.size rfl rfl rfl rfl
    go_wp2
    go_returns
    exact .inl ⟨trivial, rfl, q1.alloc q1.size _⟩
  · have H := hide h
    cases hin : inL s.data.toList a b
    all_goals (
      have HI := hide hin
      have HX := hide (show wcB s t a b = inL s.data.toList a b from by unfold wcB; rw [h, Bool.true_and])
      rw [HX.out, HI.out]
      clear h hin
      obtain ⟨l0, ⟨c0, c1, c2, c3, c4, c5, c6, c7⟩, -⟩ := S0.all
      go_enter Tryd.func53, Tryd.ntmps53
      go_wp2_with fail
      refine (boAsked_yes s t _ hs H.out).mono ?_
      rintro e w1 ⟨W, Hh, n, g, cap, hG, rfl, hA, hb1⟩
      have HG := hide hG
      have q1 := below_to hb1 q0 q0.size rfl rfl rfl rfl
      have S1 := (isS_to hb1 S0 rfl).alloc (.cells #[.int .i64 (W : Int), .int .i64 (Hh : Int), .slice (some ⟨g, 0, none⟩) n cap] 59)
      have G1 := IsG.new (w := w1) (x := (W : Int)) (y := (Hh : Int)) (v := .slice (some ⟨g, 0, none⟩) n cap)
      have A1 : BytesAt (w1.alloc (.cells #[.int .i64 (W : Int), .int .i64 (Hh : Int), .slice (some ⟨g, 0, none⟩) n cap] 59)) g (splitP s.data.toList).flatten := bytesAt_to ((Below.refl _ _).alloc (Nat.le_refl _) _) hA rfl
      have q2 := q1.alloc q1.size (.cells #[.int .i64 (W : Int), .int .i64 (Hh : Int), .slice (some ⟨g, 0, none⟩) n cap] 59)
      have HA := hide A1
      clear hb1 S0 q0 q1 hA hG A1 c0 c1 c2 c3 c4 c5 c6 c7 l0
      obtain ⟨l0, ⟨c0, c1, c2, c3, c4, c5, c6, c7⟩, -⟩ := S1.all
      obtain ⟨l1, ⟨d0, d1, d2⟩, -⟩ := G1.all
      go_wp2_with (go_at_call 81; fail)
      refine (boCell_any s.data.toList W Hh n HG.out g cap a b _).mono ?_
      rintro e w4 ⟨rfl, hb4⟩
      rw [HI.out]
      have S2 := isS_to hb4 S1 rfl
      have G2 := isG_to hb4 G1 rfl
      have A2 := hide (bytesAt_to hb4 HA.out rfl)
      have q4 := below_to hb4 q2 q2.size rfl rfl rfl rfl
      clear hb4 S1 G1 q2 c0 c1 c2 c3 c4 c5 c6 c7 l0 d0 d1 d2 l1 HA
      obtain ⟨l0, ⟨c0, c1, c2, c3, c4, c5, c6, c7⟩, -⟩ := S2.all
      obtain ⟨l1, ⟨d0, d1, d2⟩, -⟩ := G2.all)
    · go_wp2
      go_returns
      exact .inl ⟨trivial, rfl, q4⟩
    · go_wp2_with fail
      refine (wyAllB s t H.out W Hh n g cap HG.out _ A2.out).mono ?_
      rintro e w3 ⟨v, L, rfl, hL, hown, hb3⟩
      have q3 := below_to hb3 q4 q4.size rfl rfl rfl rfl
      have hlen : L.length = (wysB s t).length := core_len hL
      have hpos : 0 < L.length := by
        rw [hlen]
        exact (List.getElem?_eq_some_iff.1 (runW_ok (flAt s.data.toList) t 1000).head).1
      obtain ⟨g1, c1', rfl, -, -⟩ := own_form hown hpos
      have HOW := hide (own_mono hown (B' := w.heap.size) (by have := q4.size; omega))
      have HCO := hide hL
      clear hlen hpos hL hown hb3
      go_wp2
      go_returns
      exact .inr ⟨g1, c1', L, trivial, HCO.out, rfl, HOW.out, q3⟩

section
variable {w : World} {ops : Array Oper} {rest : List Oper} {o : Oper} {a : Act} {Q : Exit → Act → World → Prop}
theorem wpList_range_N (hg : o.guard = none) (m : Operand) (hop : o.op = Op.range 65 m) (hm : a.eval m = .map none)
    (hK : wpList Tryd.prog ops Q rest (a.put o.dst (.pointer (some ⟨w.heap.size, 0, none⟩))) (w.alloc (.mapIter none 0 #[] 0))) :
    wpList Tryd.prog ops Q (o :: rest) a w := by
  refine wpList_plain hg fun K' hK' => ?_
  have hrun : (Instr.range 65 (.map none)).run Tryd.prog w = .ok (.pointer (some ⟨w.heap.size, 0, none⟩)) (w.alloc (.mapIter none 0 #[] 0)) :=
    run_range_nilMap w _ (Tryd.prog.mapKeyOf 65) (Tryd.prog.mapElemOf 65) (by kernel_rfl)
  unfold Oper.wp
  simp [execOp, hop, hm, hrun, Result.andThen]
  exact hK' _ _ hK
theorem wpList_next_N (hg : o.guard = none) (it : Operand) (hop : o.op = Op.next it false) (w0 : World) (hw : w = w0.alloc (.mapIter none 0 #[] 0)) (hit : a.eval it = .pointer (some ⟨w0.heap.size, 0, none⟩))
    (hK : wpList Tryd.prog ops Q rest (a.put o.dst (.tuple #[.bool false])) w) :
    wpList Tryd.prog ops Q (o :: rest) a w := by
  refine wpList_plain hg fun K' hK' => ?_
  subst hw
  unfold Oper.wp
  simp [execOp, hop, hit, run_next_nilMap, Result.andThen]
  exact hK' _ _ hK
end
theorem RgS.del {w : World} {b r : Nat} {L : List SE} {c : Nat} {seen : List Nat} (h : RgS w b r L c seen) (M : List SE) : RgS (setBlock w b (.map (M.map entS).toArray c)) b r M c seen :=
  ⟨mapR_set h.map, (setB_grown.block r h.rlt (fun e => h.ne (Option.some.inj e))).trans h.it⟩
theorem left_sub {L M : List SE} (h : List.Sublist M L) (seen : List Nat) : (leftOf (M.map entS).toArray seen.toArray).size ≤ (leftOf (L.map entS).toArray seen.toArray).size := by
  unfold leftOf
  simp only [List.filter_toArray', List.size_toArray]
  exact ((h.map entS).filter _).length_le
/-- What is left of a map's entries when those that are not P have gone. -/
structure KeepI (P : St → Bool) (K L : List SE) (seen : List Nat) : Prop where
  sub : List.Sublist L K
  keep : ∀ e ∈ K, P e.1.1 = true → e ∈ L
  gone : ∀ e ∈ L, e.2 ∈ seen → P e.1.1 = true
theorem KeepI.start (P : St → Bool) (K : List SE) : KeepI P K K [] := ⟨List.Sublist.refl _, fun _ h _ => h, fun _ _ h => by cases h⟩
theorem KeepI.stay {P : St → Bool} {K L : List SE} {c : Nat} {seen : List Nat} (h : KeepI P K L seen) (hK : OkL K c) {x : SE} (hx : x ∈ L) (hp : P x.1.1 = true) : KeepI P K L (seen ++ [x.2]) := by
  refine ⟨h.sub, h.keep, fun e he hs => ?_⟩
  rcases List.mem_append.1 hs with hs | hs
  · exact h.gone e he hs
  · rw [born_eq (hK.sub h.sub) he hx (List.mem_singleton.1 hs)]
    exact hp
theorem KeepI.drop {P : St → Bool} {K L : List SE} {c : Nat} {seen : List Nat} (h : KeepI P K L seen) (hK : OkL K c) {j : Nat} {x : SE} (hx : L[j]? = some x) (hp : P x.1.1 = false) : KeepI P K (L.eraseIdx j) (seen ++ [x.2]) := by
  refine ⟨(List.eraseIdx_sublist L j).trans h.sub, fun e he hpe => ?_, fun e he hs => ?_⟩
  · obtain ⟨i, hi⟩ := List.mem_iff_getElem?.1 (h.keep e he hpe)
    refine List.mem_eraseIdx_iff_getElem?.2 ⟨i, fun e1 => ?_, hi⟩
    rw [e1, hx] at hi
    obtain rfl := Option.some.inj hi
    rw [hp] at hpe
    cases hpe
  · obtain ⟨i, hne, hi⟩ := List.mem_eraseIdx_iff_getElem?.1 he
    have hm := List.mem_of_getElem? hi
    rcases List.mem_append.1 hs with hs | hs
    · exact h.gone e hm hs
    · have e1 := born_eq (hK.sub h.sub) hm (List.mem_of_getElem? hx) (List.mem_singleton.1 hs)
      exact absurd ((hK.sub h.sub).at hi hx (by rw [e1])) hne
theorem KeepI.done {P : St → Bool} {K L : List SE} {seen : List Nat} (h : KeepI P K L seen) (ha : ∀ e ∈ L, e.2 ∈ seen) : List.Sublist L K ∧ ∀ e, e ∈ L ↔ e ∈ K ∧ P e.1.1 = true :=
  ⟨h.sub, fun e => ⟨fun he => ⟨h.sub.subset he, h.gone e he (ha e he)⟩, fun he => h.keep e he.1 he.2⟩⟩

def cellP (a b : Int) (s : St) : Bool := decide (s.x = a) && decide (s.y = b)
theorem kp_below {a w w1 : World} {rb : Nat} (h : a.grownBy w (some rb)) (hb : Below w.heap.size w w1) : a.grownBy w1 (some rb) := ⟨hb.os.trans h.os, hb.tape.trans h.tape, hb.output.trans h.output, Nat.le_trans h.size hb.size, fun k hk hne => (hb.block k (Nat.lt_of_lt_of_le hk h.size)).trans (h.block k hk hne)⟩
theorem kp_grown {a w w1 : World} {rb r : Nat} (h : a.grownBy w (some rb)) (hb : w.grownBy w1 (some r)) (hr : a.heap.size ≤ r) : a.grownBy w1 (some rb) := ⟨hb.os.trans h.os, hb.tape.trans h.tape, hb.output.trans h.output, Nat.le_trans h.size hb.size, fun k hk hne => (hb.block k (Nat.lt_of_lt_of_le hk h.size) (fun e => by have := Option.some.inj e; omega)).trans (h.block k hk hne)⟩
theorem kp_setB {a w : World} {rb : Nat} (h : a.grownBy w (some rb)) (o : Obj) : a.grownBy (setBlock w rb o) (some rb) := by
  have hb : w.grownBy (setBlock w rb o) (some rb) := setB_grown
  exact ⟨hb.os.trans h.os, hb.tape.trans h.tape, hb.output.trans h.output, Nat.le_trans h.size hb.size, fun k hk hne => (hb.block k (Nat.lt_of_lt_of_le hk h.size) hne).trans (h.block k hk hne)⟩
structure KpJ (w wr : World) (rb ri : Nat) (P : St → Bool) (K : List SE) (c : Nat) (L : List SE) (seen : List Nat) : Prop where
  rg : RgS wr rb ri L c seen
  kp : KeepI P K L seen
  low : w.heap.size ≤ ri
  grown : w.grownBy wr (some rb)
set_option maxHeartbeats 3200000 in
theorem keepCell_any (rb : Nat) (K : List SE) (c : Nat) (hK : OkL K c) (a b : Int) (w : World) (hm : MapR w rb K c) : Calls Tryd.prog 83 #[.map (some rb), .int .i64 a, .int .i64 b] w fun e w' => e = .returned (.tuple #[]) ∧ ∃ L, MapR w' rb L c ∧ List.Sublist L K ∧ (∀ x, x ∈ L ↔ x ∈ K ∧ cellP a b x.1.1 = true) ∧ w.grownBy w' (some rb) := by
  have HK := hide hK
  clear hK
  go_enter Tryd.func83, Tryd.ntmps83
  go_wp2_with (at_range; refine wpList_range_S rfl _ rfl rb K c rfl hm ?_; intro hrg0)
  have I0 : KpJ w (w.alloc (.mapIter (some rb) c #[] c)) rb w.heap.size (cellP a b) K c K [] := ⟨hrg0, KeepI.start _ _, Nat.le_refl _, kp_below (w := w) ⟨rfl, rfl, rfl, Nat.le_refl _, fun _ _ _ => rfl⟩ ((Below.refl _ _).alloc (Nat.le_refl _) _)⟩
  clear hm hrg0
  generalize w.alloc (.mapIter (some rb) c #[] c) = W1 at I0 ⊢
  obtain ⟨RI, hRI⟩ : ∃ RI, RI = w.heap.size := ⟨_, rfl⟩
  rw [← hRI] at I0 ⊢
  clear hRI
  go_frame
  go_loopw [9] (fun _ wr => ∃ (L : List SE) (seen : List Nat), KpJ w wr rb RI (cellP a b) K c L seen) (fun _ wr => wr.rangeLeft rb RI)
  case atStart => exact ⟨K, [], I0⟩
  case round =>
    clear I0
    obtain ⟨L, seen, hI⟩ := hrel
    have HL := hide (HK.out.sub hI.kp.sub)
    go_wp2_with (at_next; refine wpList_next_S rfl _ rfl rb RI L c seen rfl HL.out hI.rg ?_ ?_)
    · intro hall
      have HD := hide (hI.kp.done (fun e he => hall _ _ _ he))
      have HIH := hide hI
      clear hall hI
      go_wp2
      go_returns
      exact ⟨rfl, L, HIH.out.rg.map, HD.out.1, HD.out.2, HIH.out.grown⟩
    · intro xs xr xi w2 hx hni hrg2 hlt hg2 hs2 hen
      obtain ⟨j, hj⟩ := List.mem_iff_getElem?.1 hx
      have HJ := hide hj
      have HXM := hide hx
      have HKP := hide hI.kp
      have HLOW := hide hI.low
      have HLT := hide (show (leftOf (L.map entS).toArray (seen ++ [xi]).toArray).size < wr.rangeLeft rb RI from by rw [← hrg2.left_eq]; exact hlt)
      have HRG := hide (hrg2.alloc (.cells #[.int .i64 xs.x, .int .i64 xs.y, .int .i64 xs.d.t, .int .i64 xs.d.n, .int .i64 xs.d.e, .int .i64 xs.d.s, .int .i64 xs.d.w, .int .i64 xs.d.b] 30))
      have HGR := hide (kp_below (kp_grown hI.grown hg2 hI.low) ((Below.refl _ w2).alloc (Nat.le_refl _) (.cells #[.int .i64 xs.x, .int .i64 xs.y, .int .i64 xs.d.t, .int .i64 xs.d.n, .int .i64 xs.d.e, .int .i64 xs.d.s, .int .i64 xs.d.w, .int .i64 xs.d.b] 30)))
      have N6 : IsS (w2.alloc (.cells #[.int .i64 xs.x, .int .i64 xs.y, .int .i64 xs.d.t, .int .i64 xs.d.n, .int .i64 xs.d.e, .int .i64 xs.d.s, .int .i64 xs.d.w, .int .i64 xs.d.b] 30)) w2.heap.size xs 30 := IsS.new (s := xs)
      clear hx hni hlt hg2 hs2 hrg2 hj hI
      go_upto_region 3 with (fail)
      clear hen
      generalize w2.alloc (.cells #[.int .i64 xs.x, .int .i64 xs.y, .int .i64 xs.d.t, .int .i64 xs.d.n, .int .i64 xs.d.e, .int .i64 xs.d.s, .int .i64 xs.d.w, .int .i64 xs.d.b] 30) = w3 at N6 HRG HGR ⊢
      generalize w2.heap.size = F at N6 ⊢
      obtain ⟨l6, ⟨a0, a1, a2, a3, a4, a5, a6, a7⟩, -⟩ := N6.all
      by_cases h1 : xs.x = a
      · by_cases h2 : xs.y = b
        · have HP := hide (show cellP a b xs = true from by unfold cellP; simp [h1, h2])
          have e1 : (xs.x != a) = false := by simp [h1]
          have e2 : (xs.y != b) = false := by simp [h2]
          clear h1 h2
          go_wp2
          go_roundw
          case rel => exact ⟨L, seen ++ [xi], HRG.out, HKP.out.stay HK.out HXM.out HP.out, HLOW.out, HGR.out⟩
          case measure => rw [HRG.out.left_eq]; exact HLT.out
        · have HP := hide (show cellP a b xs = false from by unfold cellP; simp [h1, h2])
          have e1 : (xs.x != a) = false := by simp [h1]
          have e2 : (xs.y != b) = true := by simp [h2]
          clear h1 h2
          go_upto_region 4 with (fail)
          go_wp2_with (at_delete; refine wpList_delete_S rfl _ _ rfl rb L c HL.out j ((xs, xr), xi) HJ.out rfl rfl HRG.out.map ?_)
          try go_wp2
          go_roundw
          case rel => exact ⟨_, _, _, _, _, _, _, _, _, _, _, _, _, _, _, _, _, ⟨L.eraseIdx j, seen ++ [xi], HRG.out.del _, HKP.out.drop (HK.out) HJ.out HP.out, HLOW.out, kp_setB HGR.out _⟩, rfl⟩
          case measure => rw [(HRG.out.del (L.eraseIdx j)).left_eq]; exact Nat.lt_of_le_of_lt (left_sub (List.eraseIdx_sublist L j) _) HLT.out
      · have HP := hide (show cellP a b xs = false from by unfold cellP; simp [h1])
        have e1 : (xs.x != a) = true := by simp [h1]
        clear h1
        go_upto_region 4 with (fail)
        go_wp2_with (at_delete; refine wpList_delete_S rfl _ _ rfl rb L c HL.out j ((xs, xr), xi) HJ.out rfl rfl HRG.out.map ?_)
        try go_wp2
        go_roundw
        case rel => exact ⟨_, _, _, _, _, _, _, _, _, _, _, _, _, _, _, _, _, ⟨L.eraseIdx j, seen ++ [xi], HRG.out.del _, HKP.out.drop (HK.out) HJ.out HP.out, HLOW.out, kp_setB HGR.out _⟩, rfl⟩
        case measure => rw [(HRG.out.del (L.eraseIdx j)).left_eq]; exact Nat.lt_of_le_of_lt (left_sub (List.eraseIdx_sublist L j) _) HLT.out

set_option maxHeartbeats 3200000 in
theorem bestRoute_nil (w : World) : Calls Tryd.prog 84 #[.map none] w fun e w' => e = .returned (.tuple #[St.v zeroS, Rt.v zeroR]) ∧ Below w.heap.size w w' := by
  have A0 : IsS (w.alloc (.cells #[.int .i64 0, .int .i64 0, .int .i64 0, .int .i64 0, .int .i64 0, .int .i64 0, .int .i64 0, .int .i64 0] 30)) w.heap.size zeroS 30 := IsS.new (s := zeroS)
  have A1 : IsR ((w.alloc (.cells #[.int .i64 0, .int .i64 0, .int .i64 0, .int .i64 0, .int .i64 0, .int .i64 0, .int .i64 0, .int .i64 0] 30)).alloc (.cells #[.string ⟨#[]⟩, .int .i64 0, .int .i64 0] 73)) (w.alloc (.cells #[.int .i64 0, .int .i64 0, .int .i64 0, .int .i64 0, .int .i64 0, .int .i64 0, .int .i64 0, .int .i64 0] 30)).heap.size zeroR := IsR.new (r := zeroR)
  have A2 : IsS (((w.alloc (.cells #[.int .i64 0, .int .i64 0, .int .i64 0, .int .i64 0, .int .i64 0, .int .i64 0, .int .i64 0, .int .i64 0] 30)).alloc (.cells #[.string ⟨#[]⟩, .int .i64 0, .int .i64 0] 73)).alloc (.cells #[.int .i64 0, .int .i64 0, .int .i64 0, .int .i64 0, .int .i64 0, .int .i64 0, .int .i64 0, .int .i64 0] 30)) ((w.alloc (.cells #[.int .i64 0, .int .i64 0, .int .i64 0, .int .i64 0, .int .i64 0, .int .i64 0, .int .i64 0, .int .i64 0] 30)).alloc (.cells #[.string ⟨#[]⟩, .int .i64 0, .int .i64 0] 73)).heap.size zeroS 30 := IsS.new (s := zeroS)
  have A3 : IsR ((((w.alloc (.cells #[.int .i64 0, .int .i64 0, .int .i64 0, .int .i64 0, .int .i64 0, .int .i64 0, .int .i64 0, .int .i64 0] 30)).alloc (.cells #[.string ⟨#[]⟩, .int .i64 0, .int .i64 0] 73)).alloc (.cells #[.int .i64 0, .int .i64 0, .int .i64 0, .int .i64 0, .int .i64 0, .int .i64 0, .int .i64 0, .int .i64 0] 30)).alloc (.cells #[.string ⟨#[]⟩, .int .i64 0, .int .i64 0] 73)) (((w.alloc (.cells #[.int .i64 0, .int .i64 0, .int .i64 0, .int .i64 0, .int .i64 0, .int .i64 0, .int .i64 0, .int .i64 0] 30)).alloc (.cells #[.string ⟨#[]⟩, .int .i64 0, .int .i64 0] 73)).alloc (.cells #[.int .i64 0, .int .i64 0, .int .i64 0, .int .i64 0, .int .i64 0, .int .i64 0, .int .i64 0, .int .i64 0] 30)).heap.size zeroR := IsR.new (r := zeroR)
  simp only [World.size_alloc] at A1 A2 A3
  have B0 : IsS ((((w.alloc (.cells #[.int .i64 0, .int .i64 0, .int .i64 0, .int .i64 0, .int .i64 0, .int .i64 0, .int .i64 0, .int .i64 0] 30)).alloc (.cells #[.string ⟨#[]⟩, .int .i64 0, .int .i64 0] 73)).alloc (.cells #[.int .i64 0, .int .i64 0, .int .i64 0, .int .i64 0, .int .i64 0, .int .i64 0, .int .i64 0, .int .i64 0] 30)).alloc (.cells #[.string ⟨#[]⟩, .int .i64 0, .int .i64 0] 73)) w.heap.size zeroS 30 := ((A0.alloc _).alloc _).alloc _
  have B1 : IsR ((((w.alloc (.cells #[.int .i64 0, .int .i64 0, .int .i64 0, .int .i64 0, .int .i64 0, .int .i64 0, .int .i64 0, .int .i64 0] 30)).alloc (.cells #[.string ⟨#[]⟩, .int .i64 0, .int .i64 0] 73)).alloc (.cells #[.int .i64 0, .int .i64 0, .int .i64 0, .int .i64 0, .int .i64 0, .int .i64 0, .int .i64 0, .int .i64 0] 30)).alloc (.cells #[.string ⟨#[]⟩, .int .i64 0, .int .i64 0] 73)) (w.heap.size + 1) zeroR := (A1.alloc _).alloc _
  have B2 : IsS ((((w.alloc (.cells #[.int .i64 0, .int .i64 0, .int .i64 0, .int .i64 0, .int .i64 0, .int .i64 0, .int .i64 0, .int .i64 0] 30)).alloc (.cells #[.string ⟨#[]⟩, .int .i64 0, .int .i64 0] 73)).alloc (.cells #[.int .i64 0, .int .i64 0, .int .i64 0, .int .i64 0, .int .i64 0, .int .i64 0, .int .i64 0, .int .i64 0] 30)).alloc (.cells #[.string ⟨#[]⟩, .int .i64 0, .int .i64 0] 73)) (w.heap.size + 2) zeroS 30 := A2.alloc _
  have q0 : Below w.heap.size w ((((w.alloc (.cells #[.int .i64 0, .int .i64 0, .int .i64 0, .int .i64 0, .int .i64 0, .int .i64 0, .int .i64 0, .int .i64 0] 30)).alloc (.cells #[.string ⟨#[]⟩, .int .i64 0, .int .i64 0] 73)).alloc (.cells #[.int .i64 0, .int .i64 0, .int .i64 0, .int .i64 0, .int .i64 0, .int .i64 0, .int .i64 0, .int .i64 0] 30)).alloc (.cells #[.string ⟨#[]⟩, .int .i64 0, .int .i64 0] 73)) := by go_grown
  have hz : ((((w.alloc (.cells #[.int .i64 0, .int .i64 0, .int .i64 0, .int .i64 0, .int .i64 0, .int .i64 0, .int .i64 0, .int .i64 0] 30)).alloc (.cells #[.string ⟨#[]⟩, .int .i64 0, .int .i64 0] 73)).alloc (.cells #[.int .i64 0, .int .i64 0, .int .i64 0, .int .i64 0, .int .i64 0, .int .i64 0, .int .i64 0, .int .i64 0] 30)).alloc (.cells #[.string ⟨#[]⟩, .int .i64 0, .int .i64 0] 73)).heap.size = w.heap.size + 4 := by simp
  clear A0 A1 A2
  go_enter Tryd.func84, Tryd.ntmps84
  go_upto_region 3 with (fail)
  generalize ((((w.alloc (.cells #[.int .i64 0, .int .i64 0, .int .i64 0, .int .i64 0, .int .i64 0, .int .i64 0, .int .i64 0, .int .i64 0] 30)).alloc (.cells #[.string ⟨#[]⟩, .int .i64 0, .int .i64 0] 73)).alloc (.cells #[.int .i64 0, .int .i64 0, .int .i64 0, .int .i64 0, .int .i64 0, .int .i64 0, .int .i64 0, .int .i64 0] 30)).alloc (.cells #[.string ⟨#[]⟩, .int .i64 0, .int .i64 0] 73)) = W0 at A3 B0 B1 B2 q0 hz ⊢
  go_wp2_with (at_range; refine wpList_range_N rfl _ rfl rfl ?_)
  have Z0 := B0.alloc (.mapIter none 0 #[] 0)
  have Z1 := B1.alloc (.mapIter none 0 #[] 0)
  have Z2 := B2.alloc (.mapIter none 0 #[] 0)
  have Z3 := A3.alloc (.mapIter none 0 #[] 0)
  have Q := q0.alloc q0.size (.mapIter none 0 #[] 0)
  clear B0 B1 B2 A3 q0
  go_frame
  go_loopw [10] (fun _ wr => wr = W0.alloc (.mapIter none 0 #[] 0)) (fun _ _ => 0)
  case atStart => rfl
  case round =>
    subst hrel
    go_wp2_with (at_next; refine wpList_next_N rfl _ rfl W0 rfl rfl ?_)
    generalize W0.alloc (.mapIter none 0 #[] 0) = wr at Z0 Z1 Z2 Z3 Q ⊢
    obtain ⟨l0, ⟨a0, a1, a2, a3, a4, a5, a6, a7⟩, f0, f1, f2, f3, f4, f5, f6, f7⟩ := Z0.all
    obtain ⟨l1, ⟨b0, b1, b2⟩, g0, g1, g2⟩ := Z1.all
    obtain ⟨l2, ⟨c0, c1, c2, c3, c4, c5, c6, c7⟩, -⟩ := Z2.all
    obtain ⟨l3, ⟨d0, d1, d2⟩, -⟩ := Z3.all
    go_wp2_with fail
    go_region
    go_wp2
    refine bodyPost_ret (ret_bst Tryd.results84 rfl rfl (IsS.drew (IsS.set8R (Z0.set8 zeroS) (by omega) _ _ _)) (IsR.drew ((Z1.other8 (by omega) _ _ _ _ _ _ _ _).set3 zeroR))) rfl ⟨rfl, ?_⟩
    exact (bSet3 (below_set8 Q (Nat.le_refl _) zeroS) (by omega) _ _ _).drew
theorem keepCell_nil (a b : Int) (w : World) : Calls Tryd.prog 83 #[.map none, .int .i64 a, .int .i64 b] w fun e w' => e = .returned (.tuple #[]) ∧ Below w.heap.size w w' := by
  have Q : Below w.heap.size w (w.alloc (.mapIter none 0 #[] 0)) := (Below.refl _ _).alloc (Nat.le_refl _) _
  go_enter Tryd.func83, Tryd.ntmps83
  go_wp2_with (at_range; refine wpList_range_N rfl _ rfl rfl ?_)
  go_frame
  go_loopw [9] (fun _ wr => wr = w.alloc (.mapIter none 0 #[] 0)) (fun _ _ => 0)
  case atStart => rfl
  case round =>
    subst hrel
    go_wp2_with (at_next; refine wpList_next_N rfl _ rfl w rfl rfl ?_)
    go_wp2
    go_returns
    exact ⟨rfl, Q⟩
def borB (r : Rt) : Bool := decide (r.count ≠ 0) && decide (r.word.length ≤ 60)
def borR (r : Rt) : Rt := if borB r = true then r else zeroR
set_option maxHeartbeats 3200000 in
theorem bestOfRolls_of (mv : Value) (Pm : St → Rt → Prop) (w : World) (HB : Calls Tryd.prog 84 #[mv] (w.alloc (.cells #[.string ⟨#[]⟩, .int .i64 0, .int .i64 0] 73)) fun e w' => ∃ s r, e = .returned (.tuple #[St.v s, Rt.v r]) ∧ Pm s r ∧ Below (w.alloc (.cells #[.string ⟨#[]⟩, .int .i64 0, .int .i64 0] 73)).heap.size (w.alloc (.cells #[.string ⟨#[]⟩, .int .i64 0, .int .i64 0] 73)) w') : Calls Tryd.prog 57 #[mv] w fun e w' => ∃ s r, Pm s r ∧ e = .returned (.tuple #[Rt.v (borR r), .bool (borB r)]) ∧ Below w.heap.size w w' := by
  have HBH := hide HB
  have Z0 : IsR (w.alloc (.cells #[.string ⟨#[]⟩, .int .i64 0, .int .i64 0] 73)) w.heap.size zeroR := IsR.new (r := zeroR)
  have q0 : Below w.heap.size w (w.alloc (.cells #[.string ⟨#[]⟩, .int .i64 0, .int .i64 0] 73)) := by go_grown
  clear HB
  go_enter Tryd.func57, Tryd.ntmps57
  go_wp2_with fail
  refine HBH.out.mono ?_
  rintro e w1 ⟨s, r, rfl, hP, hb1⟩
  have HP := hide hP
  have q1 := below_to hb1 q0 q0.size rfl rfl rfl rfl
  have Z1 := isR_to hb1 Z0 rfl
  clear hb1 Z0 q0 HBH hP
  have X0 : IsR ((w1.alloc (.cells #[.int .i64 s.x, .int .i64 s.y, .int .i64 s.d.t, .int .i64 s.d.n, .int .i64 s.d.e, .int .i64 s.d.s, .int .i64 s.d.w, .int .i64 s.d.b] 30)).alloc (.cells #[.string ⟨r.word.toArray⟩, .int .i64 r.cost, .int .i64 r.count] 73)) (w1.alloc (.cells #[.int .i64 s.x, .int .i64 s.y, .int .i64 s.d.t, .int .i64 s.d.n, .int .i64 s.d.e, .int .i64 s.d.s, .int .i64 s.d.w, .int .i64 s.d.b] 30)).heap.size r := IsR.new
  simp only [World.size_alloc] at X0
  have Y0 := (Z1.alloc (.cells #[.int .i64 s.x, .int .i64 s.y, .int .i64 s.d.t, .int .i64 s.d.n, .int .i64 s.d.e, .int .i64 s.d.s, .int .i64 s.d.w, .int .i64 s.d.b] 30)).alloc (.cells #[.string ⟨r.word.toArray⟩, .int .i64 r.cost, .int .i64 r.count] 73)
  have q2 := (q1.alloc q1.size (.cells #[.int .i64 s.x, .int .i64 s.y, .int .i64 s.d.t, .int .i64 s.d.n, .int .i64 s.d.e, .int .i64 s.d.s, .int .i64 s.d.w, .int .i64 s.d.b] 30)).alloc (q1.alloc q1.size (.cells #[.int .i64 s.x, .int .i64 s.y, .int .i64 s.d.t, .int .i64 s.d.n, .int .i64 s.d.e, .int .i64 s.d.s, .int .i64 s.d.w, .int .i64 s.d.b] 30)).size (.cells #[.string ⟨r.word.toArray⟩, .int .i64 r.cost, .int .i64 r.count] 73)
  go_upto_region 2 with (fail)
  generalize ((w1.alloc (.cells #[.int .i64 s.x, .int .i64 s.y, .int .i64 s.d.t, .int .i64 s.d.n, .int .i64 s.d.e, .int .i64 s.d.s, .int .i64 s.d.w, .int .i64 s.d.b] 30)).alloc (.cells #[.string ⟨r.word.toArray⟩, .int .i64 r.cost, .int .i64 r.count] 73)) = w2 at X0 Y0 q2 ⊢
  generalize w1.heap.size = F at X0 ⊢
  clear Z1 q1
  obtain ⟨l0, ⟨a0, a1, a2⟩, -⟩ := X0.all
  obtain ⟨l1, ⟨b0, b1, b2⟩, f0, f1, f2⟩ := Y0.all
  by_cases h0 : r.count = 0
  · have HBB := hide (show borB r = false from by unfold borB; simp [h0])
    have HBR := hide (show borR r = zeroR from by unfold borR; rw [HBB.out, if_neg (by decide)])
    have e0 : (r.count == 0) = true := by simp [h0]
    clear h0
    go_wp2
    refine bodyPost_ret (ret_route2 Tryd.results57 rfl rfl (Y0.set3 zeroR)) rfl ⟨s, r, HP.out, by rw [HBB.out, HBR.out], ?_⟩
    exact bSet3 q2 (by omega) _ _ _
  · have e0 : (r.count == 0) = false := by simp [h0]
    obtain ⟨sv, hsv⟩ : ∃ sv : ByteArray, sv = ⟨r.word.toArray⟩ := ⟨_, rfl⟩
    have hsz : sv.size = r.word.length := by rw [hsv]; exact List.size_toArray
    rw [← hsv] at a0
    have HSV := hide hsv
    by_cases h6 : r.word.length ≤ 60
    · have HBB := hide (show borB r = true from by unfold borB; simp [h0, h6])
      have HBR := hide (show borR r = r from by unfold borR; rw [HBB.out, if_pos rfl])
      have e6 : ¬ ((60 : Int) < (sv.size : Int)) := by omega
      clear h0 h6 hsz hsv
      go_wp2
      rw [HSV.out]
      refine bodyPost_ret (ret_route2 Tryd.results57 rfl rfl (Y0.set3 r)) rfl ⟨s, r, HP.out, by rw [HBB.out, HBR.out], ?_⟩
      exact bSet3 q2 (by omega) _ _ _
    · have HBB := hide (show borB r = false from by unfold borB; simp [h0, h6])
      have HBR := hide (show borR r = zeroR from by unfold borR; rw [HBB.out, if_neg (by decide)])
      have e6 : (60 : Int) < (sv.size : Int) := by omega
      clear h0 h6 hsz hsv
      go_wp2
      refine bodyPost_ret (ret_route2 Tryd.results57 rfl rfl (Y0.set3 zeroR)) rfl ⟨s, r, HP.out, by rw [HBB.out, HBR.out], ?_⟩
      exact bSet3 q2 (by omega) _ _ _


/-- What routesAt hands back. -/
def RtAt (s : ByteArray) (t : St) (a b : Int) (w : World) (e : Ending) (w' : World) : Prop :=
  (wcB s t a b = false ∧ e = .returned (.tuple #[.map none, .bool false]) ∧ Below w.heap.size w w') ∨
  (∃ rb L, wcB s t a b = true ∧ e = .returned (.tuple #[.map (some rb), .bool true]) ∧ w.heap.size ≤ rb ∧ MapR w' rb L (wysB s t).length ∧ List.Sublist L (seL (wysB s t)) ∧ (∀ x, x ∈ L ↔ x ∈ seL (wysB s t) ∧ cellP a b x.1.1 = true) ∧ Below w.heap.size w w')
set_option maxHeartbeats 3200000 in
theorem routesAt_any (s : ByteArray) (t : St) (a b : Int) (w : World) (hs : s.size ≤ 1048576) (hg : Glob w) : Calls Tryd.prog 56 #[.string s, St.v t, .int .i64 a, .int .i64 b, (.func (.func 48) #[] #[])] w (RtAt s t a b w) := by
  unfold RtAt
  have S0 : IsS (w.alloc (.cells #[.int .i64 t.x, .int .i64 t.y, .int .i64 t.d.t, .int .i64 t.d.n, .int .i64 t.d.e, .int .i64 t.d.s, .int .i64 t.d.w, .int .i64 t.d.b] 30)) w.heap.size t 30 := IsS.new
  have q0 : Below w.heap.size w (w.alloc (.cells #[.int .i64 t.x, .int .i64 t.y, .int .i64 t.d.t, .int .i64 t.d.n, .int .i64 t.d.e, .int .i64 t.d.s, .int .i64 t.d.w, .int .i64 t.d.b] 30)) := by go_grown
  have HG := hide (glob_to (w0 := w) q0 hg rfl)
  have HGL := hide hg
  clear hg
  cases hF : ifF s.data.toList a b
  · have HF := hide hF
    have HX := hide (show wcB s t a b = false from by
      unfold wcB
      cases h : askB s t
      · rfl
      · have h1 := (ask_split h).1
        unfold ifF at hF
        rw [h1, Bool.true_and] at hF
        rw [hF]
        rfl)
    rw [HX.out]
    clear hF
    go_enter Tryd.func56, Tryd.ntmps56
    go_wp2_with fail
    refine (implIsFloor_any s a b _ hs HG.out).mono ?_
    rintro e w1 ⟨rfl, hb1⟩
    rw [HF.out]
    have q1 := below_to hb1 q0 q0.size rfl rfl rfl rfl
    go_wp2
    go_returns
    exact .inl ⟨trivial, rfl, q1⟩
  · have HF := hide hF
    cases h : askB s t
    · have H := hide h
      have HX := hide (show wcB s t a b = false from by unfold wcB; rw [h]; rfl)
      rw [HX.out]
      clear hF h
      go_enter Tryd.func56, Tryd.ntmps56
      go_wp2_with fail
      refine (implIsFloor_any s a b _ hs HG.out).mono ?_
      rintro e w1 ⟨rfl, hb1⟩
      rw [HF.out]
      have q1 := below_to hb1 q0 q0.size rfl rfl rfl rfl
      have S1 := isS_to hb1 S0 rfl
      have hg1 := hide (glob_to q1 HGL.out rfl)
      clear hb1 S0 q0 HG
      obtain ⟨l0, ⟨c0, c1, c2, c3, c4, c5, c6, c7⟩, -⟩ := S1.all
      go_wp2_with fail
      refine (routesFrom_no s t _ hs hg1.out H.out).mono ?_
      rintro e w2 ⟨rfl, hb2⟩
      have q2 := below_to hb2 q1 q1.size rfl rfl rfl rfl
      clear hb2 S1 q1 c0 c1 c2 c3 c4 c5 c6 c7 l0
      go_wp2_with fail
      refine (keepCell_nil a b _).mono ?_
      rintro e w3 ⟨rfl, hb3⟩
      have q3 := below_to hb3 q2 q2.size rfl rfl rfl rfl
      clear hb3 q2
      go_wp2
      go_returns
      exact .inl ⟨trivial, rfl, q3⟩
    · have H := hide h
      have HX := hide (show wcB s t a b = true from by
        have h1 := (ask_split h).1
        unfold ifF at hF
        rw [h1, Bool.true_and] at hF
        unfold wcB
        rw [h, hF]
        rfl)
      have HRF := hide (fun wx hx => routesFrom_yes s t wx hs hx h)
      have hok0 := seL_ok (wysB_nodup s t) (wysB_okS h)
      rw [HX.out]
      obtain ⟨M, hM⟩ : ∃ M, M = wysB s t := ⟨_, rfl⟩
      have HRF2 := hide (show ∀ wx, Glob wx → Calls Tryd.prog 47 #[.string s, St.v t, (.func (.func 48) #[] #[])] wx fun e w' => ∃ rb, e = .returned (.tuple #[.map (some rb), .bool true]) ∧ wx.heap.size ≤ rb ∧ MapR w' rb (seL M) M.length ∧ Below wx.heap.size wx w' from by rw [hM]; exact HRF.out)
      rw [← hM] at hok0 ⊢
      have HOK := hide hok0
      clear hF h hok0 HRF hM
      go_enter Tryd.func56, Tryd.ntmps56
      go_wp2_with fail
      refine (implIsFloor_any s a b _ hs HG.out).mono ?_
      rintro e w1 ⟨rfl, hb1⟩
      rw [HF.out]
      have q1 := below_to hb1 q0 q0.size rfl rfl rfl rfl
      have S1 := isS_to hb1 S0 rfl
      have hg1 := hide (glob_to q1 HGL.out rfl)
      clear hb1 S0 q0 HG
      obtain ⟨l0, ⟨c0, c1, c2, c3, c4, c5, c6, c7⟩, -⟩ := S1.all
      go_wp2_with fail
      refine (HRF2.out _ hg1.out).mono ?_
      rintro e w2 ⟨rb, rfl, hrb, hmap, hb2⟩
      have q2 := below_to hb2 q1 q1.size rfl rfl rfl rfl
      have hrb2 : w.heap.size ≤ rb := Nat.le_trans q1.size hrb
      have HMAP := hide hmap
      clear hb2 S1 q1 c0 c1 c2 c3 c4 c5 c6 c7 l0 hmap hrb
      go_wp2_with fail
      refine (keepCell_any rb _ _ HOK.out a b _ HMAP.out).mono ?_
      rintro e w3 ⟨rfl, L, hm3, hsub, hiff, hgr⟩
      have HM3 := hide hm3
      have HSUB := hide hsub
      have HIFF := hide hiff
      have q3 := q2.grown hgr q2.size (fun k hk => by cases hk; exact hrb2)
      clear hm3 hsub hiff hgr q2
      go_wp2
      go_returns
      exact .inr ⟨rb, L, trivial, rfl, hrb2, HM3.out, HSUB.out, HIFF.out, q3⟩

/-- What bestRoute says of a map's entries. -/
def BestP (L : List SE) (s : St) (r : Rt) : Prop := (L = [] → s = zeroS ∧ r = zeroR) ∧ (∀ x0, LeastS L x0 → s = x0.1.1 ∧ r = x0.1.2)
theorem wc_pure {fit : St → Bool} {s0 : St} {m : Nat} {M : List Nd} (hok : OkW fit s0 m 0 M) (hcnt : ∀ q ∈ M, (rtOf q).count ≠ 0) (P : St → Bool) (L : List SE) (hL : ∀ x, x ∈ L ↔ x ∈ seL M ∧ P x.1.1 = true) {s : St} {r : Rt} (hP : BestP L s r) :
    (⟨(borR r).word.toArray⟩ : ByteArray) = wcS (M.find? (fun q => P q.s && decide (q.far ≤ 60))) ∧ borB r = (M.find? (fun q => P q.s && decide (q.far ≤ 60))).isSome := by
  have key : ∀ (o : Option Nd), M.find? (fun q => P q.s && decide (q.far ≤ 60)) = o → (∀ q, o = some q → borB r = true ∧ r = rtOf q) → (o = none → borB r = false) → (⟨(borR r).word.toArray⟩ : ByteArray) = wcS (M.find? (fun q => P q.s && decide (q.far ≤ 60))) ∧ borB r = (M.find? (fun q => P q.s && decide (q.far ≤ 60))).isSome := by
    intro o ho hs hn
    rw [ho]
    cases o with
    | none =>
      have h1 := hn rfl
      unfold borR
      rw [h1, if_neg (by decide)]
      exact ⟨rfl, rfl⟩
    | some q =>
      obtain ⟨h1, h2⟩ := hs q rfl
      unfold borR
      rw [h1, if_pos rfl, h2]
      exact ⟨rfl, rfl⟩
  cases hf : M.find? (fun q => P q.s) with
  | none =>
    have hno := List.find?_eq_none.1 hf
    have hL0 : L = [] := List.eq_nil_iff_forall_not_mem.2 (fun x hx => by
      obtain ⟨h1, h2⟩ := (hL x).1 hx
      obtain ⟨i, q, hq, rfl⟩ := seL_mem h1
      exact hno q (List.mem_of_getElem? hq) h2)
    have hr := (hP.1 hL0).2
    refine key none (List.find?_eq_none.2 fun q hq h => hno q hq (by rw [Bool.and_eq_true] at h; exact h.1)) (fun q h => by cases h) (fun _ => ?_)
    rw [hr]
    rfl
  | some q =>
    obtain ⟨hPq, i, hi, hiq, hbef⟩ := List.find?_eq_some_iff_getElem.1 hf
    have hq : M[i]? = some q := by rw [List.getElem?_eq_getElem hi, hiq]
    have hbe : ∀ (j : Nat) (y : Nd), M[j]? = some y → j < i → P y.s = false := by
      intro j y hy hj
      have h1 := hbef j hj
      obtain ⟨h2, h3⟩ := List.getElem?_eq_some_iff.1 hy
      rw [h3] at h1
      simpa using h1
    have hx0 : LeastS L (seOf q i) := by
      refine ⟨(hL _).2 ⟨?_, hPq⟩, fun y hy hne => ?_⟩
      · have : (seL M)[i]? = some (seOf q i) := by rw [seL_get, hq]; rfl
        exact List.mem_of_getElem? this
      · obtain ⟨h1, h2⟩ := (hL y).1 hy
        obtain ⟨i', q', hq', rfl⟩ := seL_mem h1
        have hii : i < i' := by
          rcases Nat.lt_trichotomy i i' with h | h | h
          · exact h
          · subst h
            rw [hq] at hq'
            obtain rfl := Option.some.inj hq'
            exact absurd rfl hne
          · have := hbe i' q' hq' h
            rw [show P q'.s = true from h2] at this
            cases this
        exact cmpRt_lt (hok.ord i i' q q' hii hq hq')
    have hr : r = rtOf q := (hP.2 _ hx0).2
    have hct := hcnt q (List.mem_of_getElem? hq)
    have hlen : (rtOf q).word.length = q.far := wdB_len q.hd
    by_cases h6 : q.far ≤ 60
    · refine key (some q) (List.find?_eq_some_iff_getElem.2 ⟨by simp [hPq, h6], i, hi, hiq, fun j hj => ?_⟩) (fun q' e => ?_) (fun e => by cases e)
      · have h1 := hbef j hj
        simp only [Bool.not_eq_true', Bool.not_eq_eq_eq_not, Bool.not_true] at h1 ⊢
        rw [h1]
        rfl
      · obtain rfl := Option.some.inj e
        refine ⟨?_, hr⟩
        unfold borB
        rw [hr, hlen]
        simp [hct, h6]
    · refine key none (List.find?_eq_none.2 fun y hy h => ?_) (fun q' e => by cases e) (fun _ => ?_)
      · rw [Bool.and_eq_true] at h
        obtain ⟨j, hj⟩ := List.mem_iff_getElem?.1 hy
        by_cases hji : j < i
        · have := hbe j y hj hji
          rw [h.1] at this
          cases this
        · have h1 := hok.far_le hq hj (by omega)
          have h2 := of_decide_eq_true h.2
          omega
      · unfold borB
        rw [hr, hlen]
        simp [h6]
theorem wysB_cnt {s : ByteArray} {t : St} (h : askB s t = true) : ∀ q ∈ wysB s t, (rtOf q).count ≠ 0 := by
  obtain ⟨h1, _, h3, h4⟩ := ask_split h
  exact OkW.cnt (runW_ok (flAt s.data.toList) t 1000) (fitOk_board h1 h3 h4).cnt
theorem wysB_wd {s : ByteArray} {t : St} (h : askB s t = true) : ∀ q ∈ wysB s t, wdOk (rtOf q) :=
  OkW.wd (runW_ok (flAt s.data.toList) t 1000) (by
    have h1 := wysB_len h
    have h2 : (wysB s t).length ≤ 1000 := by omega
    exact h2)
theorem cellP_wc (a b : Int) (s : St) : cellP a b s = wcP a b (-1) s := by
  unfold cellP wcP
  simp
def wtR (s : ByteArray) (t : St) (a b top : Int) : Option Nd := if wcB s t a b = true then wcR a b top (wysB s t) else none
def wtS (s : ByteArray) (t : St) (a b top : Int) : ByteArray := wcS (wtR s t a b top)
def wtB (s : ByteArray) (t : St) (a b top : Int) : Bool := (wtR s t a b top).isSome
theorem wt_no {s : ByteArray} {t : St} {a b : Int} (top : Int) (h : wcB s t a b = false) : wtS s t a b top = ⟨#[]⟩ ∧ wtB s t a b top = false := by
  unfold wtS wtB wtR
  rw [h, if_neg (by decide)]
  exact ⟨rfl, rfl⟩
theorem wt_yes {s : ByteArray} {t : St} {a b : Int} (top : Int) (h : wcB s t a b = true) : wtS s t a b top = wcS (wcR a b top (wysB s t)) ∧ wtB s t a b top = (wcR a b top (wysB s t)).isSome := by
  unfold wtS wtB wtR
  rw [h, if_pos rfl]
  exact ⟨rfl, rfl⟩
theorem wc_pure2 {fit : St → Bool} {s0 : St} {m : Nat} {M : List Nd} (hok : OkW fit s0 m 0 M) (hcnt : ∀ q ∈ M, (rtOf q).count ≠ 0) (a b top : Int) (L : List SE) (hL : ∀ x, x ∈ L ↔ x ∈ seL M ∧ wcP a b top x.1.1 = true) {s : St} {r : Rt} (hP : BestP L s r) :
    (⟨(borR r).word.toArray⟩ : ByteArray) = wcS (wcR a b top M) ∧ borB r = (wcR a b top M).isSome := wc_pure hok hcnt (wcP a b top) L hL hP
theorem wcB_ask {s : ByteArray} {t : St} {a b : Int} (h : wcB s t a b = true) : askB s t = true := by
  unfold wcB at h
  rw [Bool.and_eq_true] at h
  exact h.1

set_option maxHeartbeats 3200000 in
theorem specWTC_any (s : ByteArray) (t : St) (a b : Int) (w : World) (hs : s.size ≤ 1048576) : Calls Tryd.prog 27 #[.string s, St.v t, .int .i64 a, .int .i64 b] w fun e w' => e = .returned (.tuple #[.string (wtS s t a b (-1)), .bool (wtB s t a b (-1))]) ∧ Below w.heap.size w w' := by
  have S0 : IsS (w.alloc (.cells #[.int .i64 t.x, .int .i64 t.y, .int .i64 t.d.t, .int .i64 t.d.n, .int .i64 t.d.e, .int .i64 t.d.s, .int .i64 t.d.w, .int .i64 t.d.b] 30)) w.heap.size t 30 := IsS.new
  have q0 : Below w.heap.size w (w.alloc (.cells #[.int .i64 t.x, .int .i64 t.y, .int .i64 t.d.t, .int .i64 t.d.n, .int .i64 t.d.e, .int .i64 t.d.s, .int .i64 t.d.w, .int .i64 t.d.b] 30)) := by go_grown
  obtain ⟨z0, hz0⟩ : ∃ z, z = wtS s t a b (-1) := ⟨_, rfl⟩
  obtain ⟨z1, hz1⟩ : ∃ z, z = wtB s t a b (-1) := ⟨_, rfl⟩
  rw [← hz0, ← hz1]
  have HZ0 := hide hz0
  have HZ1 := hide hz1
  clear hz0 hz1
  obtain ⟨l0, ⟨c0, c1, c2, c3, c4, c5, c6, c7⟩, -⟩ := S0.all
  go_enter Tryd.func27, Tryd.ntmps27
  go_wp2_with fail
  refine (wyCell_any s t a b _ hs).mono ?_
  rintro e w1 (⟨hno, rfl, hb1⟩ | ⟨g1, c1', L, hyes, hcore, rfl, hown, hb1⟩)
  · have q1 := below_to hb1 q0 q0.size rfl rfl rfl rfl
    have HR0 := hide (HZ0.out.trans (wt_no (-1) hno).1)
    have HR1 := hide (HZ1.out.trans (wt_no (-1) hno).2)
    clear hno
    go_wp2
    go_returns
    exact ⟨by rw [HR0.out, HR1.out]; rfl, q1⟩
  · have q1 := below_to hb1 q0 q0.size rfl rfl rfl rfl
    have hl9 : L.length ≤ 1000 := by have := wysB_len (wcB_ask hyes); have := core_len hcore; omega
    have HO := hide (own_mono hown (B' := w.heap.size) (by have := q0.size; omega))
    have HF := hide (show ∀ wx : World, wx.ownsRow w.heap.size 77 16 (.slice (some ⟨g1, 0, none⟩) L.length c1') L.length (wnL L) → Calls Tryd.prog 55 #[.slice (some ⟨g1, 0, none⟩) L.length c1', .int .i64 a, .int .i64 b, .int .i64 (-1)] wx fun e w' => e = .returned (.tuple #[.string z0, .bool z1]) ∧ Below wx.heap.size wx w' from fun wx hx => by
      rw [HZ0.out, HZ1.out, (wt_yes (-1) hyes).1, (wt_yes (-1) hyes).2]
      exact wyFirst_any w.heap.size g1 c1' L (wysB s t) (flAt s.data.toList) t 1000 (runW_ok _ _ _) hcore hl9 a b (-1) wx hx)
    clear hyes hcore hown hl9 hb1 HZ0 HZ1
    go_wp2_with fail
    refine (HF.out _ HO.out).mono ?_
    rintro e w2 ⟨rfl, hb2⟩
    have q2 := below_to hb2 q1 q1.size rfl rfl rfl rfl
    go_wp2
    go_returns
    exact ⟨rfl, q2⟩
set_option maxHeartbeats 3200000 in
theorem implWTC_any (s : ByteArray) (t : St) (a b : Int) (w : World) (hs : s.size ≤ 1048576) (hg : Glob w) : Calls Tryd.prog 28 #[.string s, St.v t, .int .i64 a, .int .i64 b] w fun e w' => e = .returned (.tuple #[.string (wtS s t a b (-1)), .bool (wtB s t a b (-1))]) ∧ Below w.heap.size w w' := by
  have S0 : IsS (w.alloc (.cells #[.int .i64 t.x, .int .i64 t.y, .int .i64 t.d.t, .int .i64 t.d.n, .int .i64 t.d.e, .int .i64 t.d.s, .int .i64 t.d.w, .int .i64 t.d.b] 30)) w.heap.size t 30 := IsS.new
  have q0 : Below w.heap.size w (w.alloc (.cells #[.int .i64 t.x, .int .i64 t.y, .int .i64 t.d.t, .int .i64 t.d.n, .int .i64 t.d.e, .int .i64 t.d.s, .int .i64 t.d.w, .int .i64 t.d.b] 30)) := by go_grown
  have HG := hide (glob_to (w0 := w) q0 hg rfl)
  obtain ⟨z0, hz0⟩ : ∃ z, z = wtS s t a b (-1) := ⟨_, rfl⟩
  obtain ⟨z1, hz1⟩ : ∃ z, z = wtB s t a b (-1) := ⟨_, rfl⟩
  rw [← hz0, ← hz1]
  have HZ0 := hide hz0
  have HZ1 := hide hz1
  clear hz0 hz1 hg
  obtain ⟨l0, ⟨c0, c1, c2, c3, c4, c5, c6, c7⟩, -⟩ := S0.all
  go_enter Tryd.func28, Tryd.ntmps28
  go_wp2_with fail
  refine (routesAt_any s t a b _ hs HG.out).mono ?_
  rintro e w1 (⟨hno, rfl, hb1⟩ | ⟨rb, L, hyes, rfl, hrb, hmap, hsub, hiff, hb1⟩)
  · have q1 := below_to hb1 q0 q0.size rfl rfl rfl rfl
    have HR0 := hide (HZ0.out.trans (wt_no (-1) hno).1)
    have HR1 := hide (HZ1.out.trans (wt_no (-1) hno).2)
    clear hno hb1 q0 S0 HG HZ0 HZ1 c0 c1 c2 c3 c4 c5 c6 c7 l0
    go_wp2_with fail
    refine (bestOfRolls_of (.map none) (fun _ r => r = zeroR) _ ?hb).mono ?_
    case hb =>
      refine (bestRoute_nil _).mono ?_
      rintro e w' ⟨rfl, hb⟩
      exact ⟨_, _, rfl, rfl, hb⟩
    rintro e w2 ⟨s', r', rfl, rfl, hb2⟩
    have q2 := below_to hb2 q1 q1.size rfl rfl rfl rfl
    rw [show borB zeroR = false from rfl, show borR zeroR = zeroR from rfl]
    clear hb2 q1
    have X1 : IsR (w2.alloc (.cells #[.string ⟨zeroR.word.toArray⟩, .int .i64 zeroR.cost, .int .i64 zeroR.count] 73)) w2.heap.size zeroR := IsR.new
    have q3 := q2.alloc q2.size (.cells #[.string ⟨zeroR.word.toArray⟩, .int .i64 zeroR.cost, .int .i64 zeroR.count] 73)
    obtain ⟨m0, ⟨a0, a1, a2⟩, -⟩ := X1.all
    go_wp2
    go_returns
    exact ⟨by rw [HR0.out, HR1.out]; rfl, q3⟩
  · have q1 := below_to hb1 q0 q0.size rfl rfl rfl rfl
    have hask := wcB_ask hyes
    have HLOK := hide ((seL_ok (wysB_nodup s t) (wysB_okS hask)).sub hsub)
    have HCN := hide (show ∀ x ∈ L, x.1.2.count ≠ 0 from fun x hx => by
      obtain ⟨i, q, hq, rfl⟩ := seL_mem ((hiff x).1 hx).1
      exact wysB_cnt hask q (List.mem_of_getElem? hq))
    have HWD := hide (show ∀ x ∈ L, wdOk x.1.2 from fun x hx => by
      obtain ⟨i, q, hq, rfl⟩ := seL_mem ((hiff x).1 hx).1
      exact wysB_wd hask q (List.mem_of_getElem? hq))
    have HPU := hide (show ∀ (s' : St) (r' : Rt), BestP L s' r' → (⟨(borR r').word.toArray⟩ : ByteArray) = z0 ∧ borB r' = z1 from fun s' r' hP => by
      rw [HZ0.out, HZ1.out, (wt_yes (-1) hyes).1, (wt_yes (-1) hyes).2]
      exact wc_pure2 (M := wysB s t) (fit := flAt s.data.toList) (s0 := t) (m := 1000) (runW_ok _ _ _) (wysB_cnt hask) a b (-1) L (fun x => by rw [hiff x, cellP_wc]) hP)
    generalize (wysB s t).length = c at hmap HLOK
    have HMAP := hide hmap
    clear hyes hask hsub hiff hb1 hmap hrb q0 S0 HG HZ0 HZ1 c0 c1 c2 c3 c4 c5 c6 c7 l0
    go_wp2_with fail
    refine (bestOfRolls_of (.map (some rb)) (BestP L) _ ?hb).mono ?_
    case hb =>
      refine (bestRoute_any rb L c HLOK.out HCN.out HWD.out _ (HMAP.out.alloc _)).mono ?_
      rintro e w' ⟨s', r', rfl, h1, h2, hb⟩
      exact ⟨_, _, rfl, ⟨h1, h2⟩, hb⟩
    rintro e w2 ⟨s', r', hP, rfl, hb2⟩
    have q2 := below_to hb2 q1 q1.size rfl rfl rfl rfl
    obtain ⟨hp1, hp2⟩ := HPU.out s' r' hP
    rw [hp2]
    generalize borR r' = r2 at hp1 ⊢
    have HP1 := hide hp1
    clear hb2 q1 hP hp1 hp2 HPU HMAP HLOK HCN HWD
    have X1 : IsR (w2.alloc (.cells #[.string ⟨r2.word.toArray⟩, .int .i64 r2.cost, .int .i64 r2.count] 73)) w2.heap.size r2 := IsR.new
    have q3 := q2.alloc q2.size (.cells #[.string ⟨r2.word.toArray⟩, .int .i64 r2.cost, .int .i64 r2.count] 73)
    obtain ⟨m0, ⟨a0, a1, a2⟩, -⟩ := X1.all
    go_wp2
    go_returns
    exact ⟨by rw [HP1.out]; rfl, q3⟩
set_option maxHeartbeats 3200000 in
theorem walk_WayToCell (v0 : ByteArray) (hv0 : v0.size ≤ maxLen) (t0 : St) (hxt0 : (Lit.int .i64 t0.x).wf = true) (hyt0 : (Lit.int .i64 t0.y).wf = true) (a0 : Int) (ha0 : (Lit.int .i64 a0).wf = true) (a1 : Int) (ha1 : (Lit.int .i64 a1).wf = true) (w : World) (hg : Glob w) : Calls Tryd.prog 9 #[.string v0, St.v t0, .int .i64 a0, .int .i64 a1] w fun e w' => e = .returned (.bool true) ∧ Below w.heap.size w w' := by
  have HGL := hide hg
  clear hg
  by_cases h0 : v0.size ≤ 1048576
  · have HS0 := hide h0
    obtain ⟨z0, hz0⟩ : ∃ z, z = wtS v0 t0 a0 a1 (-1) := ⟨_, rfl⟩
    have HZ0 := hide hz0
    clear hz0
    have e0 : (z0.toList != z0.toList) = false := by simp
    obtain ⟨z1, hz1⟩ : ∃ z, z = wtB v0 t0 a0 a1 (-1) := ⟨_, rfl⟩
    have HZ1 := hide hz1
    clear hz1
    have e1 : (z1 != z1) = false := by simp
    have B0 : IsS (w.alloc (.cells #[.int .i64 t0.x, .int .i64 t0.y, .int .i64 t0.d.t, .int .i64 t0.d.n, .int .i64 t0.d.e, .int .i64 t0.d.s, .int .i64 t0.d.w, .int .i64 t0.d.b] 25)) w.heap.size t0 25 := IsS.new (s := t0)
    skip
    have q0 : Below w.heap.size w (w.alloc (.cells #[.int .i64 t0.x, .int .i64 t0.y, .int .i64 t0.d.t, .int .i64 t0.d.n, .int .i64 t0.d.e, .int .i64 t0.d.s, .int .i64 t0.d.w, .int .i64 t0.d.b] 25)) := by go_grown
    go_enter Tryd.func9, Tryd.ntmps9
    go_upto_region 3 with (fail)
    generalize (w.alloc (.cells #[.int .i64 t0.x, .int .i64 t0.y, .int .i64 t0.d.t, .int .i64 t0.d.n, .int .i64 t0.d.e, .int .i64 t0.d.s, .int .i64 t0.d.w, .int .i64 t0.d.b] 25)) = w0 at B0 q0 ⊢
    obtain ⟨l0, ⟨c0, c1, c2, c3, c4, c5, c6, c7⟩, -⟩ := B0.all
    go_wp2_with fail
    clear c0 c1 c2 c3 c4 c5 c6 c7 l0
    refine (toState_any t0 _).mono ?_
    rintro e w1 ⟨rfl, hb1⟩
    have b0 := isS_to hb1 B0 rfl
    have q1 := below_to hb1 q0 q0.size rfl rfl rfl rfl
    have hgl := hide (glob_to q1 HGL.out rfl)
    clear hb1 B0 q0
    go_wp2_with fail
    refine (specWTC_any v0 t0 a0 a1 _ HS0.out).mono ?_
    rintro e w2 ⟨rfl, hb2⟩
    rw [← HZ0.out, ← HZ1.out]
    have B0 := isS_to hb2 b0 rfl
    have q0 := below_to hb2 q1 q1.size rfl rfl rfl rfl
    clear hb2 b0 q1 hgl
    obtain ⟨l0, ⟨c0, c1, c2, c3, c4, c5, c6, c7⟩, -⟩ := B0.all
    go_wp2_with fail
    clear c0 c1 c2 c3 c4 c5 c6 c7 l0
    refine (toState_any t0 _).mono ?_
    rintro e w1 ⟨rfl, hb1⟩
    have b0 := isS_to hb1 B0 rfl
    have q1 := below_to hb1 q0 q0.size rfl rfl rfl rfl
    have hgl := hide (glob_to q1 HGL.out rfl)
    clear hb1 B0 q0
    go_wp2_with fail
    refine (implWTC_any v0 t0 a0 a1 _ HS0.out hgl.out).mono ?_
    rintro e w2 ⟨rfl, hb2⟩
    rw [← HZ0.out, ← HZ1.out]
    have B0 := isS_to hb2 b0 rfl
    have q0 := below_to hb2 q1 q1.size rfl rfl rfl rfl
    clear hb2 b0 q1 hgl
    go_wp2
    go_returns
    exact ⟨rfl, q0⟩
  · go_enter Tryd.func9, Tryd.ntmps9
    go_wp2
    go_returns
    exact ⟨rfl, by go_grown⟩
end Go.Proofs.YthdkhikkdcjifaaDoor
