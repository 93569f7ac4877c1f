/- The words that the model makes; the walk of the law of ShortestWay. -/
import Derived.Test.YthdkhikkdcjifaaDoorWalksDT
namespace Go.Proofs.YthdkhikkdcjifaaDoor
set_option maxRecDepth 100000
set_option linter.all false
open Go.RowKit Go.Maps Go.ChangeMaps

theorem diDirsW_any (w : World) : Calls Tryd.prog 80 #[] w fun e w' => e = .returned (.string ⟨#[110, 101, 115, 119]⟩) ∧ w' = w := by
  go_enter Tryd.func80, Tryd.ntmps80
  go_wp2
  go_ret
  exact ⟨rfl, rfl⟩
theorem addL (c : UInt8) (u : List UInt8) (h : u.length ≤ 1000) (wx : World) : (Op.stringOp .add ⟨#[c]⟩ ⟨u.toArray⟩).run Tryd.prog wx = .ok (.string ⟨(c :: u).toArray⟩) wx := by
  have e : (⟨#[c]⟩ : ByteArray) ++ ⟨u.toArray⟩ = ⟨(c :: u).toArray⟩ := by
    apply ByteArray.ext
    simp
  rw [run_string_add_sum wx _ _ (by simp [ByteArray.size]; omega), e]
set_option maxHeartbeats 3200000 in
theorem wyWord_any (B g1 c1 : Nat) (L : List WN) (M : List Nd) (fit : St → Bool) (s0 : St) (n : Nat) (hok : OkW fit s0 n 0 M) (hcore : L.map coreW = M.map coreN) (hl : L.length ≤ 1000) (i : Nat) (q : Nd) (hq : M[i]? = some q) (w : World) (hr : w.ownsRow B 77 16 (.slice (some ⟨g1, 0, none⟩) L.length c1) L.length (wnL L)) :
    Calls Tryd.prog 52 #[.slice (some ⟨g1, 0, none⟩) L.length c1, .int .i64 (i : Int)] w fun e w' => e = .returned (.string ⟨(wdB q.hd).toArray⟩) ∧ Below w.heap.size w w' := by
  have HOK := hide hok
  have HC := hide hcore
  have HLM := hide (core_len hcore)
  have HR := hide hr
  have HQ := hide (show q.hd.length ≤ 1000 from by
    have h1 := hok.far_ix i i q (Nat.le_refl _) hq
    have h2 := (List.getElem?_eq_some_iff.1 hq).1
    have h3 := core_len hcore
    unfold Nd.far at h1
    omega)
  obtain ⟨hd, hhd⟩ : ∃ hd, hd = q.hd := ⟨_, rfl⟩
  rw [← hhd] at HQ ⊢
  have HHD := hide hhd
  have HQI := hide hq
  clear hok hcore hr hhd hq
  go_enter Tryd.func52, Tryd.ntmps52
  go_wp2_with fail
  go_loopw [1, 5] (fun a s wr => ∃ (m : Nat) (q' : Nd) (u : W4), a = .int .i64 (m : Int) ∧ Hid (M[m]? = some q') ∧ Hid (hd = q'.hd ++ u) ∧ s = .string ⟨(wdB u).toArray⟩ ∧ Below w.heap.size w wr) (fun a _ _ => (intOf a).toNat)
  case atStart => exact ⟨i, q, [], rfl, HQI.out, by show hd = q.hd ++ []; rw [List.append_nil]; exact HHD.out, rfl, Below.refl _ _⟩
  case round =>
    obtain ⟨m, q', u, rfl, hm, hu, rfl, hB⟩ := hrel
    have hml : m < L.length := by have := (List.getElem?_eq_some_iff.1 hm.out).1; have := HLM.out; omega
    have hx : L[m]? = some (L[m]'hml) := List.getElem?_eq_getElem hml
    generalize L[m]'hml = x at hx
    have HCX := hide (core_at HC.out hx hm.out)
    have R1 := own_to hB HR.out rfl
    have hmi : (m : Int) < (L.length : Int) := by omega
    obtain ⟨l0, a0, a1, a2, a3, a4, a5, a6, a7, a8, a9, a10, a11, a12, a13, a14, a15⟩ := row_nd R1 hx
    clear a12 a13 a14 a15 a0 a1 a2 a3 a4 a5 a6 a7 a8 a9
    by_cases h0 : m = 0
    · have hb : x.bf = -1 := by
        have h1 := HOK.out.head
        have h2 := hm.out
        rw [h0, h1] at h2
        have h3 := HCX.out.2.2.2.1
        rw [← Option.some.inj h2] at h3
        exact h3
      have hres : hd = u := by
        have h1 := HOK.out.head
        have h2 := hm.out
        rw [h0, h1] at h2
        have h3 := hu.out
        rw [← Option.some.inj h2] at h3
        exact h3
      have HRES := hide hres
      rw [hb] at a10
      clear hres hb h0 hx
      go_wp2
      go_returns
      exact ⟨by rw [HRES.out]; rfl, hB⟩
    · obtain ⟨k', p, j', h1, h2, h3, h4, h5, _⟩ := HOK.out.par m q' (by omega) hm.out
      have hb : x.bf = (k' : Int) := HCX.out.2.2.2.1.trans h1
      have hdr : x.dr = (j'.val : Int) := HCX.out.2.2.2.2.trans h2
      rw [hb] at a10
      rw [hdr] at a11
      have HP := hide h4
      have HH := hide h5
      have hjl := j'.isLt
      have hsl := dslR hjl
      have w1q : IntKind.i64.wrap ((j'.val : Int) + 1) = (j'.val : Int) + 1 := IntWalk.i64_in _ (by omega)
      have hul : u.length ≤ 1000 := by
        have h6 := HQ.out
        have h7 := hu.out
        rw [h7, List.length_append] at h6
        omega
      have hadd := addL (dirC j'.val) (wdB u) (by rw [wdB_len]; exact hul)
      have HNEW := hide (show hd = p.hd ++ (j' :: u) from by rw [hu.out, h5, List.append_assoc]; rfl)
      have HWD := hide (show (⟨(dirC j'.val :: wdB u).toArray⟩ : ByteArray) = ⟨(wdB (j' :: u)).toArray⟩ from rfl)
      have hk0 : (0 : Int) ≤ (k' : Int) := by omega
      have hkm : k' < m := h3
      generalize j'.val = jv at hjl hsl w1q hadd a11 HWD
      clear h1 h2 h3 h4 h5 hb hdr hx h0 hul
      go_wp2_with fail
      go_quiet ((go_at_call 80; refine Calls.quiet_of_same (diDirsW_any _)))
      rw [HWD.out]
      have hB2 := bDrewN hB nq
      go_wp2
      go_roundw
      case rel => exact ⟨k', p, j' :: u, rfl, HP.out, HNEW.out, rfl, hB2⟩
      case measure => simp [intOf]; omega
def swB (s : ByteArray) (t u : St) : Bool := (ndB s t u).elim false (fun q => decide (q.far ≤ 60))
def swV (s : ByteArray) (t u : St) : ByteArray := (ndB s t u).elim ⟨#[]⟩ (fun q => if q.far ≤ 60 then ⟨(wdB q.hd).toArray⟩ else ⟨#[]⟩)
theorem sw_none {s : ByteArray} {t u : St} (h : ndB s t u = none) : swB s t u = false ∧ swV s t u = ⟨#[]⟩ := by unfold swB swV; rw [h]; exact ⟨rfl, rfl⟩
theorem sw_some {s : ByteArray} {t u : St} {q : Nd} (h : ndB s t u = some q) : swB s t u = decide (q.far ≤ 60) ∧ swV s t u = if q.far ≤ 60 then ⟨(wdB q.hd).toArray⟩ else ⟨#[]⟩ := by unfold swB swV; rw [h]; exact ⟨rfl, rfl⟩
set_option maxHeartbeats 1600000 in
theorem specShortestWay_any (s : ByteArray) (t u : St) (w : World) (hs : s.size ≤ 1048576) : Calls Tryd.prog 21 #[.string s, St.v t, St.v u] w fun e w' => e = .returned (.tuple #[.string (swV s t u), .bool (swB s t u)]) ∧ Below w.heap.size w w' := by
  have S0 : IsS ((w.alloc (.cells #[.int .i64 t.x, .int .i64 t.y, .int .i64 t.d.t, .int .i64 t.d.n, .int .i64 t.d.e, .int .i64 t.d.s, .int .i64 t.d.w, .int .i64 t.d.b] 30)).alloc (.cells #[.int .i64 u.x, .int .i64 u.y, .int .i64 u.d.t, .int .i64 u.d.n, .int .i64 u.d.e, .int .i64 u.d.s, .int .i64 u.d.w, .int .i64 u.d.b] 30)) w.heap.size t 30 := (IsS.new (s := t)).alloc _
  have T0 : IsS ((w.alloc (.cells #[.int .i64 t.x, .int .i64 t.y, .int .i64 t.d.t, .int .i64 t.d.n, .int .i64 t.d.e, .int .i64 t.d.s, .int .i64 t.d.w, .int .i64 t.d.b] 30)).alloc (.cells #[.int .i64 u.x, .int .i64 u.y, .int .i64 u.d.t, .int .i64 u.d.n, .int .i64 u.d.e, .int .i64 u.d.s, .int .i64 u.d.w, .int .i64 u.d.b] 30)) (w.alloc (.cells #[.int .i64 t.x, .int .i64 t.y, .int .i64 t.d.t, .int .i64 t.d.n, .int .i64 t.d.e, .int .i64 t.d.s, .int .i64 t.d.w, .int .i64 t.d.b] 30)).heap.size u 30 := IsS.new
  simp only [World.size_alloc] at T0
  have q0 : Below w.heap.size w ((w.alloc (.cells #[.int .i64 t.x, .int .i64 t.y, .int .i64 t.d.t, .int .i64 t.d.n, .int .i64 t.d.e, .int .i64 t.d.s, .int .i64 t.d.w, .int .i64 t.d.b] 30)).alloc (.cells #[.int .i64 u.x, .int .i64 u.y, .int .i64 u.d.t, .int .i64 u.d.n, .int .i64 u.d.e, .int .i64 u.d.s, .int .i64 u.d.w, .int .i64 u.d.b] 30)) := by go_grown
  have HW := hide (fun wx => wyTo_any s t u wx hs)
  obtain ⟨z0, hz0⟩ : ∃ z, z = swV s t u := ⟨_, rfl⟩
  obtain ⟨z1, hz1⟩ : ∃ z, z = swB s t u := ⟨_, rfl⟩
  rw [← hz0, ← hz1]
  have HZ0 := hide hz0
  have HZ1 := hide hz1
  clear hz0 hz1
  obtain ⟨l0, ⟨c0, c1, c2, c3, c4, c5, c6, c7⟩, -⟩ := S0.all
  obtain ⟨m0, ⟨d0, d1, d2, d3, d4, d5, d6, d7⟩, -⟩ := T0.all
  go_enter Tryd.func21, Tryd.ntmps21
  go_wp2_with fail
  refine (HW.out _).mono ?_
  rintro e w1 (⟨hno, _, rfl, hb1⟩ | ⟨g1, c1', L, at_, hpos, hir, hcore, hat, rfl, hown, hb1⟩)
  · have q1 := below_to hb1 q0 q0.size rfl rfl rfl rfl
    have HR0 := hide (HZ0.out.trans (sw_none hno).2)
    have HR1 := hide (HZ1.out.trans (sw_none hno).1)
    clear hno
    go_wp2
    go_returns
    exact ⟨by rw [HR0.out, HR1.out]; rfl, q1⟩
  · have q1 := below_to hb1 q0 q0.size rfl rfl rfl rfl
    have hask := ir_ask hir
    clear hir
    cases hf : findI (wysB s t) u with
    | none =>
      have hn : ndB s t u = none := by unfold ndB; rw [if_pos hask, hf]; rfl
      have HR0 := hide (HZ0.out.trans (sw_none hn).2)
      have HR1 := hide (HZ1.out.trans (sw_none hn).1)
      rw [hf] at hat
      have hat' : at_ = -1 := hat
      rw [hat']
      clear hn hf hat hat' hcore hask hown
      go_wp2
      go_returns
      exact ⟨by rw [HR0.out, HR1.out]; rfl, q1⟩
    | some i =>
      obtain ⟨q, hq, hqs⟩ := findI_some hf
      have hn : ndB s t u = some q := by unfold ndB; rw [if_pos hask, hf]; exact hq
      have hil : i < L.length := by have := (List.getElem?_eq_some_iff.1 hq).1; have := core_len hcore; omega
      have hx : L[i]? = some (L[i]'hil) := List.getElem?_eq_getElem hil
      generalize L[i]'hil = x at hx
      have hxf := (core_at hcore hx hq).2.1
      rw [hf] at hat
      have hat' : at_ = (i : Int) := hat
      rw [hat']
      obtain ⟨l1, a0, a1, a2, a3, a4, a5, a6, a7, a8, a9, a10, a11, a12, a13, a14, a15⟩ := row_nd hown hx
      have hii : (i : Int) < (L.length : Int) := by omega
      have hi0 : ¬ ((i : Int) < 0) := by omega
      have hl9 : L.length ≤ 1000 := by have := wysB_len hask; have := core_len hcore; omega
      have HWW := hide (fun (B : Nat) (wx : World) (hx : wx.ownsRow B 77 16 (.slice (some ⟨g1, 0, none⟩) L.length c1') L.length (wnL L)) => wyWord_any B g1 c1' L (wysB s t) (flAt s.data.toList) t 1000 (runW_ok _ _ _) hcore hl9 i q hq wx hx)
      by_cases h60 : q.far ≤ 60
      · have HR0 := hide (show z0 = ⟨(wdB q.hd).toArray⟩ from by rw [HZ0.out, (sw_some hn).2, if_pos h60])
        have HR1 := hide (show z1 = true from by rw [HZ1.out, (sw_some hn).1, decide_eq_true h60])
        have hx60 : ¬ ((60 : Int) < (x.far : Int)) := by omega
        have HO := hide hown
        clear hn hf hat hat' hcore hask hown hq hqs hx hxf h60 hl9 a0 a1 a2 a3 a4 a5 a6 a7 a9 a10 a11 a12 a13 a14 a15
        go_wp2_with (go_at_call 52; fail)
        refine (HWW.out _ _ HO.out).mono ?_
        rintro e w2 ⟨rfl, hb2⟩
        have q2 := below_to hb2 q1 q1.size rfl rfl rfl rfl
        go_wp2
        go_returns
        exact ⟨by rw [HR0.out, HR1.out]; rfl, q2⟩
      · have HR0 := hide (show z0 = ⟨#[]⟩ from by rw [HZ0.out, (sw_some hn).2, if_neg h60])
        have HR1 := hide (show z1 = false from by rw [HZ1.out, (sw_some hn).1, decide_eq_false h60])
        have hx60 : ((60 : Int) < (x.far : Int)) := by omega
        clear hn hf hat hat' hcore hask hown hq hqs hx hxf h60 hl9 HWW a0 a1 a2 a3 a4 a5 a6 a7 a9 a10 a11 a12 a13 a14 a15
        go_wp2
        go_returns
        exact ⟨by rw [HR0.out, HR1.out]; rfl, q1⟩
set_option maxHeartbeats 1600000 in
theorem implShortestWay_any (s : ByteArray) (t u : St) (hw : wfS u) (w : World) (hs : s.size ≤ 1048576) (hg : Glob w) : Calls Tryd.prog 22 #[.string s, St.v t, St.v u] w fun e w' => e = .returned (.tuple #[.string (swV s t u), .bool (swB s t u)]) ∧ Below w.heap.size w w' := by
  have S0 : IsS ((w.alloc (.cells #[.int .i64 t.x, .int .i64 t.y, .int .i64 t.d.t, .int .i64 t.d.n, .int .i64 t.d.e, .int .i64 t.d.s, .int .i64 t.d.w, .int .i64 t.d.b] 30)).alloc (.cells #[.int .i64 u.x, .int .i64 u.y, .int .i64 u.d.t, .int .i64 u.d.n, .int .i64 u.d.e, .int .i64 u.d.s, .int .i64 u.d.w, .int .i64 u.d.b] 30)) w.heap.size t 30 := (IsS.new (s := t)).alloc _
  have T0 : IsS ((w.alloc (.cells #[.int .i64 t.x, .int .i64 t.y, .int .i64 t.d.t, .int .i64 t.d.n, .int .i64 t.d.e, .int .i64 t.d.s, .int .i64 t.d.w, .int .i64 t.d.b] 30)).alloc (.cells #[.int .i64 u.x, .int .i64 u.y, .int .i64 u.d.t, .int .i64 u.d.n, .int .i64 u.d.e, .int .i64 u.d.s, .int .i64 u.d.w, .int .i64 u.d.b] 30)) (w.alloc (.cells #[.int .i64 t.x, .int .i64 t.y, .int .i64 t.d.t, .int .i64 t.d.n, .int .i64 t.d.e, .int .i64 t.d.s, .int .i64 t.d.w, .int .i64 t.d.b] 30)).heap.size u 30 := IsS.new
  simp only [World.size_alloc] at T0
  have q0 : Below w.heap.size w ((w.alloc (.cells #[.int .i64 t.x, .int .i64 t.y, .int .i64 t.d.t, .int .i64 t.d.n, .int .i64 t.d.e, .int .i64 t.d.s, .int .i64 t.d.w, .int .i64 t.d.b] 30)).alloc (.cells #[.int .i64 u.x, .int .i64 u.y, .int .i64 u.d.t, .int .i64 u.d.n, .int .i64 u.d.e, .int .i64 u.d.s, .int .i64 u.d.w, .int .i64 u.d.b] 30)) := by go_grown
  have HG := hide (glob_to (w0 := w) q0 hg rfl)
  have HW := hide (fun wx hx => routeTo_any s t u hw wx hs hx)
  obtain ⟨z0, hz0⟩ : ∃ z, z = swV s t u := ⟨_, rfl⟩
  obtain ⟨z1, hz1⟩ : ∃ z, z = swB s t u := ⟨_, rfl⟩
  rw [← hz0, ← hz1]
  have HZ0 := hide hz0
  have HZ1 := hide hz1
  clear hz0 hz1 hg
  obtain ⟨l0, ⟨c0, c1, c2, c3, c4, c5, c6, c7⟩, -⟩ := S0.all
  obtain ⟨m0, ⟨d0, d1, d2, d3, d4, d5, d6, d7⟩, -⟩ := T0.all
  cases hn : ndB s t u with
  | none =>
    rw [hn] at HW
    have HR0 := hide (HZ0.out.trans (sw_none hn).2)
    have HR1 := hide (HZ1.out.trans (sw_none hn).1)
    clear hn
    go_enter Tryd.func22, Tryd.ntmps22
    go_wp2_with fail
    refine (HW.out _ HG.out).mono ?_
    rintro e w1 ⟨rfl, hb1⟩
    have q1 := below_to hb1 q0 q0.size rfl rfl rfl rfl
    go_wp2
    go_returns
    exact ⟨by rw [HR0.out, HR1.out]; rfl, q1.alloc q1.size _⟩
  | some q =>
    have HW2 := hide (show ∀ wx, Glob wx → Calls Tryd.prog 51 #[.string s, St.v t, St.v u, (.func (.func 48) #[] #[])] wx fun e w' => e = .returned (.tuple #[Rt.v (rtOf q), .bool true]) ∧ Below wx.heap.size wx w' from fun wx hx => by
      have h1 := HW.out wx hx
      rw [hn] at h1
      exact h1)
    have hlen : (rtOf q).word.length = q.far := by show (wdB q.hd).length = _; rw [wdB_len]; rfl
    have hwd : (rtOf q).word = wdB q.hd := rfl
    by_cases h60 : q.far ≤ 60
    · have HR0 := hide (show z0 = ⟨(rtOf q).word.toArray⟩ from by rw [HZ0.out, (sw_some hn).2, if_pos h60, hwd])
      have HR1 := hide (show z1 = true from by rw [HZ1.out, (sw_some hn).1, decide_eq_true h60])
      generalize rtOf q = r at HW2 HR0 hlen
      have h61 : ¬ ((60 : Int) < (r.word.length : Int)) := by omega
      clear hn hwd hlen h60 HW
      go_enter Tryd.func22, Tryd.ntmps22
      go_wp2_with fail
      refine (HW2.out _ HG.out).mono ?_
      rintro e w1 ⟨rfl, hb1⟩
      have q1 := below_to hb1 q0 q0.size rfl rfl rfl rfl
      go_wp2
      go_returns
      exact ⟨by rw [HR0.out, HR1.out]; rfl, q1.alloc q1.size _⟩
    · have HR0 := hide (show z0 = ⟨#[]⟩ from by rw [HZ0.out, (sw_some hn).2, if_neg h60])
      have HR1 := hide (show z1 = false from by rw [HZ1.out, (sw_some hn).1, decide_eq_false h60])
      generalize rtOf q = r at HW2 hlen
      have h61 : ((60 : Int) < (r.word.length : Int)) := by omega
      clear hn hwd hlen h60 HW
      go_enter Tryd.func22, Tryd.ntmps22
      go_wp2_with fail
      refine (HW2.out _ HG.out).mono ?_
      rintro e w1 ⟨rfl, hb1⟩
      have q1 := below_to hb1 q0 q0.size rfl rfl rfl rfl
      go_wp2
      go_returns
      exact ⟨by rw [HR0.out, HR1.out]; rfl, q1.alloc q1.size _⟩
set_option maxHeartbeats 3200000 in
theorem walk_ShortestWay (v0 : ByteArray) (hv0 : v0.size ≤ maxLen) (t0 : St) (hxt0 : (Lit.int .i64 t0.x).wf = true) (hyt0 : (Lit.int .i64 t0.y).wf = true) (t1 : St) (hwt1 : wfS t1)  (w : World) (hg : Glob w) : Calls Tryd.prog 6 #[.string v0, St.v t0, St.v t1] w fun e w' => e = .returned (.bool true) ∧ Below w.heap.size w w' := by
  have HGL := hide hg
  clear hg
  by_cases h0 : v0.size ≤ 1048576
  · have HS0 := hide h0
    obtain ⟨z0, hz0⟩ : ∃ z, z = swV v0 t0 t1 := ⟨_, rfl⟩
    have HZ0 := hide hz0
    clear hz0
    have e0 : (z0.toList != z0.toList) = false := by simp
    obtain ⟨z1, hz1⟩ : ∃ z, z = swB v0 t0 t1 := ⟨_, rfl⟩
    have HZ1 := hide hz1
    clear hz1
    have e1 : (z1 != z1) = false := by simp
    have B0 : IsS ((w.alloc (.cells #[.int .i64 t0.x, .int .i64 t0.y, .int .i64 t0.d.t, .int .i64 t0.d.n, .int .i64 t0.d.e, .int .i64 t0.d.s, .int .i64 t0.d.w, .int .i64 t0.d.b] 25)).alloc (.cells #[.int .i64 t1.x, .int .i64 t1.y, .int .i64 t1.d.t, .int .i64 t1.d.n, .int .i64 t1.d.e, .int .i64 t1.d.s, .int .i64 t1.d.w, .int .i64 t1.d.b] 25)) w.heap.size t0 25 := (IsS.new (s := t0)).alloc _
    have B1 : IsS ((w.alloc (.cells #[.int .i64 t0.x, .int .i64 t0.y, .int .i64 t0.d.t, .int .i64 t0.d.n, .int .i64 t0.d.e, .int .i64 t0.d.s, .int .i64 t0.d.w, .int .i64 t0.d.b] 25)).alloc (.cells #[.int .i64 t1.x, .int .i64 t1.y, .int .i64 t1.d.t, .int .i64 t1.d.n, .int .i64 t1.d.e, .int .i64 t1.d.s, .int .i64 t1.d.w, .int .i64 t1.d.b] 25)) (w.alloc (.cells #[.int .i64 t0.x, .int .i64 t0.y, .int .i64 t0.d.t, .int .i64 t0.d.n, .int .i64 t0.d.e, .int .i64 t0.d.s, .int .i64 t0.d.w, .int .i64 t0.d.b] 25)).heap.size t1 25 := IsS.new (s := t1)
    simp only [World.size_alloc] at B0 B1
    have q0 : Below w.heap.size w ((w.alloc (.cells #[.int .i64 t0.x, .int .i64 t0.y, .int .i64 t0.d.t, .int .i64 t0.d.n, .int .i64 t0.d.e, .int .i64 t0.d.s, .int .i64 t0.d.w, .int .i64 t0.d.b] 25)).alloc (.cells #[.int .i64 t1.x, .int .i64 t1.y, .int .i64 t1.d.t, .int .i64 t1.d.n, .int .i64 t1.d.e, .int .i64 t1.d.s, .int .i64 t1.d.w, .int .i64 t1.d.b] 25)) := by go_grown
    go_enter Tryd.func6, Tryd.ntmps6
    go_upto_region 3 with (fail)
    generalize ((w.alloc (.cells #[.int .i64 t0.x, .int .i64 t0.y, .int .i64 t0.d.t, .int .i64 t0.d.n, .int .i64 t0.d.e, .int .i64 t0.d.s, .int .i64 t0.d.w, .int .i64 t0.d.b] 25)).alloc (.cells #[.int .i64 t1.x, .int .i64 t1.y, .int .i64 t1.d.t, .int .i64 t1.d.n, .int .i64 t1.d.e, .int .i64 t1.d.s, .int .i64 t1.d.w, .int .i64 t1.d.b] 25)) = w0 at B0 B1 q0 ⊢
    obtain ⟨l0, ⟨a0, a1, a2, a3, a4, a5, a6, a7⟩, -⟩ := B0.all
    obtain ⟨l1, ⟨b0, b1, b2, b3, b4, b5, b6, b7⟩, -⟩ := B1.all
    skip
    go_region_held3 (fun w' => w'.cell? ⟨w.heap.size, 0, none⟩ = some (.int .i64 t0.x) ∧ w'.cell? ⟨w.heap.size, 1, none⟩ = some (.int .i64 t0.y) ∧ w'.cell? ⟨w.heap.size, 2, none⟩ = some (.int .i64 t0.d.t) ∧ w'.cell? ⟨w.heap.size, 3, none⟩ = some (.int .i64 t0.d.n) ∧ w'.cell? ⟨w.heap.size, 4, none⟩ = some (.int .i64 t0.d.e) ∧ w'.cell? ⟨w.heap.size, 5, none⟩ = some (.int .i64 t0.d.s) ∧ w'.cell? ⟨w.heap.size, 6, none⟩ = some (.int .i64 t0.d.w) ∧ w'.cell? ⟨w.heap.size, 7, none⟩ = some (.int .i64 t0.d.b) ∧ w'.cell? ⟨w.heap.size + 1, 0, none⟩ = some (.int .i64 t1.x) ∧ w'.cell? ⟨w.heap.size + 1, 1, none⟩ = some (.int .i64 t1.y) ∧ w'.cell? ⟨w.heap.size + 1, 2, none⟩ = some (.int .i64 t1.d.t) ∧ w'.cell? ⟨w.heap.size + 1, 3, none⟩ = some (.int .i64 t1.d.n) ∧ w'.cell? ⟨w.heap.size + 1, 4, none⟩ = some (.int .i64 t1.d.e) ∧ w'.cell? ⟨w.heap.size + 1, 5, none⟩ = some (.int .i64 t1.d.s) ∧ w'.cell? ⟨w.heap.size + 1, 6, none⟩ = some (.int .i64 t1.d.w) ∧ w'.cell? ⟨w.heap.size + 1, 7, none⟩ = some (.int .i64 t1.d.b)) (first | (refine ⟨?_, ?_, ?_, ?_, ?_, ?_, ?_, ?_, ?_, ?_, ?_, ?_, ?_, ?_, ?_, ?_⟩ <;> with_reducible assumption) | (refine ⟨?_, ?_, ?_, ?_, ?_, ?_, ?_, ?_, ?_, ?_, ?_, ?_, ?_, ?_, ?_, ?_⟩ <;> assumption))
      (first
        | (go_at_call 15; (with_reducible refine (toState_any t0 _).mono ?_); rintro e w1 ⟨rfl, hb1⟩; have hB1 : Below w0.drew.heap.size w0.drew w1 := (by with_reducible exact hb1); have C0 := isS_to hB1 B0 rfl; have C1 := isS_to hB1 B1 rfl; have q1 := below_to hB1 q0 q0.size rfl rfl rfl rfl; obtain ⟨m0, ⟨c0, c1, c2, c3, c4, c5, c6, c7⟩, -⟩ := C0.all; obtain ⟨m1, ⟨d0, d1, d2, d3, d4, d5, d6, d7⟩, -⟩ := C1.all; clear hb1)
        | (go_at_call 15; (with_reducible refine (toState_any t1 _).mono ?_); rintro e w2 ⟨rfl, hb2⟩; have D0 := isS_to hb2 C0 rfl; have D1 := isS_to hb2 C1 rfl; have q2 := below_to hb2 q1 q1.size rfl rfl rfl rfl; have hgl := hide (glob_to q2 HGL.out rfl); obtain ⟨n0, ⟨f0, f1, f2, f3, f4, f5, f6, f7⟩, -⟩ := D0.all; obtain ⟨n1, ⟨g0, g1, g2, g3, g4, g5, g6, g7⟩, -⟩ := D1.all; clear hb2)
        | (go_at_call 21; refine (specShortestWay_any v0 t0 t1 _ HS0.out).mono ?_; rintro e w3 ⟨rfl, hb3⟩; rw [← HZ0.out, ← HZ1.out]; have E0 := isS_to hb3 D0 rfl; have E1 := isS_to hb3 D1 rfl; have q3 := below_to hb3 q2 q2.size rfl rfl rfl rfl; obtain ⟨o0, ⟨i0, i1, i2, i3, i4, i5, i6, i7⟩, -⟩ := E0.all; obtain ⟨o1, ⟨j0, j1, j2, j3, j4, j5, j6, j7⟩, -⟩ := E1.all; clear hb3))
    clear a0 a1 a2 a3 a4 a5 a6 a7 b0 b1 b2 b3 b4 b5 b6 b7 l0 l1 c0 c1 c2 c3 c4 c5 c6 c7 d0 d1 d2 d3 d4 d5 d6 d7 m0 m1 f0 f1 f2 f3 f4 f5 f6 f7 g0 g1 g2 g3 g4 g5 g6 g7 n0 n1 i0 i1 i2 i3 i4 i5 i6 i7 j0 j1 j2 j3 j4 j5 j6 j7 o0 o1 B0 B1 C0 C1 D0 D1 q0 q1 q2 hgl
    have B0 := E0
    have B1 := E1
    have q0 := q3
    clear E0 E1 q3
    generalize w3 = w0 at B0 B1 q0 ⊢
    obtain ⟨l0, ⟨a0, a1, a2, a3, a4, a5, a6, a7⟩, -⟩ := B0.all
    obtain ⟨l1, ⟨b0, b1, b2, b3, b4, b5, b6, b7⟩, -⟩ := B1.all
    go_wp2_with fail
    go_region_held3 (fun w' => w'.cell? ⟨w.heap.size, 0, none⟩ = some (.int .i64 t0.x) ∧ w'.cell? ⟨w.heap.size, 1, none⟩ = some (.int .i64 t0.y) ∧ w'.cell? ⟨w.heap.size, 2, none⟩ = some (.int .i64 t0.d.t) ∧ w'.cell? ⟨w.heap.size, 3, none⟩ = some (.int .i64 t0.d.n) ∧ w'.cell? ⟨w.heap.size, 4, none⟩ = some (.int .i64 t0.d.e) ∧ w'.cell? ⟨w.heap.size, 5, none⟩ = some (.int .i64 t0.d.s) ∧ w'.cell? ⟨w.heap.size, 6, none⟩ = some (.int .i64 t0.d.w) ∧ w'.cell? ⟨w.heap.size, 7, none⟩ = some (.int .i64 t0.d.b) ∧ w'.cell? ⟨w.heap.size + 1, 0, none⟩ = some (.int .i64 t1.x) ∧ w'.cell? ⟨w.heap.size + 1, 1, none⟩ = some (.int .i64 t1.y) ∧ w'.cell? ⟨w.heap.size + 1, 2, none⟩ = some (.int .i64 t1.d.t) ∧ w'.cell? ⟨w.heap.size + 1, 3, none⟩ = some (.int .i64 t1.d.n) ∧ w'.cell? ⟨w.heap.size + 1, 4, none⟩ = some (.int .i64 t1.d.e) ∧ w'.cell? ⟨w.heap.size + 1, 5, none⟩ = some (.int .i64 t1.d.s) ∧ w'.cell? ⟨w.heap.size + 1, 6, none⟩ = some (.int .i64 t1.d.w) ∧ w'.cell? ⟨w.heap.size + 1, 7, none⟩ = some (.int .i64 t1.d.b)) (first | (refine ⟨?_, ?_, ?_, ?_, ?_, ?_, ?_, ?_, ?_, ?_, ?_, ?_, ?_, ?_, ?_, ?_⟩ <;> with_reducible assumption) | (refine ⟨?_, ?_, ?_, ?_, ?_, ?_, ?_, ?_, ?_, ?_, ?_, ?_, ?_, ?_, ?_, ?_⟩ <;> assumption))
      (first
        | (go_at_call 15; (with_reducible refine (toState_any t0 _).mono ?_); rintro e w1 ⟨rfl, hb1⟩; have hB1 : Below w0.drew.heap.size w0.drew w1 := (by with_reducible exact hb1); have C0 := isS_to hB1 B0 rfl; have C1 := isS_to hB1 B1 rfl; have q1 := below_to hB1 q0 q0.size rfl rfl rfl rfl; obtain ⟨m0, ⟨c0, c1, c2, c3, c4, c5, c6, c7⟩, -⟩ := C0.all; obtain ⟨m1, ⟨d0, d1, d2, d3, d4, d5, d6, d7⟩, -⟩ := C1.all; clear hb1)
        | (go_at_call 15; (with_reducible refine (toState_any t1 _).mono ?_); rintro e w2 ⟨rfl, hb2⟩; have D0 := isS_to hb2 C0 rfl; have D1 := isS_to hb2 C1 rfl; have q2 := below_to hb2 q1 q1.size rfl rfl rfl rfl; have hgl := hide (glob_to q2 HGL.out rfl); obtain ⟨n0, ⟨f0, f1, f2, f3, f4, f5, f6, f7⟩, -⟩ := D0.all; obtain ⟨n1, ⟨g0, g1, g2, g3, g4, g5, g6, g7⟩, -⟩ := D1.all; clear hb2)
        | (go_at_call 22; refine (implShortestWay_any v0 t0 t1 hwt1 _ HS0.out hgl.out).mono ?_; rintro e w3 ⟨rfl, hb3⟩; rw [← HZ0.out, ← HZ1.out]; have E0 := isS_to hb3 D0 rfl; have E1 := isS_to hb3 D1 rfl; have q3 := below_to hb3 q2 q2.size rfl rfl rfl rfl; obtain ⟨o0, ⟨i0, i1, i2, i3, i4, i5, i6, i7⟩, -⟩ := E0.all; obtain ⟨o1, ⟨j0, j1, j2, j3, j4, j5, j6, j7⟩, -⟩ := E1.all; clear hb3))
    clear a0 a1 a2 a3 a4 a5 a6 a7 b0 b1 b2 b3 b4 b5 b6 b7 l0 l1 c0 c1 c2 c3 c4 c5 c6 c7 d0 d1 d2 d3 d4 d5 d6 d7 m0 m1 f0 f1 f2 f3 f4 f5 f6 f7 g0 g1 g2 g3 g4 g5 g6 g7 n0 n1 i0 i1 i2 i3 i4 i5 i6 i7 j0 j1 j2 j3 j4 j5 j6 j7 o0 o1 B0 B1 C0 C1 D0 D1 q0 q1 q2 hgl
    have B0 := E0
    have B1 := E1
    have q0 := q3
    clear E0 E1 q3
    generalize w3 = w0 at B0 B1 q0 ⊢
    go_wp2
    go_returns
    exact ⟨rfl, q0⟩
  · go_enter Tryd.func6, Tryd.ntmps6
    go_wp2
    go_returns
    exact ⟨rfl, by go_grown⟩
end Go.Proofs.YthdkhikkdcjifaaDoor
