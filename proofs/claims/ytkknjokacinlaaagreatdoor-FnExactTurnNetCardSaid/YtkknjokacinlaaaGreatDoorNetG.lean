/- The program's rolledOver. Condition: the rows of a text that is filled and has six digits. The program's landingsOnSix, and small functions of landings. Condition: at most 1048576 bytes. -/
import Derived.Test.YtkknjokacinlaaaGreatDoorNetE
import Derived.Test.YtkknjokacinlaaaGreatDoorNetP
import Derived.Test.YtkknjokacinlaaaGreatDoorBuf
namespace Go.Proofs.YtkknjokacinlaaaGreatDoor
set_option maxRecDepth 100000
set_option linter.all false
open Go.RowKit

def scopeOfN : Option Code → Option Code
  | some (.seq _ (.scope c)) => some c
  | _ => none
theorem rdC_eq : rdC = (scopeOfN Tryz.f36.body).getD .skip := rfl
/-- The frame of rolledOver as its scope begins. -/
def RF0 (a : Act) (rows : Value) : Prop := ∃ U : Nat → Value, a = { tmps := #[rows, U 1, U 2, U 3, U 4, U 5, U 6, U 7, U 8, U 9, U 10, U 11, U 12, U 13, U 14, U 15, U 16, U 17, U 18, U 19, U 20, U 21, U 22, U 23, U 24, U 25, U 26, U 27, U 28, U 29, U 30, U 31, U 32, U 33, U 34, U 35, U 36, U 37, U 38, U 39, U 40, U 41, U 42, U 43, U 44, U 45, U 46, U 47, U 48, U 49, U 50, U 51, U 52, U 53, U 54, U 55, U 56, U 57, U 58], defers := [] }
theorem rf0_of {a : Act} {rows : Value} (hs : a.tmps.size = 59) (hd : a.defers = []) (h0 : a.tmps.getD 0 undef = rows) : RF0 a rows := by
  refine ⟨fun i => a.tmps.getD i undef, ?_⟩
  obtain ⟨t, d⟩ := a
  simp only at hs hd h0
  subst hd
  have e := tmps_listN t
  rw [hs] at e
  rw [← h0]
  congr 1
theorem idx_first {l : List UInt8} {W H : Nat} (h : Filled l W H) : idxP isDig (rowG (splitP l) 0) = (firstX l : Int) := by
  obtain ⟨r, rs, e⟩ := splitP_cons l
  have hf := h.fill
  unfold filledB at hf
  rw [Bool.and_eq_true] at hf
  have hr := List.all_eq_true.1 hf.1 r (by rw [e]; simp)
  rw [Bool.and_eq_true, Bool.and_eq_true] at hr
  unfold idxP firstX rowG
  rw [e]
  show (if r.any isDig = true then ((r.findIdx isDig : Nat) : Int) else -1) = ((r.findIdx isDig : Nat) : Int)
  rw [if_pos hr.1.2]
theorem rows_ne {w : World} {h g : Nat} {l : List UInt8} {W H : Nat} (hl : LabAt w h g l W H) (hH : 0 < H) (hL : 0 < l.length) : h ≠ g := by
  rintro rfl
  have h1 := hl.2.2 0 hH
  have h2 := (hl.2.1.cell (List.getElem?_eq_getElem hL)).1
  rw [h1] at h2
  cases h2
/-- What leads to the label. -/
def BeginSays (c0 rl : Code) : Prop :=
  ∀ (QJ : Exit → Act → World → Prop) (l : List UInt8) (W H h g cap : Nat) (w0 : World) (a : Act) (_hf : Filled l W H) (_hR : RowsIn w0 h g l) (_hne : h ≠ g) (_F : RF0 a (.slice (some ⟨h, 0, none⟩) H cap))
    (_hc : ∀ a w lv, RF a (.slice (some ⟨h, 0, none⟩) H cap) lv 0 → RW l W H h g w0 w [startL l] lv → rl.wp Tryz.prog QJ a w), c0.wp Tryz.prog QJ a w0
theorem rw_start {l : List UInt8} {W H h g : Nat} {w0 w1 w3 : World} {x : Nat} {p : Ld} (hf : Filled l W H) (hL : LabAt w0 h g l W H) (hne : h ≠ g) (hx : x = firstX l) (hb : Below w0.heap.size w0 w1) (B3 : BufAt w3 g (putN W l ⟨(x : Int), 0, unitD⟩)) (G3 : w1.grownBy w3 (some g)) (hp : p = ldOf l (startL l)) :
    RW l W H h g w0 (w3.alloc (.cells #[.int .i64 p.n, .int .i64 p.s.x, .int .i64 p.s.y, .int .i64 p.s.d.t, .int .i64 p.s.d.n, .int .i64 p.s.d.e, .int .i64 p.s.d.s, .int .i64 p.s.d.w, .int .i64 p.s.d.b, .int .i64 p.r] 59)) [startL l] (.slice (some ⟨w3.heap.size, 0, none⟩) 1 1) := by
  have hlt := hL.1
  have hG : w0.grownBy w3 (some g) := grown_trans (grown_below hb _) G3
  have e3 : LabAt w3 h g (putN W l ⟨(x : Int), 0, unitD⟩) W H := by
    obtain ⟨h1, h2, h3⟩ := hL
    refine ⟨Nat.lt_of_lt_of_le h1 hG.size, B3, fun k hk' => ?_⟩
    rw [World.cell?_of_block (a := ⟨h, k, none⟩) (hG.block h h1 (fun e => hne (Option.some.inj e)))]
    exact h3 k hk'
  have hf1 := hf.first.1
  refine ⟨⟨_, ?_, labAt_to ((Below.refl _ _).alloc (Nat.le_refl _) _) e3 rfl⟩, ?_, grown_trans hG (grown_below ((Below.refl _ _).alloc (Nat.le_refl _) _) _)⟩
  · have := (Wiped.start hf).put (s := ⟨(x : Int), 0, unitD⟩) (x := x) (y := 0) rfl rfl (by omega) hf.h1 0
    rw [hx] at this
    rw [hx]
    exact this
  · have := World.ownsRow_lit (base := w0.heap.size) (e := 59) (size := 10) w3 #[.int .i64 p.n, .int .i64 p.s.x, .int .i64 p.s.y, .int .i64 p.s.d.t, .int .i64 p.s.d.n, .int .i64 p.s.d.e, .int .i64 p.s.d.s, .int .i64 p.s.d.w, .int .i64 p.s.d.b, .int .i64 p.r] 1 hG.size (by unfold maxLen; omega) rfl
    rw [hp] at this ⊢
    exact this
set_option maxHeartbeats 3200000 in
theorem ro_begin : ∃ c0 rl, scopeOfN Tryz.f36.body = some c0 ∧ findLabel rdC 0 = some (.seq .skip rl) ∧ BeginSays c0 rl := by
  refine ⟨_, _, rfl, rfl, ?_⟩
  intro QJ l W H h g cap w0 a hf hR hne F hc
  obtain ⟨U, rfl⟩ := F
  have hL := labAt_rows hR hf
  have ck : w0.cell? ⟨h, 0, none⟩ = some (.slice (some ⟨g, 0, none⟩) W W) := by
    have := hL.2.2 0 hf.h1
    simpa using this
  have hH1 : (0 : Int) < (H : Int) := by have := hf.h1; omega
  have hr0 : rowG (splitP l) 0 ∈ splitP l := List.mem_of_getElem? (rowG_get (splitP l) 0 (by rw [hf.hh]; exact hf.h1))
  have hrl : (rowG (splitP l) 0).length = W := hf.even _ hr0
  have hS := hR.signs (k := 0) (by rw [hf.hh]; exact hf.h1)
  rw [offG_zero] at hS
  have HIX := idxDig_any g 0 W (rowG (splitP l) 0) w0 (by rw [hrl]; have := hf.w6; omega) hS
  rw [hrl, idx_first hf] at HIX
  obtain ⟨x, hx⟩ : ∃ x, x = firstX l := ⟨_, rfl⟩
  rw [← hx] at HIX
  have HIX := hide HIX
  obtain ⟨c, hcc⟩ : ∃ c, c = cellI (splitP l) (x : Int) 0 := ⟨_, rfl⟩
  have hdc : isDig c = true := by rw [hcc, hx]; exact hf.first.2.1
  have hxW : x < W := by rw [hx]; exact hf.first.1
  have HLD := hide (fun (wx : World) (ha : LabAt wx h g l W H) => landed_any l W H h g cap hf.even hf.hh (by have := hf.w6; omega) (by have := hf.h6; omega) unitD x 0 hxW hf.h1 c hcc.symm hdc 0 wx ha)
  have HPP := hide (show (⟨(c.toNat : Int) - 48, ⟨(x : Int), ((0 : Nat) : Int), unitD⟩, 0⟩ : Ld) = ldOf l (startL l) from by rw [hcc, hx]; rfl)
  have HFI := hide hf
  have HL := hide hL
  have HNE := hide hne
  have HX := hide hx
  have HC := hide hc
  have HQ1 := hide (show ∀ o : Obj, Below w0.heap.size w0 (w0.alloc o) from fun o => (Below.refl _ _).alloc (Nat.le_refl _) o)
  have hhl := hL.1
  clear hf hR hne hc hL hr0 hrl hS hx hcc hdc hxW
  go_wp2_with (first | (go_at_call 50; (with_reducible refine HIX.out.mono ?_); rintro e w2 ⟨rfl, rfl⟩) | (go_at_call 51; (refine (dieOf_any ⟨0, 1, 2, 3, 4, 5⟩ _).mono ?_); rintro e w1 ⟨rfl, hb1⟩) | (go_at_call 52; (refine (HLD.out _ (labAt_to (hb1.alloc hb1.size _) HL.out rfl)).mono ?_); rintro e w3 ⟨rfl, B3, G3⟩; have HB3 := hide B3; have HG3 := hide G3; clear B3 G3))
  go_step3
  simp only [Exit.then]
  apply_assumption
  exact HC.out _ _ _ (rf_of rfl rfl rfl rfl rfl) (rw_start HFI.out HL.out HNE.out HX.out (hb1.alloc hb1.size _) HB3.out HG3.out HPP.out)
theorem ret_oneN {fn : Func} {t : Tmp} {R : Ending → World → Prop} {a : Act} {w : World} {v : Value} (h : fn.results = #[.tmp t]) (hv : a.tmps.getD t undef = v) (hd : a.defers = []) (hr : R (.returned v) w) : bodyPost Tryz.prog fn R .ret a w :=
  bodyPost_ret (results_tmp h _ _ _) hd (by rw [hv]; exact hr)
/-- What is handed back. -/
def RoPost (l : List UInt8) (g : Nat) (w0 : World) (e : Ending) (w' : World) : Prop := ∃ g' cap' Qs, e = .returned (.slice (some ⟨g', 0, none⟩) (lgs l).length cap') ∧ w0.heap.size ≤ g' ∧ LandsAt w' g' Qs ∧ Qs.Perm ((lgs l).map (ldOf l)) ∧ SortedL Qs ∧ w0.grownBy w' (some g)
/-- What holds at each jump. -/
def RoJ (l : List UInt8) (W H h g cap : Nat) (w0 : World) (a : Act) (w : World) : Prop := ∃ n Q q lv, RF a (.slice (some ⟨h, 0, none⟩) H cap) lv n ∧ RW l W H h g w0 w Q lv ∧ GoodQ l Q ∧ Q[n]? = some q ∧ goL l (7 - n) n Q = lgs l
theorem ro_go {l : List UInt8} {W H : Nat} (hf : Filled l W H) {n : Nat} {Q : List Lg} {q : Lg} (hG : GoodQ l Q) (hq : Q[n]? = some q) (hgo : goL l (7 - n) n Q = lgs l) : n < 6 ∧ GoodQ l (stepsL l q 4 Q) ∧ goL l (7 - (n + 1)) (n + 1) (stepsL l q 4 Q) = lgs l := by
  have h1 := hG.le hf.toGrid6
  have h2 := (List.getElem?_eq_some_iff.1 hq).1
  refine ⟨by omega, hG.steps (List.mem_of_getElem? hq) 4 (by omega), ?_⟩
  rw [← hgo, show 7 - n = (7 - (n + 1)) + 1 from by omega, goL_hit hq]
theorem rolledOver_any (l : List UInt8) (W H h g cap : Nat) (hf : Filled l W H) (w0 : World) (hR : RowsIn w0 h g l) : Calls Tryz.prog 36 #[.slice (some ⟨h, 0, none⟩) H cap] w0 (RoPost l g w0) := by
  obtain ⟨rl, hrl, HP⟩ := ro_pass
  obtain ⟨c0, rl', hc0, hrl', HB⟩ := ro_begin
  obtain rfl : rl = rl' := by rw [hrl] at hrl'; injection hrl' with e; injection e
  have hrc : rdC = c0 := by rw [rdC_eq, hc0]; rfl
  have hL := labAt_rows hR hf
  have hll : 0 < l.length := by
    have h1 := even_len hf.even
    rw [hf.hh] at h1
    have h2 : 1 * (W + 1) ≤ H * (W + 1) := Nat.mul_le_mul_right _ hf.h1
    have := hf.w1
    omega
  have hne := rows_ne hL hf.h1 hll
  have hh := hL.1
  have hg := hL.2.1.lt
  have key : ∀ Q : Exit → Act → World → Prop, (∀ a w' v, a.tmps.getD 2 undef = v → a.defers = [] → RoPost l g w0 (.returned v) w' → Q .ret a w') → ∀ a, RF0 a (.slice (some ⟨h, 0, none⟩) H cap) → (Code.scope rdC).wp Tryz.prog Q a w0 := by
    intro Q hQ a F
    -- a pass from the label
    have step : ∀ (J : Act → World → Prop) (n : Nat) (Q0 : List Lg) (q : Lg) (lv : Value) (a : Act) (w : World), RF a (.slice (some ⟨h, 0, none⟩) H cap) lv n → RW l W H h g w0 w Q0 lv → GoodQ l Q0 → Q0[n]? = some q → goL l (7 - n) n Q0 = lgs l →
        (∀ a w lv' q', RF a (.slice (some ⟨h, 0, none⟩) H cap) lv' (n + 1) → RW l W H h g w0 w (stepsL l q 4 Q0) lv' → (stepsL l q 4 Q0)[n + 1]? = some q' → J a w) → rl.wp Tryz.prog (Exit.jump 0 J Q) a w := by
      intro J n Q0 q lv a w hF hW hG hq hgo hJ
      obtain ⟨-, -, k3⟩ := ro_go hf hG hq hgo
      refine HP (Exit.jump 0 J Q) l W H h g cap w0 n Q0 q lv a w hf hh hg hne hF hW hG hq ?_ ?_
      · intro hlt a1 w1 lv1 hF1 hW1
        exact ⟨rfl, hJ a1 w1 lv1 _ hF1 hW1 (List.getElem?_eq_getElem hlt)⟩
      · intro hle a1 w1 lv1 hv hd hp hgr
        obtain ⟨g', cap', Qs, e1, e2, e3, e4, e5⟩ := hp
        rw [goL_end hle] at k3
        rw [k3] at e1 e4
        exact hQ a1 w1 lv1 hv hd ⟨g', cap', Qs, by rw [e1], e2, e3, e4, e5, hgr⟩
    refine wp_scope_jumps 0 (RoJ l W H h g cap w0) (fun a _ => 7 - (intOf (a.tmps.getD 5 undef)).toNat) hrl ?_ ?_
    · rw [hrc]
      refine HB _ l W H h g cap w0 a hf hR hne F (fun a1 w1 lv1 hF1 hW1 => ?_)
      have hgo : goL l (7 - 0) 0 [startL l] = lgs l := rfl
      obtain ⟨k1, k2, k3⟩ := ro_go hf hf.start (q := startL l) rfl hgo
      exact step _ 0 [startL l] (startL l) lv1 a1 w1 hF1 hW1 hf.start rfl hgo (fun a2 w2 lv2 q2 hF2 hW2 hq2 => ⟨1, _, q2, lv2, hF2, hW2, k2, hq2, k3⟩)
    · intro a1 w1 hJ
      obtain ⟨n, Q0, q, lv, hF, hW, hG, hq, hgo⟩ := hJ
      obtain ⟨k1, k2, k3⟩ := ro_go hf hG hq hgo
      refine skip_seqN (step _ n Q0 q lv a1 w1 hF hW hG hq hgo (fun a2 w2 lv2 q2 hF2 hW2 hq2 => ⟨⟨n + 1, _, q2, lv2, hF2, hW2, k2, hq2, k3⟩, ?_⟩))
      rw [hF.here, hF2.here]
      simp only [intOf]
      omega
  have KEY := hide key
  clear hf hR HB HP hc0 hrl hrl' hrc hL hll hne hh hg key
  go_enter Tryz.func36, Tryz.ntmps36
  go_wp2
  refine KEY.out _ ?_ _ (rf0_of rfl rfl rfl)
  intro a w' v hv hd hp
  exact ret_oneN rfl hv hd hp
end Go.Proofs.YtkknjokacinlaaaGreatDoor
namespace Go.Proofs.YtkknjokacinlaaaGreatDoor
set_option maxRecDepth 100000
set_option linter.all false
open Go.RowKit

theorem below_grown {B : Nat} {a b c : World} {g : Nat} (h : Below B a b) (k : b.grownBy c (some g)) (hB : B ≤ b.heap.size) (hg : B ≤ g) : Below B a c := h.grown k hB (fun j e => by rw [← Option.some.inj e]; exact hg)
/-- What landingsOnSix hands back. -/
def SixPost (l : List UInt8) (w : World) (e : Ending) (w' : World) : Prop :=
  (sixB l = true ∧ ∃ g' cap', e = .returned (.tuple #[.slice (some ⟨g', 0, none⟩) 6 cap', .bool true]) ∧ w.heap.size ≤ g' ∧ LandsAt w' g' (lands l) ∧ Below w.heap.size w w') ∨
  (sixB l = false ∧ ∃ v, e = .returned (.tuple #[v, .bool false]) ∧ Below w.heap.size w w')
theorem six_of {l : List UInt8} (h1 : cntD l = 6) (h2 : filledB l = true) (h3 : (lgs l).length = 6) : sixB l = true := by unfold sixB; rw [h1, h2, h3]; rfl
theorem six_no1 {l : List UInt8} (h : ¬ cntD l = 6) : sixB l = false := by unfold sixB; rw [decide_eq_false h]; rfl
theorem six_no2 {l : List UInt8} (h : filledB l = false) : sixB l = false := by unfold sixB; rw [h]; simp
theorem six_no3 {l : List UInt8} (h : ¬ (lgs l).length = 6) : sixB l = false := by unfold sixB; rw [decide_eq_false h]; simp
set_option maxHeartbeats 3200000 in
theorem landingsOnSix_any (s : ByteArray) (w : World) (hs : s.size ≤ 1048576) : Calls Tryz.prog 24 #[.string s] w (SixPost s.data.toList w) := by
  obtain ⟨l, hl⟩ : ∃ l, l = s.data.toList := ⟨_, rfl⟩
  have hls : l.length ≤ 1048576 := by rw [hl]; simpa using hs
  obtain ⟨cap, W1, hcv, hcap, B1, q1, hz⟩ := bytes_new s w
  have hcut := cutG_any s.data.toList w.heap.size s.size cap (by simp) hs hcap W1 B1
  have hcn := fun wx => countLabels_any s wx hs
  rw [← hl] at hcut hcn B1 ⊢
  obtain ⟨H, hH⟩ : ∃ H, H = (splitP l).length := ⟨_, rfl⟩
  have haf := fun h cap wx (hR : RowsIn wx h w.heap.size l) => areFilled_any l h w.heap.size cap wx hls hR
  rw [← hH] at hcut
  simp only [← hH] at haf
  have HCUT := hide hcut
  have HB1 := hide B1
  have HH := hide hH
  have HQ1 := hide q1
  clear hcut B1 q1 hl hs hz
  by_cases hc : cntD l = 6
  · have hcn' : ∀ wx, Calls Tryz.prog 34 #[.string s] wx fun e w' => e = .returned (.int .i64 6) ∧ wx = w' := fun wx => by
      have := hcn wx
      rw [hc] at this
      exact this
    have HCN := hide hcn'
    clear hcn hcn'
    cases hf : filledB l
    · simp only [hf] at haf
      have HAF := hide haf
      have HY := hide (six_no2 hf)
      clear haf hf hc hH
      go_enter Tryz.func24, Tryz.ntmps24
      go_wp2_with (first | (go_at_call 33; (with_reducible refine HCUT.out.mono ?_); rintro e w2 ⟨h, cap2, rfl, O2, hb2⟩; have HR2 := hide (rowsIn_new (bufAt_to hb2 HB1.out rfl) HH.out O2); have HQ2 := hide (below_after HQ1.out hb2 HQ1.out.size); clear O2 hb2) | (go_at_call 34; (with_reducible refine (HCN.out _).mono ?_); rintro e w3 ⟨rfl, rfl⟩) | (go_at_call 35; (with_reducible refine (HAF.out h cap2 w2 HR2.out).mono ?_); rintro e w4 ⟨rfl, hb4⟩; have HR4 := hide (rowsIn_to hb4 HR2.out rfl); have HQ4 := hide (below_after HQ2.out hb4 HQ2.out.size); clear hb4))
      go_returns
      exact .inr ⟨HY.out, _, rfl, HQ4.out⟩
    · simp only [hf] at haf
      have HAF := hide haf
      have hF := filled_of hf hc
      have hro : ∀ h cap wx (_ : RowsIn wx h w.heap.size l), Calls Tryz.prog 36 #[.slice (some ⟨h, 0, none⟩) (splitP l).length cap] wx fun e w' => ∃ g' cap' Qs, e = .returned (.slice (some ⟨g', 0, none⟩) (lgs l).length cap') ∧ wx.heap.size ≤ g' ∧ LandsAt w' g' Qs ∧ Qs.Perm ((lgs l).map (ldOf l)) ∧ SortedL Qs ∧ wx.grownBy w' (some w.heap.size) := fun h cap wx (hR : RowsIn wx h w.heap.size l) => rolledOver_any l _ _ h w.heap.size cap hF wx hR
      rw [← hH] at hro
      have HF := hide hF
      by_cases h6 : (lgs l).length = 6
      · simp only [h6] at hro
        have HRO := hide hro
        have HY := hide (six_of hc hf h6)
        have H6 := hide h6
        clear haf hf hc hH hro hF h6
        go_enter Tryz.func24, Tryz.ntmps24
        go_wp2_with (first | (go_at_call 33; (with_reducible refine HCUT.out.mono ?_); rintro e w2 ⟨h, cap2, rfl, O2, hb2⟩; have HR2 := hide (rowsIn_new (bufAt_to hb2 HB1.out rfl) HH.out O2); have HQ2 := hide (below_after HQ1.out hb2 HQ1.out.size); clear O2 hb2) | (go_at_call 34; (with_reducible refine (HCN.out _).mono ?_); rintro e w3 ⟨rfl, rfl⟩) | (go_at_call 35; (with_reducible refine (HAF.out h cap2 w2 HR2.out).mono ?_); rintro e w4 ⟨rfl, hb4⟩; have HR4 := hide (rowsIn_to hb4 HR2.out rfl); have HQ4 := hide (below_after HQ2.out hb4 HQ2.out.size); clear hb4) | (go_at_call 36; (with_reducible refine (HRO.out h cap2 w4 HR4.out).mono ?_); rintro e w5 ⟨g5, cap5, Qs, rfl, hg5, P1, P2, P3, G5⟩; have HP1 := hide P1; have HP2 := hide P2; have HP3 := hide P3; have HG5 := hide G5; clear P1 P2 P3 G5))
        go_returns
        have e := sorted_lands HF.out H6.out HP2.out HP3.out
        refine .inl ⟨HY.out, g5, cap5, rfl, Nat.le_trans HQ4.out.size hg5, ?_, below_grown HQ4.out HG5.out HQ4.out.size (Nat.le_refl _)⟩
        rw [← e]
        exact HP1.out
      · have HY := hide (six_no3 h6)
        have e6 : (((lgs l).length : Int) == 6) = false := beq_eq_false_iff_ne.2 (by omega)
        generalize (lgs l).length = m6 at *
        have HRO := hide hro
        clear haf hf hc hH hro hF h6
        go_enter Tryz.func24, Tryz.ntmps24
        go_wp2_with (first | (go_at_call 33; (with_reducible refine HCUT.out.mono ?_); rintro e w2 ⟨h, cap2, rfl, O2, hb2⟩; have HR2 := hide (rowsIn_new (bufAt_to hb2 HB1.out rfl) HH.out O2); have HQ2 := hide (below_after HQ1.out hb2 HQ1.out.size); clear O2 hb2) | (go_at_call 34; (with_reducible refine (HCN.out _).mono ?_); rintro e w3 ⟨rfl, rfl⟩) | (go_at_call 35; (with_reducible refine (HAF.out h cap2 w2 HR2.out).mono ?_); rintro e w4 ⟨rfl, hb4⟩; have HR4 := hide (rowsIn_to hb4 HR2.out rfl); have HQ4 := hide (below_after HQ2.out hb4 HQ2.out.size); clear hb4) | (go_at_call 36; (with_reducible refine (HRO.out h cap2 w4 HR4.out).mono ?_); rintro e w5 ⟨g5, cap5, Qs, rfl, hg5, P1, P2, P3, G5⟩; have HP1 := hide P1; have HP2 := hide P2; have HP3 := hide P3; have HG5 := hide G5; clear P1 P2 P3 G5))
        go_returns
        exact .inr ⟨HY.out, _, rfl, below_grown HQ4.out HG5.out HQ4.out.size (Nat.le_refl _)⟩
  · have HCN := hide hcn
    have HY := hide (six_no1 hc)
    have hl20 : cntD l ≤ 4294967296 := by
      unfold cntD
      exact Nat.le_trans List.countP_le_length (by omega)
    have e1 : (((cntD l : Nat) : Int) != 6) = true := bne_iff_ne.2 (by omega)
    generalize cntD l = m at *
    clear haf hcn hc hH
    go_enter Tryz.func24, Tryz.ntmps24
    go_wp2_with (first | (go_at_call 33; (with_reducible refine HCUT.out.mono ?_); rintro e w2 ⟨h, cap2, rfl, O2, hb2⟩; have HR2 := hide (rowsIn_new (bufAt_to hb2 HB1.out rfl) HH.out O2); have HQ2 := hide (below_after HQ1.out hb2 HQ1.out.size); clear O2 hb2) | (go_at_call 34; (with_reducible refine (HCN.out _).mono ?_); rintro e w3 ⟨rfl, rfl⟩))
    go_returns
    exact .inr ⟨HY.out, _, rfl, HQ2.out⟩
/-- The face that lies on the digit. -/
theorem place_any (q : Ld) (w : World) : Calls Tryz.prog 25 #[Ld.v q] w fun e w' => e = .returned (.int .i64 q.s.d.b) ∧ Below w.heap.size w w' := by
  go_enter Tryz.func25, Tryz.ntmps25
  go_wp2
  go_returns
  exact ⟨rfl, by go_grown⟩
end Go.Proofs.YtkknjokacinlaaaGreatDoor
