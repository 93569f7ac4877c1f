/- The model's search for tours, walked. -/
import Derived.Test.YtkknjokacinlaaaDoorTourS
import Derived.Deep.CutRange
import Derived.Deep.QuietTactic
namespace Go.Proofs.YtkknjokacinlaaaDoor
set_option maxRecDepth 100000
set_option linter.all false
open Go.RowKit

theorem lk_cutA {G : TG} {tb sb : Nat} {l L : List UInt8} {w wr w2 : World} {s r : St} {m c M : Nat} {f : List UInt8} (T : SL G tb l wr L m f c M) (S : IsS wr sb s 30) (K : Kept tb G.gs w wr)
    (hb : Below (wr.alloc (.cells #[.int .i64 0, .int .i64 0, .int .i64 0, .int .i64 0, .int .i64 0, .int .i64 0, .int .i64 0, .int .i64 0] 30)).drew.heap.size (wr.alloc (.cells #[.int .i64 0, .int .i64 0, .int .i64 0, .int .i64 0, .int .i64 0, .int .i64 0, .int .i64 0, .int .i64 0] 30)).drew w2) (N : IsS w2 wr.heap.size ⟨0, 0, ⟨0, 0, 0, 0, 0, 0⟩⟩ 30) : IsS ((((((((w2.setCell ⟨wr.heap.size, 0, none⟩ (.int .i64 r.x)).setCell ⟨wr.heap.size, 1, none⟩ (.int .i64 r.y)).setCell ⟨wr.heap.size, 2, none⟩ (.int .i64 r.d.t)).setCell ⟨wr.heap.size, 3, none⟩ (.int .i64 r.d.n)).setCell ⟨wr.heap.size, 4, none⟩ (.int .i64 r.d.e)).setCell ⟨wr.heap.size, 5, none⟩ (.int .i64 r.d.s)).setCell ⟨wr.heap.size, 6, none⟩ (.int .i64 r.d.w)).setCell ⟨wr.heap.size, 7, none⟩ (.int .i64 r.d.b)) wr.heap.size r 30 ∧ (wr.heap.size ≠ tb ∧ wr.heap.size ≠ G.gs ∧ wr.heap.size ≠ sb) ∧ SL G tb l ((((((((w2.setCell ⟨wr.heap.size, 0, none⟩ (.int .i64 r.x)).setCell ⟨wr.heap.size, 1, none⟩ (.int .i64 r.y)).setCell ⟨wr.heap.size, 2, none⟩ (.int .i64 r.d.t)).setCell ⟨wr.heap.size, 3, none⟩ (.int .i64 r.d.n)).setCell ⟨wr.heap.size, 4, none⟩ (.int .i64 r.d.e)).setCell ⟨wr.heap.size, 5, none⟩ (.int .i64 r.d.s)).setCell ⟨wr.heap.size, 6, none⟩ (.int .i64 r.d.w)).setCell ⟨wr.heap.size, 7, none⟩ (.int .i64 r.d.b)) L m f c M ∧ IsS ((((((((w2.setCell ⟨wr.heap.size, 0, none⟩ (.int .i64 r.x)).setCell ⟨wr.heap.size, 1, none⟩ (.int .i64 r.y)).setCell ⟨wr.heap.size, 2, none⟩ (.int .i64 r.d.t)).setCell ⟨wr.heap.size, 3, none⟩ (.int .i64 r.d.n)).setCell ⟨wr.heap.size, 4, none⟩ (.int .i64 r.d.e)).setCell ⟨wr.heap.size, 5, none⟩ (.int .i64 r.d.s)).setCell ⟨wr.heap.size, 6, none⟩ (.int .i64 r.d.w)).setCell ⟨wr.heap.size, 7, none⟩ (.int .i64 r.d.b)) sb s 30 ∧ Kept tb G.gs w ((((((((w2.setCell ⟨wr.heap.size, 0, none⟩ (.int .i64 r.x)).setCell ⟨wr.heap.size, 1, none⟩ (.int .i64 r.y)).setCell ⟨wr.heap.size, 2, none⟩ (.int .i64 r.d.t)).setCell ⟨wr.heap.size, 3, none⟩ (.int .i64 r.d.n)).setCell ⟨wr.heap.size, 4, none⟩ (.int .i64 r.d.e)).setCell ⟨wr.heap.size, 5, none⟩ (.int .i64 r.d.s)).setCell ⟨wr.heap.size, 6, none⟩ (.int .i64 r.d.w)).setCell ⟨wr.heap.size, 7, none⟩ (.int .i64 r.d.b)) := by
  have hb8 : Below wr.heap.size wr ((((((((w2.setCell ⟨wr.heap.size, 0, none⟩ (.int .i64 r.x)).setCell ⟨wr.heap.size, 1, none⟩ (.int .i64 r.y)).setCell ⟨wr.heap.size, 2, none⟩ (.int .i64 r.d.t)).setCell ⟨wr.heap.size, 3, none⟩ (.int .i64 r.d.n)).setCell ⟨wr.heap.size, 4, none⟩ (.int .i64 r.d.e)).setCell ⟨wr.heap.size, 5, none⟩ (.int .i64 r.d.s)).setCell ⟨wr.heap.size, 6, none⟩ (.int .i64 r.d.w)).setCell ⟨wr.heap.size, 7, none⟩ (.int .i64 r.d.b)) := below_set8 (below_to hb ((Below.refl wr.heap.size wr).alloc (Nat.le_refl _) (.cells #[.int .i64 0, .int .i64 0, .int .i64 0, .int .i64 0, .int .i64 0, .int .i64 0, .int .i64 0, .int .i64 0] 30)) (by simp) rfl rfl rfl rfl) (Nat.le_refl _) r
  have h1 := T.t.lt
  have h2 := own_lt2 T.sn
  have h3 := S.lt
  exact ⟨N.set8 r, ⟨by omega, by omega, by omega⟩, T.to hb8 rfl, isS_to hb8 S rfl, K.to hb8 rfl rfl rfl rfl⟩
theorem lk_cutB {G : TG} {tb sb : Nat} {l L : List UInt8} {w wr w2 : World} {s r : St} {m c M : Nat} {f : List UInt8} (T : SL G tb l wr L m f c M) (S : IsS wr sb s 30) (K : Kept tb G.gs w wr)
    (hb : Below wr.drew.heap.size wr.drew w2) : IsS (w2.alloc (.cells #[.int .i64 r.x, .int .i64 r.y, .int .i64 r.d.t, .int .i64 r.d.n, .int .i64 r.d.e, .int .i64 r.d.s, .int .i64 r.d.w, .int .i64 r.d.b] 30)) w2.heap.size r 30 ∧ (w2.heap.size ≠ tb ∧ w2.heap.size ≠ G.gs ∧ w2.heap.size ≠ sb) ∧ SL G tb l (w2.alloc (.cells #[.int .i64 r.x, .int .i64 r.y, .int .i64 r.d.t, .int .i64 r.d.n, .int .i64 r.d.e, .int .i64 r.d.s, .int .i64 r.d.w, .int .i64 r.d.b] 30)) L m f c M ∧ IsS (w2.alloc (.cells #[.int .i64 r.x, .int .i64 r.y, .int .i64 r.d.t, .int .i64 r.d.n, .int .i64 r.d.e, .int .i64 r.d.s, .int .i64 r.d.w, .int .i64 r.d.b] 30)) sb s 30 ∧ Kept tb G.gs w (w2.alloc (.cells #[.int .i64 r.x, .int .i64 r.y, .int .i64 r.d.t, .int .i64 r.d.n, .int .i64 r.d.e, .int .i64 r.d.s, .int .i64 r.d.w, .int .i64 r.d.b] 30)) := by
  have T2 : SL G tb l w2 L m f c M := T.to hb rfl
  have h1 := T2.t.lt
  have h2 := own_lt2 T2.sn
  have S2 := isS_to hb S rfl
  have h3 := S2.lt
  have K2 : Kept tb G.gs w w2 := K.to hb rfl rfl rfl rfl
  exact ⟨IsS.new, ⟨by omega, by omega, by omega⟩, T2.alloc _, S2.alloc _, K2.alloc _⟩
theorem prRoll_z (l : List UInt8) (G : TG) (hg : GridOk (unlab l) G.W G.H G.n) (s : St) (hgd : goodB s.d = true) (k : Nat) (hk : k < 4) (hx : -100000 ≤ s.x ∧ s.x ≤ 100000) (hy : -100000 ≤ s.y ∧ s.y ≤ 100000) :
    ∃ z : St, (∀ wx : World, BytesAt wx G.g (splitP (unlab l)).flatten → BytesAt wx G.gl (splitP l).flatten → Calls Tryd.prog 33 #[.agg #[.int .i64 (G.W : Int), .int .i64 (G.H : Int), .slice (some ⟨G.g, 0, none⟩) G.n G.cap], .slice (some ⟨G.gl, 0, none⟩) G.n G.capl, St.v s, .int .i64 (k : Int)] wx fun e w' => e = .returned (.tuple #[St.v z, .bool (hitAt l (rollT s (k : Int)))]) ∧ Below wx.heap.size wx w') ∧ (hitAt l (rollT s (k : Int)) = true → z = rollT s (k : Int)) := by
  have ht := good_top (good_roll hgd k hk)
  cases hh : hitAt l (rollT s (k : Int))
  · exact ⟨_, fun wx hA hAL => prRoll_no l G.W G.H G.n G.g G.cap G.gl G.capl hg s k wx hA hAL hx hy hh, fun h => by cases h⟩
  · exact ⟨_, fun wx hA hAL => prRoll_yes l G.W G.H G.n G.g G.cap G.gl G.capl hg s k wx hA hAL hx hy ht.1 ht.2 hh, fun _ => rfl⟩
theorem isS_drewK {w : World} {b : Nat} {s : St} {ty : TypeId} (h : IsS w b s ty) : IsS w.drew b s ty := h
theorem isS_drewNK {w : World} {b n : Nat} {s : St} {ty : TypeId} (h : IsS w b s ty) : IsS (w.drewN n) b s ty := h
theorem good_rollK {s : St} (h : goodB s.d = true) (k : Nat) (hk : k < 4) : goodB (rollT s (k : Int)).d = true := good_roll h k hk
theorem dirN_C : ∀ k : Nat, k < 4 → dirN k = dirC k
  | 0, _ => rfl
  | 1, _ => rfl
  | 2, _ => rfl
  | 3, _ => rfl
theorem addK (u : List UInt8) (c : UInt8) (h : u.length ≤ 1000) (wx : World) : (Op.stringOp .add ⟨u.toArray⟩ ⟨#[c]⟩).run Tryd.prog wx = .ok (.string ⟨(u ++ [c]).toArray⟩) wx := by
  rw [run_string_add_sum wx _ _ (by simp [ByteArray.size]; omega), str_snoc]

set_option maxHeartbeats 16000000 in
theorem look_any (l : List UInt8) (G : TG) (hg : GridOk (unlab l) G.W G.H G.n) (tb M : Nat) (hM : M ≤ 1073741824) (hs : Sep G tb) : ∀ (m : Nat) (L : List UInt8) (s : St) (u f : List UInt8) (c : Nat) (w : World) (_hR : RelL l L G.W G.H) (_hc : cntD L = m) (_hgd : goodB s.d = true) (_hx : -100000 ≤ s.x ∧ s.x ≤ 100000) (_hy : -100000 ≤ s.y ∧ s.y ≤ 100000) (_hu : u.length + m ≤ 12) (_hcM : c < M) (_T : SL G tb l w L m f c M),
    Calls Tryd.prog 24 #[.pointer (some ⟨tb, 0, none⟩), St.v s, .string ⟨u.toArray⟩] w fun e w' => e = .returned (.tuple #[]) ∧ SL G tb l w' L m (fstT f c (tourT G.W m L s u)) (min M (c + (tourT G.W m L s u).length)) M ∧ Kept tb G.gs w w' := by
  intro m
  induction m with
  | zero =>
    intro L s u f c w hR hc hgd hx hy hu hcM T
    have T1 := T.alloc (.cells #[.int .i64 s.x, .int .i64 s.y, .int .i64 s.d.t, .int .i64 s.d.n, .int .i64 s.d.e, .int .i64 s.d.s, .int .i64 s.d.w, .int .i64 s.d.b] 30)
    have K1 : Kept tb G.gs w (w.alloc (.cells #[.int .i64 s.x, .int .i64 s.y, .int .i64 s.d.t, .int .i64 s.d.n, .int .i64 s.d.e, .int .i64 s.d.s, .int .i64 s.d.w, .int .i64 s.d.b] 30)) := (Kept.refl _ _ _).alloc _
    obtain ⟨l0, ⟨t0, t1, t2, t3, t4, t5, t6, t7, t8⟩, z5, z6, z7⟩ := T1.t.all
    obtain ⟨c1, hc1⟩ : ∃ c1, c1 = c + 1 := ⟨_, rfl⟩
    have w1q : IntKind.i64.wrap ((c : Int) + 1) = (c1 : Int) := by rw [hc1]; exact IntWalk.i64_in _ (by omega)
    have t5' : (w.alloc (.cells #[.int .i64 s.x, .int .i64 s.y, .int .i64 s.d.t, .int .i64 s.d.n, .int .i64 s.d.e, .int .i64 s.d.s, .int .i64 s.d.w, .int .i64 s.d.b] 30)).cell? ⟨tb, 5, none⟩ = some (.int .i64 0) := t5
    have HC1 := hide (show min M (c + (tourT G.W 0 L s u).length) = c1 from by rw [tourT_zero, List.length_singleton]; omega)
    have HS := hide hs
    clear t5 hR hc hgd hx hy hu hc1
    by_cases h0 : c = 0
    · have e0 : ((c : Int) == 0) = true := by simp; omega
      have HF := hide (show fstT f c (tourT G.W 0 L s u) = u from by unfold fstT; rw [if_pos h0]; rfl)
      have T2 := T1.setT hs 6 (.string ⟨u.toArray⟩) (T1.t.first u)
      have HT3 := hide (T2.setT hs 7 (.int .i64 (c1 : Int)) (T2.t.count c1))
      have HK3 := hide ((K1.setA 6 (.string ⟨u.toArray⟩)).setA 7 (.int .i64 (c1 : Int)))
      clear h0 T1 T2 K1 T hs
      go_enter Tryd.func24, Tryd.ntmps24
      go_wp2
      go_returns
      exact ⟨rfl, by rw [HF.out, HC1.out]; exact HT3.out, HK3.out⟩
    · have e0 : ((c : Int) == 0) = false := by simp; omega
      have HF := hide (show fstT f c (tourT G.W 0 L s u) = f from by unfold fstT; rw [if_neg h0])
      have HT3 := hide (T1.setT hs 7 (.int .i64 (c1 : Int)) (T1.t.count c1))
      have HK3 := hide (K1.setA 7 (.int .i64 (c1 : Int)))
      clear h0 T1 K1 T hs
      go_enter Tryd.func24, Tryd.ntmps24
      go_wp2
      go_returns
      exact ⟨rfl, by rw [HF.out, HC1.out]; exact HT3.out, HK3.out⟩
  | succ m IH =>
    intro L s u f c w hR hc hgd hx hy hu hcM T
    have T0 := T
    have HIH := hide IH
    clear IH
    have T1 := T.alloc (.cells #[.int .i64 s.x, .int .i64 s.y, .int .i64 s.d.t, .int .i64 s.d.n, .int .i64 s.d.e, .int .i64 s.d.s, .int .i64 s.d.w, .int .i64 s.d.b] 30)
    have K1 := hide (show Kept tb G.gs w (w.alloc (.cells #[.int .i64 s.x, .int .i64 s.y, .int .i64 s.d.t, .int .i64 s.d.n, .int .i64 s.d.e, .int .i64 s.d.s, .int .i64 s.d.w, .int .i64 s.d.b] 30)) from (Kept.refl _ _ _).alloc _)
    have S1 := hide (IsS.new (w := w) (s := s) (ty := 30))
    obtain ⟨ml, hml⟩ : ∃ ml, ml = m + 1 := ⟨_, rfl⟩
    obtain ⟨TT, hTT⟩ : ∃ TT, TT = tourT G.W (m + 1) L s u := ⟨_, rfl⟩
    rw [← hTT, ← hml]
    rw [← hml] at T1
    obtain ⟨l0, ⟨t0, t1, t2, t3, t4, t5, t6, t7, t8⟩, z5, z6, z7⟩ := T1.t.all
    have e0 : ((ml : Int) == 0) = false := by simp; omega
    have w1q : IntKind.i64.wrap ((ml : Int) - 1) = (m : Int) := by rw [IntWalk.i64_in _ (by omega)]; omega
    have w2q : IntKind.i64.wrap ((m : Int) + 1) = (ml : Int) := by rw [IntWalk.i64_in _ (by omega)]; omega
    have HTT := hide hTT
    have HML := hide hml
    have HR := hide hR
    have HCN := hide hc
    have HGD := hide hgd
    have HX := hide hx
    have HY := hide hy
    have HU := hide hu
    have HCM := hide hcM
    have HT1 := hide T1
    have HS := hide hs
    have HG := hide hg
    clear T hTT hml hR hc hgd hx hy hu hcM T1 hs hg
    have hM1 : (M : Int) ≤ 1073741824 := by omega
    obtain ⟨sb, hsb⟩ : ∃ sb, sb = w.heap.size := ⟨_, rfl⟩
    have HSB := hide hsb
    rw [← hsb] at S1
    have HNE := hide (show sb ≠ tb ∧ sb ≠ G.gs ∧ True from by have := T0.t.lt; have := own_lt2 T0.sn; exact ⟨by omega, by omega, trivial⟩)
    clear T0
    go_enter Tryd.func24, Tryd.ntmps24
    clear hsb
    go_wp2
    rw [← HSB.out]
    clear t0 t1 t2 t3 t4 t5 t6 t7 t8 z5 z6 z7 l0
    go_loopw [6, 7, 8, 9] (fun d _ _ _ wr => ∃ (k : Nat) (P : List (List UInt8)) (fk : List UInt8) (ck : Nat), k ≤ 4 ∧ d = .int .i64 (k : Int) ∧ TT = P ++ tourG G.W (m + 1) L s u k ∧ fk = fstT f c P ∧ ck = min M (c + P.length) ∧ SL G tb l wr L ml fk ck M ∧ IsS wr sb s 30 ∧ Kept tb G.gs w wr) (fun d _ _ _ _ => 4 - (intOf d).toNat)
    case atStart => exact ⟨0, [], f, c, by omega, rfl, by rw [HTT.out, tourT_succ]; rfl, (fstT_nil _ _).symm, by have := HCM.out; simp; omega, HT1.out, S1.out, K1.out⟩
    case round =>
      obtain ⟨k, P, fk, ck, hk, rfl, hTP, hfk, hck, T, S, K⟩ := hrel
      clear HT1 S1 K1
      obtain ⟨lt0, ⟨t0, t1, t2, t3, t4, t5, t6, t7, t8⟩, z5, z6, z7⟩ := T.t.all
      have HTP := hide hTP
      have HFK := hide hfk
      have HCK := hide hck
      clear hTP hfk hck
      by_cases hlt : k < 4 ∧ ck < M
      · have hki : (k : Int) < 4 := by omega
        have hci : (ck : Int) < (M : Int) := by omega
        have HLT := hide hlt
        obtain ⟨z, hz, hzr⟩ := prRoll_z l G HG.out s HGD.out k hlt.1 HX.out HY.out
        have HPR := hide hz
        have HZR := hide hzr
        have HT := hide (good_top (good_roll HGD.out k hlt.1))
        clear hlt hz hzr
        go_upto_region 6 with (fail)
        go_region_held3 (fun w' => w'.cell? ⟨tb, 7, none⟩ = some (.int .i64 (ck : Int)) ∧ w'.cell? ⟨tb, 8, none⟩ = some (.int .i64 (M : Int))) (first | (refine ⟨?_, ?_⟩ <;> with_reducible assumption) | (refine ⟨?_, ?_⟩ <;> assumption)) (fail)
        have Td := T.drew
        have Sd := isS_drewK S
        have Kd := K.drew
        clear T S K t0 t1 t2 t3 t4 t5 t6 t7 t8 z5 z6 z7 lt0
        generalize wr.drew = wq at Td Sd Kd ⊢
        go_upto_region 8 with (fail)
        obtain ⟨ls, ⟨a0, a1, a2, a3, a4, a5, a6, a7⟩, -⟩ := Sd.all
        obtain ⟨lt0, ⟨t0, t1, t2, t3, -⟩, -⟩ := Td.t.all
        have T := Td
        have S := Sd
        have K := Kd
        clear Td Sd Kd
        have HTr := hide T
        have HSr := hide S
        have HKr := hide K
        have HA1 := hide (show SL G tb l wq.drew L ml fk ck M from T.drew)
        have HA2 := hide (show SL G tb l (wq.alloc (.cells #[.int .i64 0, .int .i64 0, .int .i64 0, .int .i64 0, .int .i64 0, .int .i64 0, .int .i64 0, .int .i64 0] 30)).drew L ml fk ck M from (T.alloc _).drew)
        have hns : sb ≠ wq.heap.size := by omega
        have hnt : tb ≠ wq.heap.size := by omega
        clear T S K
        go_cut [7, 8] from 46 to 59 (fun p ok wx => ∃ nb, p = .pointer (some ⟨nb, 0, none⟩) ∧ ok = .bool (hitAt l (rollT s (k : Int))) ∧ IsS wx nb z 30 ∧ (nb ≠ tb ∧ nb ≠ G.gs ∧ nb ≠ sb) ∧ SL G tb l wx L ml fk ck M ∧ IsS wx sb s 30 ∧ Kept tb G.gs w wx)
        case first =>
          clear HZR
          generalize hbq : hitAt l (rollT s (k : Int)) = b at HPR
          have HBQ := hide hbq
          clear hbq
          go_region_held3 (fun w' => w'.cell? ⟨tb, 0, none⟩ = some (.int .i64 (G.W : Int)) ∧ w'.cell? ⟨tb, 1, none⟩ = some (.int .i64 (G.H : Int)) ∧ w'.cell? ⟨tb, 2, none⟩ = some (.slice (some ⟨G.g, 0, none⟩) G.n G.cap) ∧ w'.cell? ⟨tb, 3, none⟩ = some (.slice (some ⟨G.gl, 0, none⟩) G.n G.capl) ∧ w'.cell? ⟨sb, 0, none⟩ = some (.int .i64 s.x) ∧ w'.cell? ⟨sb, 1, none⟩ = some (.int .i64 s.y) ∧ w'.cell? ⟨sb, 2, none⟩ = some (.int .i64 s.d.t) ∧ w'.cell? ⟨sb, 3, none⟩ = some (.int .i64 s.d.n) ∧ w'.cell? ⟨sb, 4, none⟩ = some (.int .i64 s.d.e) ∧ w'.cell? ⟨sb, 5, none⟩ = some (.int .i64 s.d.s) ∧ w'.cell? ⟨sb, 6, none⟩ = some (.int .i64 s.d.w) ∧ w'.cell? ⟨sb, 7, none⟩ = some (.int .i64 s.d.b)) (first | (refine ⟨?_, ?_, ?_, ?_, ?_, ?_, ?_, ?_, ?_, ?_, ?_, ?_⟩ <;> with_reducible assumption) | (refine ⟨?_, ?_, ?_, ?_, ?_, ?_, ?_, ?_, ?_, ?_, ?_, ?_⟩ <;> (rw [cell_set8 (by omega)]; with_reducible assumption)) | (refine ⟨?_, ?_, ?_, ?_, ?_, ?_, ?_, ?_, ?_, ?_, ?_, ?_⟩ <;> (refine (((Below.refl _ _).alloc (Nat.le_refl _) _).cell (by first | exact lt0 | exact ls | exact m0 | exact m1)).trans ?_; with_reducible assumption)) | (refine ⟨?_, ?_, ?_, ?_, ?_, ?_, ?_, ?_, ?_, ?_, ?_, ?_⟩ <;> assumption))
            (first
              | (go_at_call 33; (refine (HPR.out _ (by first | (with_reducible exact HA1.out.A) | (with_reducible exact HA2.out.A)) (by first | (with_reducible exact HA1.out.AL) | (with_reducible exact HA2.out.AL))).mono ?_); rintro e w2 ⟨rfl, hb2⟩; (first | (have hA : Below (wq.alloc (.cells #[.int .i64 0, .int .i64 0, .int .i64 0, .int .i64 0, .int .i64 0, .int .i64 0, .int .i64 0, .int .i64 0] 30)).drew.heap.size (wq.alloc (.cells #[.int .i64 0, .int .i64 0, .int .i64 0, .int .i64 0, .int .i64 0, .int .i64 0, .int .i64 0, .int .i64 0] 30)).drew w2 := (by with_reducible exact hb2); have NA := isS_to hA (IsS.new (w := wq) (s := ⟨0, 0, ⟨0, 0, 0, 0, 0, 0⟩⟩) (ty := 30)) rfl; obtain ⟨l2, ⟨c0, c1, c2, c3, c4, c5, c6, c7⟩, f0, f1, f2, f3, f4, f5, f6, f7⟩ := NA.all; obtain ⟨m0, ⟨b0, b1, b2, b3, b4, b5, b6, b7⟩, -⟩ := (isS_to hA (HSr.out.alloc (.cells #[.int .i64 0, .int .i64 0, .int .i64 0, .int .i64 0, .int .i64 0, .int .i64 0, .int .i64 0, .int .i64 0] 30)) rfl).all; obtain ⟨m1, ⟨d0, d1, d2, d3, -⟩, -⟩ := (HA2.out.to hA rfl).t.all) | (have hB : Below wq.drew.heap.size wq.drew w2 := (by with_reducible exact hb2); obtain ⟨m0, ⟨b0, b1, b2, b3, b4, b5, b6, b7⟩, -⟩ := (isS_to hB HSr.out rfl).all; obtain ⟨m1, ⟨d0, d1, d2, d3, -⟩, -⟩ := (HA1.out.to hB rfl).t.all))))
          all_goals
            go_wp2_with fail
            go_meet
            refine ⟨_, rfl, by rw [HBQ.out], ?_⟩
            first
              | (with_reducible exact (lk_cutA (r := z) HTr.out HSr.out HKr.out hA NA))
              | (with_reducible exact (lk_cutB (r := z) HTr.out HSr.out HKr.out hB))
        obtain ⟨nb, rfl, rfl, N, hnb, T, S, K⟩ := hcut
        clear a0 a1 a2 a3 a4 a5 a6 a7 ls t0 t1 t2 t3 lt0 hns hnt HTr HSr HKr HA1 HA2 HPR
        cases hh : hitAt l (rollT s (k : Int))
        · have HLB := hide (no_hit HR.out HT.out.1 HT.out.2 hh)
          clear hh N
          go_wp2
          go_roundw
          case rel => exact ⟨k + 1, P, fk, ck, by have := HLT.out.1; omega, by go_num, by rw [HTP.out, tourG_miss G.W (m + 1) L s u k HLT.out.1 HLB.out], HFK.out, HCK.out, T, S, K⟩
          case measure => have := HLT.out.1; simp [intOf] <;> omega
        · obtain rfl := HZR.out hh
          obtain ⟨x, y, c0, c1, hx, hy, hxW, hyH, hp, g0, g1, g2, hlab, hput⟩ := hit_cell HR.out HG.out HT.out.1 HT.out.2 hh
          have HLAB := hide hlab
          have HPUT := hide hput
          have HGR := hide (good_rollK HGD.out k HLT.out.1)
          obtain ⟨gw0, gw7, gh0, gh7, gn⟩ := grid_facts HG.out
          obtain ⟨rr, hrr⟩ : ∃ rr, rr = y * G.W := ⟨_, rfl⟩
          obtain ⟨p, hpp⟩ : ∃ p, p = rr + x := ⟨_, rfl⟩
          have hr36 : rr ≤ 49 := by rw [hrr]; exact Nat.le_trans (Nat.mul_le_mul (show y ≤ 7 by omega) gw7) (by omega)
          have hyx : (y : Int) * (G.W : Int) = (rr : Int) := by rw [hrr]; simp
          have hw1 : IntKind.i64.wrap (rr : Int) = (rr : Int) := IntWalk.i64_in _ (by omega)
          have hw2 : IntKind.i64.wrap ((rr : Int) + (x : Int)) = (p : Int) := by rw [IntWalk.i64_in _ (by omega)]; omega
          rw [← hrr, ← hpp] at hp g0 g1 g2 HPUT
          have HPP := hide hpp
          clear hh hlab hput HZR hrr hpp g1 gn
          generalize hr : rollT s (k : Int) = r at N HT hx hy HLAB HPUT HGR
          have HRR := hide hr
          have HXR := hide hx
          have HYR := hide hy
          obtain ⟨ln, ⟨n0, n1, n2, n3, n4, n5, n6, n7⟩, -⟩ := N.all
          rw [hx] at n0
          rw [hy] at n1
          obtain ⟨lt0, ⟨t0, -⟩, -⟩ := T.t.all
          clear hr hx hy
          have hpi : (p : Int) < (G.n : Int) := by omega
          go_upto_region 10 with (fail)
          go_quiet (fail)
          have Td := T.drewN (n := nq)
          have Sd := isS_drewNK (n := nq) S
          have Kd := K.drewN (n := nq)
          have Nd := isS_drewNK (n := nq) N
          clear T S K N n0 n1 n2 n3 n4 n5 n6 n7 t0 lt0 ln
          generalize wc.drewN nq = wd at Td Sd Kd Nd ⊢
          go_upto_region 11 with (fail)
          obtain ⟨lt0, ⟨-, -, -, t3, t4, t5, -⟩, z5, -⟩ := Td.t.all
          have v0 := (Td.sn.cellAt p (by omega)).trans g2
          have fv := own_free Td.sn p
          have q0 := Td.AL.cell g0
          have HTd := hide Td
          have HSd := hide Sd
          have HKd := hide Kd
          have HNd := hide Nd
          clear Td Sd Kd Nd g0
          cases hsd : decide (c0 ≠ c1)
          · cases hdg : isDig c0
            · have HLB := hide (show labAtB L (rollT s (k : Int)) = false from by rw [HRR.out, HLAB.out, hsd, hdg]; rfl)
              have HD := hide hdg
              rw [hsd] at v0
              clear hsd hdg
              go_wp2_with (go_at_call 22; refine (prDigit_any c0 _).mono ?_; rintro e w2 ⟨rfl, rfl⟩; rw [HD.out])
              go_roundw
              case rel => exact ⟨k + 1, P, fk, ck, by have := HLT.out.1; omega, by go_num, by rw [HTP.out, tourG_miss G.W (m + 1) L s u k HLT.out.1 HLB.out], HFK.out, HCK.out, HTd.out, HSd.out, HKd.out⟩
              case measure => have := HLT.out.1; simp [intOf] <;> omega
            · have hl1 : labAtB L r = true := by rw [HLAB.out, hsd, hdg]; rfl
              have HL1 := hide hl1
              have HD := hide hdg
              obtain ⟨hR', hs1, hs2⟩ := HPUT.out hl1
              have HR' := hide hR'
              have HS2 := hide hs2
              have HT5 := hide (HTd.out.mark HS.out p hp true hs1)
              have HK5 := hide (HKd.out.setB p (.bool true))
              have HS5 := hide (HSd.out.other (p := ⟨G.gs, p, none⟩) (by show sb ≠ G.gs; exact HNE.out.2.1) (.bool true))
              have HN5 := hide (HNd.out.other (p := ⟨G.gs, p, none⟩) (by show nb ≠ G.gs; exact hnb.2.1) (.bool true))
              have HCNT := hide (show cntD (putC G.W L r 46) = m from by have := (lab_take HR.out.eL HR.out.hL HT.out.1 HT.out.2 hl1).2.2.1; have := HCN.out; omega)
              have HV7 := hide (show (seenV l (putC G.W L r 46))[p]? = some (.bool true) from by rw [hs1, List.getElem?_set_self (List.getElem?_eq_some_iff.1 g2).1])
              rw [hsd] at v0
              clear hsd hdg hl1 hR' hs1 hs2 HPUT HLAB
              go_upto_region 13 with (go_at_call 22; refine (prDigit_any c0 _).mono ?_; rintro e w2 ⟨rfl, rfl⟩; rw [HD.out])
              generalize World.setCell _ _ _ = w5 at HT5 HK5 HS5 HN5 ⊢
              obtain ⟨lt5, ⟨-, -, -, -, x4, x5, -⟩, y5, -⟩ := HT5.out.t.all
              have HT6 := hide (HT5.out.setT HS.out 5 (.int .i64 (m : Int)) (HT5.out.t.left m))
              have HK6 := hide (HK5.out.setA 5 (.int .i64 (m : Int)))
              have HS6 := hide (HS5.out.other (p := ⟨tb, 5, none⟩) (by show sb ≠ tb; exact HNE.out.1) (.int .i64 (m : Int)))
              have HN6 := hide (HN5.out.other (p := ⟨tb, 5, none⟩) (by show nb ≠ tb; exact hnb.1) (.int .i64 (m : Int)))
              clear HT5 HK5 HS5 HN5 HTd HSd HKd HNd t3 t4 t5 z5 v0 fv q0 lt0
              go_upto_region 14 with (fail)
              generalize World.setCell _ _ _ = w6 at HT6 HK6 HS6 HN6 ⊢
              clear x4 x5 y5 lt5
              obtain ⟨ln, ⟨n0, n1, n2, n3, n4, n5, n6, n7⟩, -⟩ := HN6.out.all
              have hsl := dslU k HLT.out.1
              rw [dirN_C k HLT.out.1] at hsl
              have hul : u.length ≤ 11 := by have := HU.out; omega
              have hsn := addK u (dirC k) (by omega)
              have w3q : IntKind.i64.wrap ((k : Int) + 1) = (k : Int) + 1 := IntWalk.i64_in _ (by omega)
              have HIN := hide (HIH.out (putC G.W L r 46) r (u ++ [dirC k]) fk ck w6.drew HR'.out HCNT.out HGR.out (by rw [HXR.out]; omega) (by rw [HYR.out]; omega) (by have := HU.out; rw [List.length_append, List.length_singleton]; omega) HLT.out.2 HT6.out.drew)
              have HND := hide (isS_drewK HN6.out)
              have HSD := hide (isS_drewK HS6.out)
              have HKD := hide HK6.out.drew
              clear HT6 HN6 HS6 HK6 HIH
              obtain ⟨TT', hTT'⟩ : ∃ TT', TT' = tourT G.W m (putC G.W L r 46) r (u ++ [dirC k]) := ⟨_, rfl⟩
              rw [← hTT'] at HIN
              have HTT' := hide hTT'
              clear hTT'
              go_region_held3 (fun w' => w'.cell? ⟨nb, 0, none⟩ = some (.int .i64 r.x) ∧ w'.cell? ⟨nb, 1, none⟩ = some (.int .i64 r.y) ∧ w'.cell? ⟨nb, 2, none⟩ = some (.int .i64 r.d.t) ∧ w'.cell? ⟨nb, 3, none⟩ = some (.int .i64 r.d.n) ∧ w'.cell? ⟨nb, 4, none⟩ = some (.int .i64 r.d.e) ∧ w'.cell? ⟨nb, 5, none⟩ = some (.int .i64 r.d.s) ∧ w'.cell? ⟨nb, 6, none⟩ = some (.int .i64 r.d.w) ∧ w'.cell? ⟨nb, 7, none⟩ = some (.int .i64 r.d.b)) (first | (refine ⟨?_, ?_, ?_, ?_, ?_, ?_, ?_, ?_⟩ <;> with_reducible assumption) | (with_reducible exact HND.out.all.2.1) | (with_reducible exact N7.all.2.1))
                (first
                  | (go_at_call 34; (refine (diDirsU_any _).mono ?_); rintro e w' ⟨rfl, rfl⟩)
                  | (go_at_call 24; (refine (HIN.out).mono ?_); rintro e w7 ⟨rfl, T7, K7⟩; have N7 := isS_kept K7 HND.out hnb.1 hnb.2.1; have S7 := isS_kept K7 HSD.out HNE.out.1 HNE.out.2.1; have K7' := HKD.out.trans K7))
              have HS7 := hide S7
              have HK7 := hide K7'
              clear n0 n1 n2 n3 n4 n5 n6 n7 ln K7 K7' S7 N7 HIN HND HSD HKD hsl hsn
              obtain ⟨lt7, ⟨-, -, -, -, x4, -⟩, -⟩ := T7.t.all
              have v7 := (T7.sn.cellAt p (by omega)).trans HV7.out
              have fv7 := own_free T7.sn p
              have HT8 := hide (T7.mark HS.out p hp false HS2.out)
              have HK8 := hide (HK7.out.setB p (.bool false))
              have HS8 := hide (HS7.out.other (p := ⟨G.gs, p, none⟩) (by show sb ≠ G.gs; exact HNE.out.2.1) (.bool false))
              clear T7 HK7 HS7
              go_upto_region 16 with (fail)
              generalize World.setCell _ _ _ = w8 at HT8 HK8 HS8 ⊢
              obtain ⟨lt8, ⟨-, -, -, -, -, y5, -⟩, yz5, -⟩ := HT8.out.t.all
              have HT9 := hide (HT8.out.setT HS.out 5 (.int .i64 (ml : Int)) (HT8.out.t.left ml))
              have HK9 := hide (HK8.out.setA 5 (.int .i64 (ml : Int)))
              have HS9 := hide (HS8.out.other (p := ⟨tb, 5, none⟩) (by show sb ≠ tb; exact HNE.out.1) (.int .i64 (ml : Int)))
              clear HT8 HK8 HS8 x4 v7 fv7
              go_wp2
              go_roundw
              case rel =>
                refine ⟨k + 1, P ++ TT', fstT fk ck TT', min M (ck + TT'.length), by have := HLT.out.1; omega, by go_num, ?_, ?_, ?_, HT9.out, HS9.out, HK9.out⟩
                · have hh2 := tourG_hit G.W m L s u k HLT.out.1 (by rw [HRR.out]; exact HL1.out)
                  rw [HRR.out] at hh2
                  rw [HTP.out, hh2, HTT'.out, List.append_assoc]
                · have h1 := HCK.out
                  rw [HFK.out]
                  have h2 := fstT_app f c M P TT' (by rw [← h1]; exact HLT.out.2)
                  rw [← h1] at h2
                  exact h2
                · have h1 := HCK.out
                  have h2 := HLT.out.2
                  rw [List.length_append]
                  omega
              case measure => have := HLT.out.1; simp [intOf] <;> omega
          · have HLB := hide (show labAtB L (rollT s (k : Int)) = false from by rw [HRR.out, HLAB.out, hsd]; rfl)
            rw [hsd] at v0
            clear hsd
            go_wp2
            go_roundw
            case rel => exact ⟨k + 1, P, fk, ck, by have := HLT.out.1; omega, by go_num, by rw [HTP.out, tourG_miss G.W (m + 1) L s u k HLT.out.1 HLB.out], HFK.out, HCK.out, HTd.out, HSd.out, HKd.out⟩
            case measure => have := HLT.out.1; simp [intOf] <;> omega
      · by_cases hk4 : k < 4
        · have hki : (k : Int) < 4 := by omega
          have hci : ¬ ((ck : Int) < (M : Int)) := by omega
          obtain ⟨e1, e2⟩ := fstT_full f c M P (tourG G.W (m + 1) L s u k) HCM.out (by rw [← HCK.out]; omega)
          have HF := hide (show fk = fstT f c TT from by rw [HFK.out, HTP.out]; exact e1)
          have HC := hide (show ck = min M (c + TT.length) from by rw [HCK.out, HTP.out]; exact e2)
          have HTK := hide T
          have HKK := hide K
          clear hlt hk4 e1 e2 T S K
          go_upto_region 6 with (fail)
          go_region_held3 (fun w' => w'.cell? ⟨tb, 7, none⟩ = some (.int .i64 (ck : Int)) ∧ w'.cell? ⟨tb, 8, none⟩ = some (.int .i64 (M : Int))) (first | (refine ⟨?_, ?_⟩ <;> with_reducible assumption) | (refine ⟨?_, ?_⟩ <;> assumption)) (fail)
          go_wp2
          go_returns
          exact ⟨rfl, by rw [← HF.out, ← HC.out]; exact HTK.out.drew, HKK.out.drew⟩
        · obtain rfl : k = 4 := by omega
          have HF := hide (show fk = fstT f c TT from by rw [HFK.out, HTP.out, tourG_end, List.append_nil])
          have HC := hide (show ck = min M (c + TT.length) from by rw [HCK.out, HTP.out, tourG_end, List.append_nil])
          have HTK := hide T
          have HKK := hide K
          clear hlt hk4 T S K
          go_upto_region 6 with (fail)
          go_quiet (fail)
          go_wp2
          go_returns
          exact ⟨rfl, by rw [← HF.out, ← HC.out]; exact HTK.out.drewN, HKK.out.drewN⟩
end Go.Proofs.YtkknjokacinlaaaDoor
