/- walkedTours: from the label 'look' to the next jump or the end. -/
import Derived.Test.YtkknjokacinlaaaDoorTourM
import Derived.Test.YtkknjokacinlaaaDoorScope
import Derived.Test.YtkknjokacinlaaaDoorWalksL
import Derived.Deep.Cut
namespace Go.Proofs.YtkknjokacinlaaaDoor
set_option maxRecDepth 100000
set_option linter.all false
open Go.RowKit

/-- walkedTours' body, within its scope. -/
noncomputable def wtC : Code := match Tryd.f28.body with | some (.seq _ (.scope c)) => c | _ => .skip
theorem dslT : ∀ {k : Nat} (_ : k < 4) (wx : World), (Instr.slice 9 (.string ⟨#[110, 101, 115, 119]⟩) (some (.int .i64 (k : Int))) (some (.int .i64 ((k : Int) + 1))) none).run Tryd.prog wx = .ok (.string ⟨#[dirC k]⟩) wx
  | 0, _, _ => by kernel_rfl
  | 1, _, _ => by kernel_rfl
  | 2, _, _ => by kernel_rfl
  | 3, _, _ => by kernel_rfl
theorem addT (u : List UInt8) (c : UInt8) (h : u.length ≤ 1000) (wx : World) : (Op.stringOp .add ⟨u.toArray⟩ ⟨#[c]⟩).run Tryd.prog wx = .ok (strV (u ++ [c])) wx := by
  rw [run_string_add_sum wx _ _ (by simp [ByteArray.size]; omega), str_snoc]
theorem opp_ix (d : Nat) (hd : d < 4) : dirIx (oppC (dirC d)).toNat = (((d + 2) % 4 : Nat) : Int) := by
  match d, hd with
  | 0, _ => rfl
  | 1, _ => rfl
  | 2, _ => rfl
  | 3, _ => rfl
theorem isS_drewT {w : World} {b : Nat} {s : St} {ty : TypeId} (h : IsS w b s ty) : IsS w.drew b s ty := h
theorem good_rollT2 {s : St} (h : goodB s.d = true) : 0 ≤ s.d.t ∧ s.d.t ≤ 9 := by
  unfold goodB at h
  rw [decide_eq_true_eq] at h
  exact ⟨h.1, h.2.1⟩
theorem good_rollT {s : St} (h : goodB s.d = true) (k : Nat) (hk : k < 4) : goodB (rollT s (k : Int)).d = true ∧ 0 ≤ (rollT s (k : Int)).d.t ∧ (rollT s (k : Int)).d.t ≤ 9 := by
  have e : goodB (rollT s (k : Int)).d = true := by
    unfold goodB at h ⊢
    rw [decide_eq_true_eq] at h ⊢
    match k, hk with
    | 0, _ => simp only [rollT]; unfold rollK; simp [rollN]; omega
    | 1, _ => simp only [rollT]; unfold rollK; simp [rollE]; omega
    | 2, _ => simp only [rollT]; unfold rollK; simp [rollS]; omega
    | 3, _ => simp only [rollT]; unfold rollK; simp [rollW]; omega
  refine ⟨e, ?_⟩
  unfold goodB at e
  rw [decide_eq_true_eq] at e
  exact ⟨e.1, e.2.1⟩
theorem lastT (u : List UInt8) (c : UInt8) (hu : u.length ≤ 1000) : (⟨(u ++ [c]).toArray⟩ : ByteArray).size = u.length + 1 ∧ (∀ wx : World, (Instr.index 9 (strV (u ++ [c])) (.int .i64 (u.length : Int))).run Tryd.prog wx = .ok (.int .u8 (c.toNat : Int)) wx) ∧ (∀ wx : World, (Instr.slice 9 (strV (u ++ [c])) none (some (.int .i64 (u.length : Int))) none).run Tryd.prog wx = .ok (strV u) wx) := by
  have hs : (⟨(u ++ [c]).toArray⟩ : ByteArray).size = u.length + 1 := by simp [ByteArray.size]
  refine ⟨hs, fun wx => ?_, fun wx => ?_⟩
  · rw [show strV (u ++ [c]) = .string ⟨(u ++ [c]).toArray⟩ from rfl, run_index_string (P := Tryd.prog) (w := wx) 9 _ .i64 _ Tryd.underlying9, dif_pos ⟨by omega, by omega⟩]
    congr 4
    simp [ByteArray.getElem_eq_getElem_data]
  · rw [show strV (u ++ [c]) = .string ⟨(u ++ [c]).toArray⟩ from rfl, run_slice_string_h (P := Tryd.prog) (w := wx) (t := 9) (s := ⟨(u ++ [c]).toArray⟩) Tryd.underlying9 .i64 _ (by omega) (by omega)]
    congr 2
    apply ByteArray.ext
    simp
theorem oppT (d : Nat) (hd : d < 4) : 0 ≤ dirIx (dirC d).toNat ∧ 0 ≤ dirIx (oppC (dirC d)).toNat := by
  rw [dirC_ix d hd, opp_ix d hd]
  omega
theorem oppFour (d : Nat) (hd : d < 4) : rollFn (oppC (dirC d)) = 52 ∨ rollFn (oppC (dirC d)) = 53 ∨ rollFn (oppC (dirC d)) = 54 ∨ rollFn (oppC (dirC d)) = 55 := by
  match d, hd with
  | 0, _ => exact .inr (.inr (.inl rfl))
  | 1, _ => exact .inr (.inr (.inr rfl))
  | 2, _ => exact .inl rfl
  | 3, _ => exact .inr (.inl rfl)

theorem tw_cutA {B : Nat} {w0 wr w2 : World} {h g sb : Nat} {L : List UInt8} {W H : Nat} {s r : St} {tv : Value} {acc : List (List UInt8)} (T : TW B w0 wr h g sb L W H s tv acc) (hB : B ≤ wr.heap.size)
    (hb : Below (wr.alloc (.cells #[.int .i64 0, .int .i64 0, .int .i64 0, .int .i64 0, .int .i64 0, .int .i64 0, .int .i64 0, .int .i64 0] 30)).drew.heap.size (wr.alloc (.cells #[.int .i64 0, .int .i64 0, .int .i64 0, .int .i64 0, .int .i64 0, .int .i64 0, .int .i64 0, .int .i64 0] 30)).drew w2) (N : IsS w2 wr.heap.size ⟨0, 0, ⟨0, 0, 0, 0, 0, 0⟩⟩ 30) : IsS ((((((((w2.setCell ⟨wr.heap.size, 0, none⟩ (.int .i64 r.x)).setCell ⟨wr.heap.size, 1, none⟩ (.int .i64 r.y)).setCell ⟨wr.heap.size, 2, none⟩ (.int .i64 r.d.t)).setCell ⟨wr.heap.size, 3, none⟩ (.int .i64 r.d.n)).setCell ⟨wr.heap.size, 4, none⟩ (.int .i64 r.d.e)).setCell ⟨wr.heap.size, 5, none⟩ (.int .i64 r.d.s)).setCell ⟨wr.heap.size, 6, none⟩ (.int .i64 r.d.w)).setCell ⟨wr.heap.size, 7, none⟩ (.int .i64 r.d.b)) wr.heap.size r 30 ∧ wr.heap.size ≠ sb ∧ TW B w0 ((((((((w2.setCell ⟨wr.heap.size, 0, none⟩ (.int .i64 r.x)).setCell ⟨wr.heap.size, 1, none⟩ (.int .i64 r.y)).setCell ⟨wr.heap.size, 2, none⟩ (.int .i64 r.d.t)).setCell ⟨wr.heap.size, 3, none⟩ (.int .i64 r.d.n)).setCell ⟨wr.heap.size, 4, none⟩ (.int .i64 r.d.e)).setCell ⟨wr.heap.size, 5, none⟩ (.int .i64 r.d.s)).setCell ⟨wr.heap.size, 6, none⟩ (.int .i64 r.d.w)).setCell ⟨wr.heap.size, 7, none⟩ (.int .i64 r.d.b)) h g sb L W H s tv acc := by
  have hb8 : Below wr.heap.size wr ((((((((w2.setCell ⟨wr.heap.size, 0, none⟩ (.int .i64 r.x)).setCell ⟨wr.heap.size, 1, none⟩ (.int .i64 r.y)).setCell ⟨wr.heap.size, 2, none⟩ (.int .i64 r.d.t)).setCell ⟨wr.heap.size, 3, none⟩ (.int .i64 r.d.n)).setCell ⟨wr.heap.size, 4, none⟩ (.int .i64 r.d.e)).setCell ⟨wr.heap.size, 5, none⟩ (.int .i64 r.d.s)).setCell ⟨wr.heap.size, 6, none⟩ (.int .i64 r.d.w)).setCell ⟨wr.heap.size, 7, none⟩ (.int .i64 r.d.b)) := below_set8 (below_to hb ((Below.refl wr.heap.size wr).alloc (Nat.le_refl _) (.cells #[.int .i64 0, .int .i64 0, .int .i64 0, .int .i64 0, .int .i64 0, .int .i64 0, .int .i64 0, .int .i64 0] 30)) (by simp) rfl rfl rfl rfl) (Nat.le_refl _) r
  exact ⟨N.set8 r, by have := T.st.lt; omega, T.to hb8 hB⟩
theorem tw_cutB {B : Nat} {w0 wr w2 : World} {h g sb : Nat} {L : List UInt8} {W H : Nat} {s r : St} {tv : Value} {acc : List (List UInt8)} (T : TW B w0 wr h g sb L W H s tv acc) (hB : B ≤ wr.heap.size)
    (hb : Below wr.drew.heap.size wr.drew w2) : IsS (w2.alloc (.cells #[.int .i64 r.x, .int .i64 r.y, .int .i64 r.d.t, .int .i64 r.d.n, .int .i64 r.d.e, .int .i64 r.d.s, .int .i64 r.d.w, .int .i64 r.d.b] 30)) w2.heap.size r 30 ∧ w2.heap.size ≠ sb ∧ TW B w0 (w2.alloc (.cells #[.int .i64 r.x, .int .i64 r.y, .int .i64 r.d.t, .int .i64 r.d.n, .int .i64 r.d.e, .int .i64 r.d.s, .int .i64 r.d.w, .int .i64 r.d.b] 30)) h g sb L W H s tv acc := by
  have T2 := T.to (w1 := w2) (below_to hb (Below.refl _ _) (Nat.le_refl _) rfl rfl rfl rfl) hB
  exact ⟨IsS.new, by have := T2.st.lt; omega, T2.alloc (Nat.le_trans hB hb.size) _⟩

theorem tw_cutC {B : Nat} {w0 w5 w2 : World} {h g sb : Nat} {L : List UInt8} {W H : Nat} {s : St} {tv : Value} {acc : List (List UInt8)} (T : TW B w0 w5 h g sb L W H s tv acc) (hB : B ≤ w5.heap.size) (hb : Below w5.drew.heap.size w5.drew w2) : TW B w0 w2 h g sb L W H s tv acc :=
  T.to (w1 := w2) (below_to hb (Below.refl _ _) (Nat.le_refl _) rfl rfl rfl rfl) hB

/-- What the look needs of a state behind a word. -/
def LastW (u : List UInt8) (s : St) : Prop := u = [] ∨ ∃ u' d s', u = u' ++ [dirC d] ∧ d < 4 ∧ s = rollT s' (d : Int)
/-- What a look at the neighbours does. -/
def LookSays (rl : Code) : Prop :=
  ∀ (QJ : Exit → Act → World → Prop) (B h g cap sb W H m : Nat) (w0 : World) (L : List UInt8) (s : St) (u : List UInt8) (j : Nat) (tv : Value) (acc : List (List UInt8)) (a : Act) (w : World) (_he : Even L W) (_hH : (splitP L).length = H) (_hW : 1 ≤ W ∧ W ≤ 7) (_hH7 : 1 ≤ H ∧ H ≤ 7) (_hne : h ≠ g) (_hh : h < sb) (_hg : g < sb) (_hB : B ≤ g) (_hgd : goodB s.d = true) (x y : Nat) (_hx : s.x = (x : Int)) (_hy : s.y = (y : Int)) (_hxW : x < W) (_hyH : y < H) (_hj : j ≤ 4) (_hu : u.length ≤ 12)
    (_F : TFr a (.slice (some ⟨h, 0, none⟩) H cap) m sb tv u j) (_T : TW B w0 w h g sb L W H s tv acc)
    (_hl : LastW u s)
    (_hc : ∀ k, j ≤ k → k < 4 → labAtB L (rollT s (k : Int)) = true → (∀ i, j ≤ i → i < k → labAtB L (rollT s (i : Int)) = false) → ∀ a w, TFr a (.slice (some ⟨h, 0, none⟩) H cap) m sb tv (u ++ [dirC k]) 0 → TW B w0 w h g sb L W H (rollT s (k : Int)) tv acc → QJ (.goto 0) a w)
    (_hb : ∀ u' d s', u = u' ++ [dirC d] → d < 4 → s = rollT s' (d : Int) → (∀ i, j ≤ i → i < 4 → labAtB L (rollT s (i : Int)) = false) → ∀ a w, TFr a (.slice (some ⟨h, 0, none⟩) H cap) m sb tv u' (d + 1) → TW B w0 w h g sb (putC W L s (lab s.d.t)) W H s' tv acc → QJ (.goto 1) a w)
    (_hr : u = [] → (∀ i, j ≤ i → i < 4 → labAtB L (rollT s (i : Int)) = false) → ∀ a w, a.tmps.getD 6 undef = tv → a.defers = [] → TW B w0 w h g sb (putC W L s (lab s.d.t)) W H s tv acc → QJ .ret a w), rl.wp Tryd.prog QJ a w
set_option maxHeartbeats 16000000 in
theorem wt_look : ∃ rl, findLabel wtC 1 = some (.seq .skip rl) ∧ LookSays rl := by
  refine ⟨_, rfl, ?_⟩
  intro QJ B h g cap sb W H m w0 L s u j tv acc a w he hH hW hH7 hne hh hg hB hgd x y hx hy hxW hyH hj hu F T hl hc hb hr
  obtain ⟨U, rfl⟩ := F
  have HE := hide he
  have HHH := hide hH
  have HW := hide hW
  have HH7 := hide hH7
  have HNE := hide hne
  have HC := hide hc
  have HBK := hide hb
  have HRT := hide hr
  have HLW := hide hl
  have HGD := hide hgd
  have HXX := hide hx
  have HYY := hide hy
  have HXW := hide hxW
  have HYH := hide hyH
  have HU := hide hu
  have HXN := hide (show -100000 ≤ s.x ∧ s.x ≤ 100000 from by rw [hx]; omega)
  have HYN := hide (show -100000 ≤ s.y ∧ s.y ≤ 100000 from by rw [hy]; omega)
  have HBS := hide (show B ≤ sb from by omega)
  have HT0 := hide T
  have HSS := hide (show h < sb ∧ g < sb ∧ B ≤ g from ⟨hh, hg, hB⟩)
  clear he hH hW hH7 hne hc hb hr hl hgd hx hy hxW hyH hu hh hg hB T
  go_wp2
  go_loopw [9, 8, 10] (fun i uw _ wr => ∃ k : Nat, j ≤ k ∧ k ≤ 4 ∧ i = .int .i64 (k : Int) ∧ uw = strV u ∧ (∀ i : Nat, j ≤ i → i < k → labAtB L (rollT s (i : Int)) = false) ∧ TW B w0 wr h g sb L W H s tv acc) (fun i _ _ _ => 4 - (intOf i).toNat)
  case atStart => exact ⟨j, Nat.le_refl _, hj, rfl, rfl, fun i h1 h2 => absurd h1 (by omega), HT0.out⟩
  case round =>
    obtain ⟨k, hjk, hk, rfl, rfl, hno, T⟩ := hrel
    clear HT0
    have HNO := hide hno
    clear hno
    by_cases hlt : k < 4
    · have hki : (k : Int) < 4 := by omega
      have hBw : B ≤ wr.heap.size := by have := T.st.lt; have := HBS.out; omega
      have HBW := hide hBw
      clear hBw
      obtain ⟨l0, ⟨a0, a1, a2, a3, a4, a5, a6, a7⟩, -⟩ := T.st.all
      have HT := hide T
      clear T
      have hdx := dixT hlt
      have HDN := hide (show 0 ≤ dirIx (dirC k).toNat from by rw [dirC_ix k hlt]; omega)
      have HD := hide (dirC_ix k hlt)
      obtain ⟨hg1, hg2, hg3⟩ := good_rollT HGD.out k hlt
      have HTOP := hide (show 0 ≤ (rollT s (k : Int)).d.t ∧ (rollT s (k : Int)).d.t ≤ 9 from ⟨hg2, hg3⟩)
      clear hg1 hg2 hg3
      generalize hr : rollT s (k : Int) = r at HTOP
      have HRR := hide hr
      clear hr
      have HFN := fun wx => rollFn_any (dirC k) s wx HDN.out HXN.out HYN.out
      simp only [HD.out, HRR.out] at HFN
      have HF0 := hide HFN
      clear HFN
      have h4 := hide (rollFn_fourT k hlt)
      go_upto_region 8 with (fail)
      go_cut [10] from 33 to 37 (fun p wx => ∃ bb, p = .pointer (some ⟨bb, 0, none⟩) ∧ IsS wx bb r 30 ∧ bb ≠ sb ∧ TW B w0 wx h g sb L W H s tv acc)
      case first =>
        rcases h4.out with hF | hF | hF | hF
        · have HFN := HF0.out
          rw [hF] at HFN
          have HF := hide HFN
          clear HFN
          go_region_held3 (fun w' => w'.cell? ⟨sb, 0, none⟩ = some (.int .i64 s.x) ∧ w'.cell? ⟨sb, 1, none⟩ = some (.int .i64 s.y) ∧ w'.cell? ⟨sb, 2, none⟩ = some (.int .i64 s.d.t) ∧ w'.cell? ⟨sb, 3, none⟩ = some (.int .i64 s.d.n) ∧ w'.cell? ⟨sb, 4, none⟩ = some (.int .i64 s.d.e) ∧ w'.cell? ⟨sb, 5, none⟩ = some (.int .i64 s.d.s) ∧ w'.cell? ⟨sb, 6, none⟩ = some (.int .i64 s.d.w) ∧ w'.cell? ⟨sb, 7, none⟩ = some (.int .i64 s.d.b)) (first | (refine ⟨?_, ?_, ?_, ?_, ?_, ?_, ?_, ?_⟩ <;> with_reducible assumption) | (refine ⟨?_, ?_, ?_, ?_, ?_, ?_, ?_, ?_⟩ <;> (rw [cell_set8 (by omega)]; with_reducible assumption)) | (refine ⟨?_, ?_, ?_, ?_, ?_, ?_, ?_, ?_⟩ <;> (refine (((Below.refl _ _).alloc (Nat.le_refl _) _).cell (by first | exact l0 | exact m0)).trans ?_; with_reducible assumption)) | (refine ⟨?_, ?_, ?_, ?_, ?_, ?_, ?_, ?_⟩ <;> assumption))
            (first
              | (go_at_call 41; (refine (rollTo_any (dirC k) _ HDN.out).mono ?_); rintro e w' ⟨rfl, rfl⟩; rw [hF])
              | (go_at_call 52; (refine (HF.out _).mono ?_); rintro e w2 ⟨rfl, hb2⟩; (first | (have hA : Below (wr.alloc (.cells #[.int .i64 0, .int .i64 0, .int .i64 0, .int .i64 0, .int .i64 0, .int .i64 0, .int .i64 0, .int .i64 0] 30)).drew.heap.size (wr.alloc (.cells #[.int .i64 0, .int .i64 0, .int .i64 0, .int .i64 0, .int .i64 0, .int .i64 0, .int .i64 0, .int .i64 0] 30)).drew w2 := (by with_reducible exact hb2); have NA := isS_to hA (IsS.new (w := wr) (s := ⟨0, 0, ⟨0, 0, 0, 0, 0, 0⟩⟩) (ty := 30)) rfl; obtain ⟨l2, ⟨c0, c1, c2, c3, c4, c5, c6, c7⟩, f0, f1, f2, f3, f4, f5, f6, f7⟩ := NA.all; obtain ⟨m0, ⟨b0, b1, b2, b3, b4, b5, b6, b7⟩, -⟩ := (isS_to hA (HT.out.st.alloc (.cells #[.int .i64 0, .int .i64 0, .int .i64 0, .int .i64 0, .int .i64 0, .int .i64 0, .int .i64 0, .int .i64 0] 30)) rfl).all) | (have hB : Below wr.drew.heap.size wr.drew w2 := (by with_reducible exact hb2); obtain ⟨m0, ⟨b0, b1, b2, b3, b4, b5, b6, b7⟩, -⟩ := (isS_to hB HT.out.st rfl).all))))
          all_goals
            go_wp2_with fail
            go_meet
            refine ⟨_, rfl, ?_⟩
            first
              | (with_reducible exact (tw_cutA (r := r) HT.out HBW.out hA NA))
              | (with_reducible exact (tw_cutB (r := r) HT.out HBW.out hB))
        · have HFN := HF0.out
          rw [hF] at HFN
          have HF := hide HFN
          clear HFN
          go_region_held3 (fun w' => w'.cell? ⟨sb, 0, none⟩ = some (.int .i64 s.x) ∧ w'.cell? ⟨sb, 1, none⟩ = some (.int .i64 s.y) ∧ w'.cell? ⟨sb, 2, none⟩ = some (.int .i64 s.d.t) ∧ w'.cell? ⟨sb, 3, none⟩ = some (.int .i64 s.d.n) ∧ w'.cell? ⟨sb, 4, none⟩ = some (.int .i64 s.d.e) ∧ w'.cell? ⟨sb, 5, none⟩ = some (.int .i64 s.d.s) ∧ w'.cell? ⟨sb, 6, none⟩ = some (.int .i64 s.d.w) ∧ w'.cell? ⟨sb, 7, none⟩ = some (.int .i64 s.d.b)) (first | (refine ⟨?_, ?_, ?_, ?_, ?_, ?_, ?_, ?_⟩ <;> with_reducible assumption) | (refine ⟨?_, ?_, ?_, ?_, ?_, ?_, ?_, ?_⟩ <;> (rw [cell_set8 (by omega)]; with_reducible assumption)) | (refine ⟨?_, ?_, ?_, ?_, ?_, ?_, ?_, ?_⟩ <;> (refine (((Below.refl _ _).alloc (Nat.le_refl _) _).cell (by first | exact l0 | exact m0)).trans ?_; with_reducible assumption)) | (refine ⟨?_, ?_, ?_, ?_, ?_, ?_, ?_, ?_⟩ <;> assumption))
            (first
              | (go_at_call 41; (refine (rollTo_any (dirC k) _ HDN.out).mono ?_); rintro e w' ⟨rfl, rfl⟩; rw [hF])
              | (go_at_call 53; (refine (HF.out _).mono ?_); rintro e w2 ⟨rfl, hb2⟩; (first | (have hA : Below (wr.alloc (.cells #[.int .i64 0, .int .i64 0, .int .i64 0, .int .i64 0, .int .i64 0, .int .i64 0, .int .i64 0, .int .i64 0] 30)).drew.heap.size (wr.alloc (.cells #[.int .i64 0, .int .i64 0, .int .i64 0, .int .i64 0, .int .i64 0, .int .i64 0, .int .i64 0, .int .i64 0] 30)).drew w2 := (by with_reducible exact hb2); have NA := isS_to hA (IsS.new (w := wr) (s := ⟨0, 0, ⟨0, 0, 0, 0, 0, 0⟩⟩) (ty := 30)) rfl; obtain ⟨l2, ⟨c0, c1, c2, c3, c4, c5, c6, c7⟩, f0, f1, f2, f3, f4, f5, f6, f7⟩ := NA.all; obtain ⟨m0, ⟨b0, b1, b2, b3, b4, b5, b6, b7⟩, -⟩ := (isS_to hA (HT.out.st.alloc (.cells #[.int .i64 0, .int .i64 0, .int .i64 0, .int .i64 0, .int .i64 0, .int .i64 0, .int .i64 0, .int .i64 0] 30)) rfl).all) | (have hB : Below wr.drew.heap.size wr.drew w2 := (by with_reducible exact hb2); obtain ⟨m0, ⟨b0, b1, b2, b3, b4, b5, b6, b7⟩, -⟩ := (isS_to hB HT.out.st rfl).all))))
          all_goals
            go_wp2_with fail
            go_meet
            refine ⟨_, rfl, ?_⟩
            first
              | (with_reducible exact (tw_cutA (r := r) HT.out HBW.out hA NA))
              | (with_reducible exact (tw_cutB (r := r) HT.out HBW.out hB))
        · have HFN := HF0.out
          rw [hF] at HFN
          have HF := hide HFN
          clear HFN
          go_region_held3 (fun w' => w'.cell? ⟨sb, 0, none⟩ = some (.int .i64 s.x) ∧ w'.cell? ⟨sb, 1, none⟩ = some (.int .i64 s.y) ∧ w'.cell? ⟨sb, 2, none⟩ = some (.int .i64 s.d.t) ∧ w'.cell? ⟨sb, 3, none⟩ = some (.int .i64 s.d.n) ∧ w'.cell? ⟨sb, 4, none⟩ = some (.int .i64 s.d.e) ∧ w'.cell? ⟨sb, 5, none⟩ = some (.int .i64 s.d.s) ∧ w'.cell? ⟨sb, 6, none⟩ = some (.int .i64 s.d.w) ∧ w'.cell? ⟨sb, 7, none⟩ = some (.int .i64 s.d.b)) (first | (refine ⟨?_, ?_, ?_, ?_, ?_, ?_, ?_, ?_⟩ <;> with_reducible assumption) | (refine ⟨?_, ?_, ?_, ?_, ?_, ?_, ?_, ?_⟩ <;> (rw [cell_set8 (by omega)]; with_reducible assumption)) | (refine ⟨?_, ?_, ?_, ?_, ?_, ?_, ?_, ?_⟩ <;> (refine (((Below.refl _ _).alloc (Nat.le_refl _) _).cell (by first | exact l0 | exact m0)).trans ?_; with_reducible assumption)) | (refine ⟨?_, ?_, ?_, ?_, ?_, ?_, ?_, ?_⟩ <;> assumption))
            (first
              | (go_at_call 41; (refine (rollTo_any (dirC k) _ HDN.out).mono ?_); rintro e w' ⟨rfl, rfl⟩; rw [hF])
              | (go_at_call 54; (refine (HF.out _).mono ?_); rintro e w2 ⟨rfl, hb2⟩; (first | (have hA : Below (wr.alloc (.cells #[.int .i64 0, .int .i64 0, .int .i64 0, .int .i64 0, .int .i64 0, .int .i64 0, .int .i64 0, .int .i64 0] 30)).drew.heap.size (wr.alloc (.cells #[.int .i64 0, .int .i64 0, .int .i64 0, .int .i64 0, .int .i64 0, .int .i64 0, .int .i64 0, .int .i64 0] 30)).drew w2 := (by with_reducible exact hb2); have NA := isS_to hA (IsS.new (w := wr) (s := ⟨0, 0, ⟨0, 0, 0, 0, 0, 0⟩⟩) (ty := 30)) rfl; obtain ⟨l2, ⟨c0, c1, c2, c3, c4, c5, c6, c7⟩, f0, f1, f2, f3, f4, f5, f6, f7⟩ := NA.all; obtain ⟨m0, ⟨b0, b1, b2, b3, b4, b5, b6, b7⟩, -⟩ := (isS_to hA (HT.out.st.alloc (.cells #[.int .i64 0, .int .i64 0, .int .i64 0, .int .i64 0, .int .i64 0, .int .i64 0, .int .i64 0, .int .i64 0] 30)) rfl).all) | (have hB : Below wr.drew.heap.size wr.drew w2 := (by with_reducible exact hb2); obtain ⟨m0, ⟨b0, b1, b2, b3, b4, b5, b6, b7⟩, -⟩ := (isS_to hB HT.out.st rfl).all))))
          all_goals
            go_wp2_with fail
            go_meet
            refine ⟨_, rfl, ?_⟩
            first
              | (with_reducible exact (tw_cutA (r := r) HT.out HBW.out hA NA))
              | (with_reducible exact (tw_cutB (r := r) HT.out HBW.out hB))
        · have HFN := HF0.out
          rw [hF] at HFN
          have HF := hide HFN
          clear HFN
          go_region_held3 (fun w' => w'.cell? ⟨sb, 0, none⟩ = some (.int .i64 s.x) ∧ w'.cell? ⟨sb, 1, none⟩ = some (.int .i64 s.y) ∧ w'.cell? ⟨sb, 2, none⟩ = some (.int .i64 s.d.t) ∧ w'.cell? ⟨sb, 3, none⟩ = some (.int .i64 s.d.n) ∧ w'.cell? ⟨sb, 4, none⟩ = some (.int .i64 s.d.e) ∧ w'.cell? ⟨sb, 5, none⟩ = some (.int .i64 s.d.s) ∧ w'.cell? ⟨sb, 6, none⟩ = some (.int .i64 s.d.w) ∧ w'.cell? ⟨sb, 7, none⟩ = some (.int .i64 s.d.b)) (first | (refine ⟨?_, ?_, ?_, ?_, ?_, ?_, ?_, ?_⟩ <;> with_reducible assumption) | (refine ⟨?_, ?_, ?_, ?_, ?_, ?_, ?_, ?_⟩ <;> (rw [cell_set8 (by omega)]; with_reducible assumption)) | (refine ⟨?_, ?_, ?_, ?_, ?_, ?_, ?_, ?_⟩ <;> (refine (((Below.refl _ _).alloc (Nat.le_refl _) _).cell (by first | exact l0 | exact m0)).trans ?_; with_reducible assumption)) | (refine ⟨?_, ?_, ?_, ?_, ?_, ?_, ?_, ?_⟩ <;> assumption))
            (first
              | (go_at_call 41; (refine (rollTo_any (dirC k) _ HDN.out).mono ?_); rintro e w' ⟨rfl, rfl⟩; rw [hF])
              | (go_at_call 55; (refine (HF.out _).mono ?_); rintro e w2 ⟨rfl, hb2⟩; (first | (have hA : Below (wr.alloc (.cells #[.int .i64 0, .int .i64 0, .int .i64 0, .int .i64 0, .int .i64 0, .int .i64 0, .int .i64 0, .int .i64 0] 30)).drew.heap.size (wr.alloc (.cells #[.int .i64 0, .int .i64 0, .int .i64 0, .int .i64 0, .int .i64 0, .int .i64 0, .int .i64 0, .int .i64 0] 30)).drew w2 := (by with_reducible exact hb2); have NA := isS_to hA (IsS.new (w := wr) (s := ⟨0, 0, ⟨0, 0, 0, 0, 0, 0⟩⟩) (ty := 30)) rfl; obtain ⟨l2, ⟨c0, c1, c2, c3, c4, c5, c6, c7⟩, f0, f1, f2, f3, f4, f5, f6, f7⟩ := NA.all; obtain ⟨m0, ⟨b0, b1, b2, b3, b4, b5, b6, b7⟩, -⟩ := (isS_to hA (HT.out.st.alloc (.cells #[.int .i64 0, .int .i64 0, .int .i64 0, .int .i64 0, .int .i64 0, .int .i64 0, .int .i64 0, .int .i64 0] 30)) rfl).all) | (have hB : Below wr.drew.heap.size wr.drew w2 := (by with_reducible exact hb2); obtain ⟨m0, ⟨b0, b1, b2, b3, b4, b5, b6, b7⟩, -⟩ := (isS_to hB HT.out.st rfl).all))))
          all_goals
            go_wp2_with fail
            go_meet
            refine ⟨_, rfl, ?_⟩
            first
              | (with_reducible exact (tw_cutA (r := r) HT.out HBW.out hA NA))
              | (with_reducible exact (tw_cutB (r := r) HT.out HBW.out hB))
      obtain ⟨bb, rfl, N2, hbs, T2⟩ := hcut
      clear a0 a1 a2 a3 a4 a5 a6 a7 l0 HT HBW hdx HF0 h4
      obtain ⟨l1, ⟨c0, c1, c2, c3, c4, c5, c6, c7⟩, -⟩ := N2.all
      go_wp2_with fail
      clear c0 c1 c2 c3 c4 c5 c6 c7 l1
      refine (hasItsLabel_any L W H h g cap HE.out HHH.out HW.out.2 HH7.out.2 r HTOP.out.1 HTOP.out.2 _ T2.lab).mono ?_
      rintro e w3 ⟨rfl, hb3⟩
      have hBw2 : B ≤ wc.heap.size := by have := T2.st.lt; have := HBS.out; omega
      have N3 := isS_to hb3 N2 rfl
      have T3 := T2.to hb3 hBw2
      clear hb3 N2 T2 hBw2
      cases hm : labB (cellI (splitP L) r.x r.y) r.d.t
      · have HM := hide (show labAtB L (rollT s (k : Int)) = false from by rw [HRR.out]; exact hm)
        clear hm
        go_wp2
        go_roundw
        case rel =>
          refine ⟨k + 1, by omega, by omega, by go_num, rfl, fun i h1 h2 => ?_, T3⟩
          rcases Nat.lt_or_ge i k with h3 | h3
          · exact HNO.out i h1 h3
          · obtain rfl : i = k := by omega
            exact HM.out
        case measure => simp [intOf] <;> omega
      · have HM := hide (show labAtB L (rollT s (k : Int)) = true from by rw [HRR.out]; exact hm)
        clear hm
        have hsl := dslT hlt
        have w1q : IntKind.i64.wrap ((k : Int) + 1) = (k : Int) + 1 := IntWalk.i64_in _ (by omega)
        have hu12 := HU.out
        have hsn := addT u (dirC k) (by omega)
        obtain ⟨l1, ⟨c0, c1, c2, c3, c4, c5, c6, c7⟩, -⟩ := N3.all
        obtain ⟨l2, ⟨d0, d1, d2, d3, d4, d5, d6, d7⟩, f0, f1, f2, f3, f4, f5, f6, f7⟩ := T3.st.all
        have T4 := hide (T3.set8 HSS.out.1 HSS.out.2.1 HBS.out r)
        have HKK := hide (HC.out k hjk hlt HM.out HNO.out)
        rw [HRR.out] at HKK
        have HQ1 := hide (show IsS w3.drew bb r 30 from isS_drewT N3)
        have HQ2 := hide (show IsS ((((((((w3.setCell ⟨sb, 0, none⟩ (.int .i64 r.x)).setCell ⟨sb, 1, none⟩ (.int .i64 r.y)).setCell ⟨sb, 2, none⟩ (.int .i64 r.d.t)).setCell ⟨sb, 3, none⟩ (.int .i64 r.d.n)).setCell ⟨sb, 4, none⟩ (.int .i64 r.d.e)).setCell ⟨sb, 5, none⟩ (.int .i64 r.d.s)).setCell ⟨sb, 6, none⟩ (.int .i64 r.d.w)).setCell ⟨sb, 7, none⟩ (.int .i64 r.d.b)).drew bb r 30 from isS_drewT (sT_set8 N3 hbs r))
        clear N3 T3
        go_upto_region 10 with (fail)
        go_region_held3 (fun w' => w'.cell? ⟨bb, 0, none⟩ = some (.int .i64 r.x) ∧ w'.cell? ⟨bb, 1, none⟩ = some (.int .i64 r.y) ∧ w'.cell? ⟨bb, 2, none⟩ = some (.int .i64 r.d.t) ∧ w'.cell? ⟨bb, 3, none⟩ = some (.int .i64 r.d.n) ∧ w'.cell? ⟨bb, 4, none⟩ = some (.int .i64 r.d.e) ∧ w'.cell? ⟨bb, 5, none⟩ = some (.int .i64 r.d.s) ∧ w'.cell? ⟨bb, 6, none⟩ = some (.int .i64 r.d.w) ∧ w'.cell? ⟨bb, 7, none⟩ = some (.int .i64 r.d.b)) (first | (refine ⟨?_, ?_, ?_, ?_, ?_, ?_, ?_, ?_⟩ <;> with_reducible assumption) | (with_reducible exact HQ1.out.all.2.1) | (with_reducible exact HQ2.out.all.2.1)) (fail)
        all_goals
          go_wp2
          go_step3
          exact HKK.out _ _ (tfr_of rfl rfl rfl rfl rfl rfl (by first | rfl | exact congrArg Value.string (str_snoc u _)) rfl) (by first | exact T4.out.drewn | exact T4.out)
    · obtain rfl : k = 4 := by omega
      have hw := T.st.lt
      have hff := (good_rollT2 HGD.out)
      have hlb := lab_nat hff.1 hff.2
      have hPl : y * (W + 1) + x < L.length := by
        have h1 := even_len HE.out
        rw [HHH.out] at h1
        have h2 : (y + 1) * (W + 1) ≤ H * (W + 1) := Nat.mul_le_mul_right _ (by have := HYH.out; omega)
        rw [Nat.add_mul] at h2
        have := HXW.out
        omega
      have T4 := T.put HNE.out HSS.out.2.1 HSS.out.2.2 hPl (lab s.d.t)
      rw [hlb, ← put_of HXX.out HYY.out (lab s.d.t)] at T4
      have HT4 := hide T4.drewn
      have HRW2 := T.lab.2.2 y HYH.out
      obtain ⟨c92, f92⟩ : ∃ c : UInt8, wr.cell? ⟨g, y * (W + 1) + x, none⟩ = some (.int .u8 (c.toNat : Int)) ∧ wr.frozen? ⟨g, y * (W + 1) + x, none⟩ = false := ⟨_, T.lab.2.1.cell (List.getElem?_eq_getElem hPl)⟩
      obtain ⟨c92, f92⟩ := f92
      obtain ⟨l1, ⟨c0, c1, c2, -⟩, -⟩ := T.st.all
      rw [HXX.out] at c0
      rw [HYY.out] at c1
      have hxi : (x : Int) < (W : Int) := by have := HXW.out; omega
      have hyi : (y : Int) < (H : Int) := by have := HYH.out; omega
      have hx7 : x < 100 := by have := HXW.out; have := HW.out.2; omega
      have hy7 : y < 100 := by have := HYH.out; have := HH7.out.2; omega
      have HNO2 := hide HNO.out
      generalize hFV : s.d.t = FV at c2 hlb hff HT4
      have HFV := hide hFV
      clear T T4 hPl HNO hlb hFV HC
      generalize y * (W + 1) = r at HT4 HRW2 c92 f92 ⊢
      have nb : ∀ j i : Nat, (⟨g, j, none⟩ : Addr) ≠ ⟨sb, i, none⟩ := fun j i e => by injection e with e1; have := HSS.out.2.1; omega
      have nh : ∀ j i : Nat, (⟨g, j, none⟩ : Addr) ≠ ⟨h, i, none⟩ := fun j i e => HNE.out (by injection e with e1; exact e1.symm)
      go_upto_region 11 with (fail)
      go_region_held3 (fun w' => w'.cell? ⟨sb, 0, none⟩ = some (.int .i64 (x : Int)) ∧ w'.cell? ⟨sb, 1, none⟩ = some (.int .i64 (y : Int)) ∧ w'.cell? ⟨sb, 2, none⟩ = some (.int .i64 FV) ∧ w'.cell? ⟨h, y, none⟩ = some (.slice (some ⟨g, r, none⟩) W W)) (first | (refine ⟨?_, ?_, ?_, ?_⟩ <;> with_reducible assumption) | exact ⟨(World.cell?_setCell_other _ _ _ _ (nb _ _)).trans c0, (World.cell?_setCell_other _ _ _ _ (nb _ _)).trans c1, (World.cell?_setCell_other _ _ _ _ (nb _ _)).trans c2, (World.cell?_setCell_other _ _ _ _ (nh _ _)).trans HRW2⟩ | exact ⟨c0, c1, c2, HRW2⟩)
            (first
              | (go_at_call 40; (refine (labelOf_any FV hff.1 hff.2 _).mono ?_); rintro e w' ⟨rfl, rfl⟩))
      all_goals
        generalize World.drew _ = w5 at HT4 ⊢
        have T5 := HT4.out
        rw [← HFV.out] at T5
        have HT5 := hide T5
        clear T5 HT4 c0 c1 c2 c92 f92 l1 HRW2 nb nh
        rcases HLW.out with hu0 | ⟨u', d, s', hu0, hd, hs'⟩
        · subst hu0
          go_wp2
          exact HRT.out (by first | exact trivial | rfl) HNO2.out _ _ rfl rfl HT5.out
        · subst hu0
          have hn : u'.length ≤ 12 := by have := HU.out; simp at this; omega
          obtain ⟨lsz, lix, lsl⟩ := lastT u' (dirC d) (by omega)
          have hod := oppT d hd
          have HOD := hide hod
          have HD := hide (dirC_ix d hd)
          have hrb : rollT s (dirIx (oppC (dirC d)).toNat) = s' := by rw [opp_ix d hd, hs', roll_back s' d hd]
          have HFN := fun wx => rollFn_any (oppC (dirC d)) s wx hod.2 HXN.out HYN.out
          simp only [hrb] at HFN
          have HF0 := hide HFN
          have h4 := hide (oppFour d hd)
          have HS1 := hide hs'
          have HDD := hide hd
          have w1q : IntKind.i64.wrap ((d : Int) + 1) = (d : Int) + 1 := IntWalk.i64_in _ (by omega)
          have HBW5 := hide (show B ≤ w5.heap.size from by have := HT5.out.st.lt; have := HBS.out; omega)
          clear hod hrb HFN hs' HLW
          generalize u'.length = n at lsz lix lsl hn
          go_upto_region 14 with (fail)
          obtain ⟨l5, ⟨a0, a1, a2, a3, a4, a5, a6, a7⟩, -⟩ := HT5.out.st.all
          go_cut [] from 65 to 71 (fun wx => TW B w0 wx h g sb (putC W L s (lab s.d.t)) W H s' tv acc)
          case first =>
            rcases h4.out with hF | hF | hF | hF
            · have HFN := HF0.out
              rw [hF] at HFN
              have HF := hide HFN
              clear HFN
              refine wp_region_noPanic ?_
              go_region_with
                (first
                  | (go_at_call 42; (refine (opposite_any (dirC d) _ (by rw [HD.out]; omega)).mono ?_); rintro e w' ⟨rfl, rfl⟩)
                  | (go_at_call 41; (refine (rollTo_any (oppC (dirC d)) _ HOD.out.2).mono ?_); rintro e w' ⟨rfl, rfl⟩; rw [hF])
                  | (go_at_call 52; (refine (HF.out _).mono ?_); rintro e w2 ⟨rfl, hb2⟩; have T6 := hide (tw_cutC HT5.out HBW5.out (by first | exact hb2 | exact hb2)); obtain ⟨m0, ⟨b0, b1, b2, b3, b4, b5, b6, b7⟩, f0, f1, f2, f3, f4, f5, f6, f7⟩ := T6.out.st.all; clear hb2))
              all_goals
                refine NoPanic.normal ?_
                go_wp2_with fail
                go_meet
                first | (with_reducible exact (T6.out.set8 HSS.out.1 HSS.out.2.1 HBS.out s').drewn) | (with_reducible exact (T6.out.set8 HSS.out.1 HSS.out.2.1 HBS.out s'))
            · have HFN := HF0.out
              rw [hF] at HFN
              have HF := hide HFN
              clear HFN
              refine wp_region_noPanic ?_
              go_region_with
                (first
                  | (go_at_call 42; (refine (opposite_any (dirC d) _ (by rw [HD.out]; omega)).mono ?_); rintro e w' ⟨rfl, rfl⟩)
                  | (go_at_call 41; (refine (rollTo_any (oppC (dirC d)) _ HOD.out.2).mono ?_); rintro e w' ⟨rfl, rfl⟩; rw [hF])
                  | (go_at_call 53; (refine (HF.out _).mono ?_); rintro e w2 ⟨rfl, hb2⟩; have T6 := hide (tw_cutC HT5.out HBW5.out (by first | exact hb2 | exact hb2)); obtain ⟨m0, ⟨b0, b1, b2, b3, b4, b5, b6, b7⟩, f0, f1, f2, f3, f4, f5, f6, f7⟩ := T6.out.st.all; clear hb2))
              all_goals
                refine NoPanic.normal ?_
                go_wp2_with fail
                go_meet
                first | (with_reducible exact (T6.out.set8 HSS.out.1 HSS.out.2.1 HBS.out s').drewn) | (with_reducible exact (T6.out.set8 HSS.out.1 HSS.out.2.1 HBS.out s'))
            · have HFN := HF0.out
              rw [hF] at HFN
              have HF := hide HFN
              clear HFN
              refine wp_region_noPanic ?_
              go_region_with
                (first
                  | (go_at_call 42; (refine (opposite_any (dirC d) _ (by rw [HD.out]; omega)).mono ?_); rintro e w' ⟨rfl, rfl⟩)
                  | (go_at_call 41; (refine (rollTo_any (oppC (dirC d)) _ HOD.out.2).mono ?_); rintro e w' ⟨rfl, rfl⟩; rw [hF])
                  | (go_at_call 54; (refine (HF.out _).mono ?_); rintro e w2 ⟨rfl, hb2⟩; have T6 := hide (tw_cutC HT5.out HBW5.out (by first | exact hb2 | exact hb2)); obtain ⟨m0, ⟨b0, b1, b2, b3, b4, b5, b6, b7⟩, f0, f1, f2, f3, f4, f5, f6, f7⟩ := T6.out.st.all; clear hb2))
              all_goals
                refine NoPanic.normal ?_
                go_wp2_with fail
                go_meet
                first | (with_reducible exact (T6.out.set8 HSS.out.1 HSS.out.2.1 HBS.out s').drewn) | (with_reducible exact (T6.out.set8 HSS.out.1 HSS.out.2.1 HBS.out s'))
            · have HFN := HF0.out
              rw [hF] at HFN
              have HF := hide HFN
              clear HFN
              refine wp_region_noPanic ?_
              go_region_with
                (first
                  | (go_at_call 42; (refine (opposite_any (dirC d) _ (by rw [HD.out]; omega)).mono ?_); rintro e w' ⟨rfl, rfl⟩)
                  | (go_at_call 41; (refine (rollTo_any (oppC (dirC d)) _ HOD.out.2).mono ?_); rintro e w' ⟨rfl, rfl⟩; rw [hF])
                  | (go_at_call 55; (refine (HF.out _).mono ?_); rintro e w2 ⟨rfl, hb2⟩; have T6 := hide (tw_cutC HT5.out HBW5.out (by first | exact hb2 | exact hb2)); obtain ⟨m0, ⟨b0, b1, b2, b3, b4, b5, b6, b7⟩, f0, f1, f2, f3, f4, f5, f6, f7⟩ := T6.out.st.all; clear hb2))
              all_goals
                refine NoPanic.normal ?_
                go_wp2_with fail
                go_meet
                first | (with_reducible exact (T6.out.set8 HSS.out.1 HSS.out.2.1 HBS.out s').drewn) | (with_reducible exact (T6.out.set8 HSS.out.1 HSS.out.2.1 HBS.out s'))
          clear a0 a1 a2 a3 a4 a5 a6 a7 l5 HT5 HF0 h4 HBW5
          have HT7 := hide hcut
          clear hcut
          go_wp2_with (go_at_call 43; refine (indexNesw_any _ _).mono ?_; rintro e w' ⟨rfl, rfl⟩; rw [HD.out])
          go_step3
          exact HBK.out u' d s' rfl HDD.out HS1.out HNO2.out _ _ (tfr_of rfl rfl rfl rfl rfl rfl rfl (congrArg (Value.int .i64) (by omega : (d : Int) + 1 = ((d + 1 : Nat) : Int)))) HT7.out
end Go.Proofs.YtkknjokacinlaaaDoor
