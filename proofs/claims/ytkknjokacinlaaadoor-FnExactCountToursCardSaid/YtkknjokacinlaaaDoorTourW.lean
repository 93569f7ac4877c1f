/- walkedTours: the label 'come': the label under the die is taken away, and a whole tour is told. walkedTours: the walk over all tours, by the number of labels that are left. The program's side of tours: countLabels, walkedTours, toursFrom, TourOf, CountTours. Conditions: at most 1048576 bytes; the chapters' variables as they were laid. -/
import Derived.Test.YtkknjokacinlaaaDoorTourL
import Derived.Test.YtkknjokacinlaaaDoorNetA
import Derived.Test.YtkknjokacinlaaaDoorUnderG
namespace Go.Proofs.YtkknjokacinlaaaDoor
set_option maxRecDepth 100000
set_option linter.all false
open Go.RowKit

theorem info_strT : (Tryd.prog.info? 9).map (fun i => (i.zero, i.size, i.bytes)) = some (some (.string ⟨#[]⟩), 1, 16) := by kernel_rfl
theorem cell_one_newT (w : World) (v : Value) (ty : TypeId) : ∀ (j : Nat) (u : Value), [v][j]? = some u → (w.alloc (.cells #[v] ty)).cell? ((⟨w.heap.size, 0, none⟩ : Addr).add j) = some u := by
  intro j u hj
  match j, hj with
  | 0, hj => simp at hj; subst hj; simp [Addr.add, World.cell?_alloc_mark]
/-- What coming to a labelled cell does. -/
def ComeSays (rc rl : Code) : Prop :=
  ∀ (QJ : Exit → Act → World → Prop) (B h g cap sb W H m : Nat) (w0 : World) (L : List UInt8) (s : St) (u : List UInt8) (tv : Value) (acc : List (List UInt8)) (a : Act) (w : World) (_he : Even L W) (_hH : (splitP L).length = H) (_hW : 1 ≤ W ∧ W ≤ 7) (_hH7 : 1 ≤ H ∧ H ≤ 7) (_hne : h ≠ g) (_hh : h < sb) (_hg : g < sb) (_hB : B ≤ g) (x y : Nat) (_hx : s.x = (x : Int)) (_hy : s.y = (y : Int)) (_hxW : x < W) (_hyH : y < H) (_hu : u.length ≤ 12) (_hm : m ≤ 12) (_ha : acc.length ≤ 100000000)
    (_F : TFr a (.slice (some ⟨h, 0, none⟩) H cap) m sb tv u 0) (_T : TW B w0 w h g sb L W H s tv acc)
    (_h1 : u.length + 1 = m → ∀ a w tv1, TFr a (.slice (some ⟨h, 0, none⟩) H cap) m sb tv1 u 0 → TW B w0 w h g sb (putC W L s 46) W H s tv1 (acc ++ [u]) → rl.wp Tryd.prog QJ a w)
    (_h2 : u.length + 1 ≠ m → ∀ a w, TFr a (.slice (some ⟨h, 0, none⟩) H cap) m sb tv u 0 → TW B w0 w h g sb (putC W L s 46) W H s tv acc → rl.wp Tryd.prog QJ a w), rc.wp Tryd.prog QJ a w
set_option maxHeartbeats 16000000 in
theorem wt_come : ∃ rc rl, findLabel wtC 0 = some (.seq .skip rc) ∧ findLabel wtC 1 = some (.seq .skip rl) ∧ ComeSays rc rl := by
  obtain ⟨i0, hi, hz0, hz1, hz2⟩ := info_parts info_strT
  have HI := hide hi
  have HZ0 := hide hz0
  have HZ1 := hide hz1
  have HZ2 := hide hz2
  clear hi hz0 hz1 hz2
  refine ⟨_, _, rfl, rfl, ?_⟩
  intro QJ B h g cap sb W H m w0 L s u tv acc a w he hH hW hH7 hne hh hg hB x y hx hy hxW hyH hu hm ha F T h1 h2
  obtain ⟨U, rfl⟩ := F
  have hw := T.st.lt
  have hPl : y * (W + 1) + x < L.length := by
    have h1 := even_len he
    rw [hH] at h1
    have h2 : (y + 1) * (W + 1) ≤ H * (W + 1) := Nat.mul_le_mul_right _ (by omega)
    rw [Nat.add_mul] at h2
    omega
  have T4 := T.put hne hg hB hPl 46
  rw [show (Value.int .u8 ((46 : UInt8).toNat : Int)) = .int .u8 46 from rfl, ← put_of hx hy 46] at T4
  have hRW2 := T.lab.2.2 y hyH
  obtain ⟨c92, f92⟩ : ∃ c : UInt8, w.cell? ⟨g, y * (W + 1) + x, none⟩ = some (.int .u8 (c.toNat : Int)) ∧ w.frozen? ⟨g, y * (W + 1) + x, none⟩ = false := ⟨_, T.lab.2.1.cell (List.getElem?_eq_getElem hPl)⟩
  obtain ⟨c92, f92⟩ := f92
  obtain ⟨l1, ⟨c0, c1, -⟩, -⟩ := T.st.all
  rw [hx] at c0
  rw [hy] at c1
  have hxi : (x : Int) < (W : Int) := by omega
  have hyi : (y : Int) < (H : Int) := by omega
  have hx7 : x < 100 := by omega
  have hy7 : y < 100 := by omega
  have HT4 := hide T4
  have HSS := hide (show h < sb ∧ g < sb ∧ B ≤ g from ⟨hh, hg, hB⟩)
  have HA := hide ha
  have H1 := hide h1
  have H2 := hide h2
  obtain ⟨v, hv⟩ : ∃ v : ByteArray, v = ⟨u.toArray⟩ := ⟨_, rfl⟩
  have hsv : strV u = .string v := by rw [hv]
  have hsz : v.size = u.length := by rw [hv]; simp [ByteArray.size]
  obtain ⟨n, hn⟩ : ∃ n, n = u.length := ⟨_, rfl⟩
  have HN := hide hn
  rw [← hn] at hsz hu
  rw [hsv]
  have HSV := hide hsv
  have HNE := hide hne
  clear hsv hv hn T T4 he hH hne hh hg hB hx hy hxW hyH ha h1 h2 hPl hW hH7
  generalize y * (W + 1) = r at HT4 hRW2 c92 f92
  have HT5 := hide HT4.out.drewn
  have nb : ∀ j i : Nat, (⟨g, j, none⟩ : Addr) ≠ ⟨sb, i, none⟩ := fun j i e => by injection e with e1; have := HSS.out.2.1; omega
  have nh : ∀ j i : Nat, (⟨g, j, none⟩ : Addr) ≠ ⟨h, i, none⟩ := fun j i e => HNE.out (by injection e with e1; exact e1.symm)
  go_upto_region 3 with (fail)
  go_region_held3 (fun w' => w'.cell? ⟨sb, 0, none⟩ = some (.int .i64 (x : Int)) ∧ w'.cell? ⟨sb, 1, none⟩ = some (.int .i64 (y : Int)) ∧ w'.cell? ⟨h, y, none⟩ = some (.slice (some ⟨g, r, none⟩) W W)) (first | (refine ⟨?_, ?_, ?_⟩ <;> with_reducible assumption) | exact ⟨(World.cell?_setCell_other _ _ _ _ (nb _ _)).trans c0, (World.cell?_setCell_other _ _ _ _ (nb _ _)).trans c1, (World.cell?_setCell_other _ _ _ _ (nh _ _)).trans hRW2⟩ | exact ⟨c0, c1, hRW2⟩) (fail)
  all_goals
    generalize World.drew _ = w5 at HT5 ⊢
    clear HT4 c0 c1 c92 f92 l1 hRW2 nb nh
    have w1q : IntKind.i64.wrap ((n : Int) + 1) = (n : Int) + 1 := IntWalk.i64_in _ (by omega)
    by_cases e : n + 1 = m
    · have e1 : (((n : Int) + 1) == (m : Int)) = true := by simp; omega
      have O5 := HT5.out.row
      have hsb := HT5.out.st.lt
      have HCL := hide (cell_one_newT w5 (.string v) 9)
      go_upto_region 5 with (fail)
      go_wp2_with (at_builtin; refine wpList_append_own_at _ rfl _ _ 48 rfl (sb + 1) 9 i0 (.string ⟨#[]⟩) 1 16 Tryd.underlying48 HI.out HZ0.out HZ1.out HZ2.out rfl (by decide) _ _ _ rfl (O5.alloc _) ⟨w5.heap.size, 0, none⟩ 1 1 [.string v] rfl rfl ?c1 ?c2 ?c3 ?c4 ?c5 ?_)
      case c1 => exact HCL.out
      case c2 =>
        intro u hu
        simp only [List.mem_singleton] at hu
        subst hu
        rfl
      case c3 => have := HA.out; unfold maxLen; omega
      case c4 => have := HA.out; omega
      case c5 => simp; omega
      · intro v' w6 hown6 hg6 _ _
        have T6 := hide (HT5.out.rows (tv1 := v') (acc1 := acc ++ [u]) HSS.out.1 HSS.out.2.1 HSS.out.2.2 (((Below.refl (sb + 1) w5).alloc (by omega) _).grown hg6 (by show sb + 1 ≤ (World.alloc _ _).heap.size; simp; omega) (fun j hj => (O5.lt j hj).1)) (by
          rw [List.length_append, List.map_append, List.length_singleton, List.map_singleton, HSV.out]
          exact hown6))
        clear hown6 hg6 O5 HT5
        go_wp2
        go_step3
        simp only [Exit.then]
        apply_assumption
        exact H1.out (by rw [← HN.out]; exact e) _ _ _ (tfr_of rfl rfl rfl rfl rfl rfl (by exact HSV.out.symm) rfl) T6.out
    · have e1 : (((n : Int) + 1) == (m : Int)) = false := by simp; omega
      go_wp2
      go_step3
      simp only [Exit.then]
      apply_assumption
      exact H2.out (by rw [← HN.out]; exact e) _ _ (tfr_of rfl rfl rfl rfl rfl rfl (by exact HSV.out.symm) rfl) HT5.out
end Go.Proofs.YtkknjokacinlaaaDoor
namespace Go.Proofs.YtkknjokacinlaaaDoor
set_option maxRecDepth 100000
set_option linter.all false
open Go.RowKit

theorem skip_seq {P : Program} {x : Code} {Q : Exit → Act → World → Prop} {a : Act} {w : World} (h : x.wp P Q a w) : (Code.seq .skip x).wp P Q a w := wp_seq (wp_skip h)
theorem tourG_skip (W n : Nat) (L : List UInt8) (s : St) (u : List UInt8) (j : Nat) : ∀ k, j ≤ k → k ≤ 4 → (∀ i, j ≤ i → i < k → labAtB L (rollT s (i : Int)) = false) → tourG W n L s u j = tourG W n L s u k
  | 0, h, _, _ => by obtain rfl : j = 0 := by omega
                     rfl
  | k + 1, h, h4, hn => by
    rcases Nat.lt_or_ge k j with h1 | h1
    · obtain rfl : j = k + 1 := by omega
      rfl
    · rw [tourG_skip W n L s u j k h1 (by omega) (fun i a b => hn i a (by omega)), tourG_miss W n L s u k (by omega) (hn k h1 (by omega))]
/-- What comes behind the look at a state's neighbours: the look goes on a roll earlier, or the walk ends. -/
def Back (B h g cap sb W H m : Nat) (w0 : World) (rl : Code) (Q : Exit → Act → World → Prop) (L : List UInt8) (s : St) (u : List UInt8) (acc : List (List UInt8)) : Prop :=
  (∀ u' d s', u = u' ++ [dirC d] → d < 4 → s = rollT s' (d : Int) → ∀ a w tv, TFr a (.slice (some ⟨h, 0, none⟩) H cap) m sb tv u' (d + 1) → TW B w0 w h g sb L W H s' tv acc → Goes Tryd.prog wtC (.seq .skip rl) Q a w) ∧
  (u = [] → ∀ a w tv, a.tmps.getD 6 undef = tv → a.defers = [] → TW B w0 w h g sb L W H s tv acc → Q .ret a w)
/-- The state is on the board, behind its word, and n labels are left. -/
structure Fine (W H m : Nat) (L : List UInt8) (s : St) (u : List UInt8) (n : Nat) : Prop where
  even : Even L W
  rows : (splitP L).length = H
  good : goodB s.d = true
  on : ∃ x y : Nat, s.x = (x : Int) ∧ s.y = (y : Int) ∧ x < W ∧ y < H
  len : u.length + 1 + n = m
  last : LastW u s
def LookG (B h g cap sb W H m : Nat) (w0 : World) (rl : Code) (Q : Exit → Act → World → Prop) (n j : Nat) : Prop :=
  ∀ L s u tv acc a w, Fine W H m L s u n → cntD L = n → acc.length + (tourG W n L s u j).length ≤ 100000000 → TFr a (.slice (some ⟨h, 0, none⟩) H cap) m sb tv u j → TW B w0 w h g sb L W H s tv acc →
    Back B h g cap sb W H m w0 rl Q (putC W L s (lab s.d.t)) s u (acc ++ tourG W n L s u j) → rl.wp Tryd.prog (ExitG Tryd.prog wtC Q) a w
def ComeG (B h g cap sb W H m : Nat) (w0 : World) (rc rl : Code) (Q : Exit → Act → World → Prop) (n : Nat) : Prop :=
  ∀ L s u tv acc a w, Fine W H m L s u n → labAtB L s = true → cntD L = n + 1 → acc.length + (tourT W n (putC W L s 46) s u).length ≤ 100000000 → TFr a (.slice (some ⟨h, 0, none⟩) H cap) m sb tv u 0 → TW B w0 w h g sb L W H s tv acc →
    Back B h g cap sb W H m w0 rl Q L s u (acc ++ tourT W n (putC W L s 46) s u) → rc.wp Tryd.prog (ExitG Tryd.prog wtC Q) a w
section
variable {B h g cap sb W H m : Nat} {w0 : World} {rc rl : Code} {Q : Exit → Act → World → Prop}
theorem come_of_look (HC : ComeSays rc rl) (hW : 1 ≤ W ∧ W ≤ 7) (hH7 : 1 ≤ H ∧ H ≤ 7) (hne : h ≠ g) (hh : h < sb) (hg : g < sb) (hB : B ≤ g) (hm : m ≤ 12) (n : Nat) (HL : LookG B h g cap sb W H m w0 rl Q n 0) : ComeG B h g cap sb W H m w0 rc rl Q n := by
  intro L s u tv acc a w F hl hc ha hF T hb
  obtain ⟨x, y, hx, hy, hxW, hyH⟩ := F.on
  have hlen := F.len
  have h09 := good_rollT2 F.good
  obtain ⟨e1, e2, e3, e4⟩ := lab_take F.even F.rows h09.1 h09.2 hl
  refine HC (ExitG Tryd.prog wtC Q) B h g cap sb W H m w0 L s u tv acc a w F.even F.rows hW hH7 hne hh hg hB x y hx hy hxW hyH (by omega) hm (by omega) hF T ?_ ?_
  · intro hu a1 w1 tv1 hF1 T1
    obtain rfl : n = 0 := by omega
    refine HL (putC W L s 46) s u tv1 (acc ++ [u]) a1 w1 ⟨e1, e2, F.good, F.on, F.len, F.last⟩ (by omega) (by simpa [tourG, tourT] using ha) hF1 T1 ?_
    rw [e4]
    have e : tourG W 0 (putC W L s 46) s u 0 = [] := rfl
    rw [e, List.append_nil]
    exact hb
  · intro hu a1 w1 hF1 T1
    obtain ⟨k, rfl⟩ : ∃ k, n = k + 1 := ⟨n - 1, by omega⟩
    rw [tourT_succ] at ha hb
    refine HL (putC W L s 46) s u tv acc a1 w1 ⟨e1, e2, F.good, F.on, F.len, F.last⟩ (by omega) ha hF1 T1 ?_
    rw [e4]
    exact hb
theorem look_step (hrc : findLabel wtC 0 = some (.seq .skip rc)) (hrl : findLabel wtC 1 = some (.seq .skip rl)) (HLS : LookSays rl) (hW : 1 ≤ W ∧ W ≤ 7) (hH7 : 1 ≤ H ∧ H ≤ 7) (hne : h ≠ g) (hh : h < sb) (hg : g < sb) (hB : B ≤ g) (hm : m ≤ 12) (n j : Nat) (hj : j ≤ 4)
    (HC : ∀ k, n = k + 1 → ComeG B h g cap sb W H m w0 rc rl Q k) (HL : ∀ k, j < k → k ≤ 4 → LookG B h g cap sb W H m w0 rl Q n k) : LookG B h g cap sb W H m w0 rl Q n j := by
  intro L s u tv acc a w F hc ha hF T hb
  obtain ⟨x, y, hx, hy, hxW, hyH⟩ := F.on
  have hlen := F.len
  refine HLS (ExitG Tryd.prog wtC Q) B h g cap sb W H m w0 L s u j tv acc a w F.even F.rows hW hH7 hne hh hg hB F.good x y hx hy hxW hyH hj (by omega) hF T F.last ?_ ?_ ?_
  · intro k hjk hk hlab hno a1 w1 hF1 T1
    obtain ⟨hg1, hg2, hg3⟩ := good_rollT F.good k hk
    cases n with
    | zero =>
      have := no_lab F.even F.rows hc hg2 hg3
      rw [this] at hlab
      cases hlab
    | succ n =>
      obtain ⟨e1, e2, e3, e4⟩ := lab_take F.even F.rows hg2 hg3 hlab
      obtain ⟨x1, y1, hx1, hy1, hxW1, hyH1, -⟩ := lab_in F.even F.rows hg2 hg3 hlab
      have hsk := tourG_skip W (n + 1) L s u j k hjk (by omega) hno
      rw [tourG_hit W n L s u k hk hlab] at hsk
      rw [hsk] at ha hb
      rw [List.length_append] at ha
      refine ⟨_, hrc, goes_of (skip_seq (HC n rfl L (rollT s (k : Int)) (u ++ [dirC k]) tv acc a1 w1 ⟨F.even, F.rows, hg1, ⟨x1, y1, hx1, hy1, hxW1, hyH1⟩, by rw [List.length_append, List.length_singleton]; omega, .inr ⟨u, k, s, rfl, hk, rfl⟩⟩ hlab hc (by omega) hF1 T1 ⟨?_, ?_⟩))⟩
      · intro u' d s' hu hd hs a2 w2 tv2 hF2 T2
        obtain ⟨hu1, hu2⟩ := List.append_inj' hu rfl
        subst hu1
        obtain rfl : k = d := dirC_inj hk hd (by simpa using hu2)
        have hs2 : s' = s := by rw [← roll_back s' k hk, ← hs, roll_back s k hk]
        subst hs2
        refine goes_of (skip_seq (HL (k + 1) (by omega) (by omega) L s' u tv2 _ a2 w2 F hc ?_ hF2 T2 ?_))
        · rw [List.length_append]; omega
        · rw [List.append_assoc]
          exact hb
      · intro hu
        simp at hu
  · intro u' d s' hu hd hs hno a1 w1 hF1 T1
    rw [tourG_skip W n L s u j 4 hj (Nat.le_refl _) hno, tourG_end, List.append_nil] at hb
    exact ⟨_, hrl, hb.1 u' d s' hu hd hs a1 w1 tv hF1 T1⟩
  · intro hu hno a1 w1 hr hd T1
    rw [tourG_skip W n L s u j 4 hj (Nat.le_refl _) hno, tourG_end, List.append_nil] at hb
    exact hb.2 hu a1 w1 tv hr hd T1
theorem look_all (hrc : findLabel wtC 0 = some (.seq .skip rc)) (hrl : findLabel wtC 1 = some (.seq .skip rl)) (HLS : LookSays rl) (HCS : ComeSays rc rl) (hW : 1 ≤ W ∧ W ≤ 7) (hH7 : 1 ≤ H ∧ H ≤ 7) (hne : h ≠ g) (hh : h < sb) (hg : g < sb) (hB : B ≤ g) (hm : m ≤ 12) :
    ∀ n j, j ≤ 4 → LookG B h g cap sb W H m w0 rl Q n j := by
  have key : ∀ n, (∀ k, n = k + 1 → ComeG B h g cap sb W H m w0 rc rl Q k) → ∀ i j, j + i = 4 → ∀ k, j ≤ k → k ≤ 4 → LookG B h g cap sb W H m w0 rl Q n k := by
    intro n hn i
    induction i with
    | zero =>
      intro j hj k hk hk4
      exact look_step hrc hrl HLS hW hH7 hne hh hg hB hm n k hk4 hn (fun k' h1 h2 => absurd h1 (by omega))
    | succ i ih =>
      intro j hj k hk hk4
      exact look_step hrc hrl HLS hW hH7 hne hh hg hB hm n k hk4 hn (fun k' h1 h2 => ih (j + 1) (by omega) k' (by omega) h2)
  intro n
  induction n with
  | zero =>
    intro j hj
    exact key 0 (fun k h => absurd h (by omega)) 4 0 rfl j (Nat.zero_le _) hj
  | succ n ih =>
    intro j hj
    refine key (n + 1) (fun k h => ?_) 4 0 rfl j (Nat.zero_le _) hj
    obtain rfl : n = k := by omega
    exact come_of_look HCS hW hH7 hne hh hg hB hm n (ih 0 (by omega))
theorem come_all (hrc : findLabel wtC 0 = some (.seq .skip rc)) (hrl : findLabel wtC 1 = some (.seq .skip rl)) (HLS : LookSays rl) (HCS : ComeSays rc rl) (hW : 1 ≤ W ∧ W ≤ 7) (hH7 : 1 ≤ H ∧ H ≤ 7) (hne : h ≠ g) (hh : h < sb) (hg : g < sb) (hB : B ≤ g) (hm : m ≤ 12) (n : Nat) :
    ComeG B h g cap sb W H m w0 rc rl Q n := come_of_look HCS hW hH7 hne hh hg hB hm n (look_all hrc hrl HLS HCS hW hH7 hne hh hg hB hm n 0 (by omega))
end
end Go.Proofs.YtkknjokacinlaaaDoor
namespace Go.Proofs.YtkknjokacinlaaaDoor
set_option maxRecDepth 100000
set_option linter.all false
open Go.RowKit

/-- The frame of walkedTours as its scope begins. -/
def TF0 (a : Act) (rows : Value) (m : Nat) (sb : Nat) : Prop :=
  ∃ U : Nat → Value, a = { tmps := #[rows, U 1, .int .i64 (m : Int), U 3, .pointer (some ⟨sb, 0, none⟩), U 5, U 6, U 7, U 8, U 9, U 10, U 11, U 12, U 13, U 14, U 15, U 16, U 17, U 18, U 19, U 20, U 21, U 22, U 23, U 24, U 25, U 26, U 27, U 28, U 29, U 30, U 31, U 32, U 33, U 34, U 35, U 36, U 37, U 38, U 39, U 40, U 41, U 42, U 43, U 44, U 45, U 46, U 47, U 48, U 49, U 50, U 51, U 52, U 53, U 54, U 55, U 56, U 57, U 58, U 59, U 60, U 61, U 62, U 63, U 64, U 65, U 66, U 67, U 68, U 69, U 70, U 71, U 72, U 73, U 74, U 75, U 76, U 77, U 78, U 79, U 80], defers := [] }
theorem tf0_of {a : Act} {rows : Value} {m sb : Nat} (hs : a.tmps.size = 81) (hd : a.defers = []) (h0 : a.tmps.getD 0 undef = rows) (h2 : a.tmps.getD 2 undef = .int .i64 (m : Int)) (h4 : a.tmps.getD 4 undef = .pointer (some ⟨sb, 0, none⟩)) : TF0 a rows m sb := by
  refine ⟨fun i => a.tmps.getD i undef, ?_⟩
  obtain ⟨t, d⟩ := a
  simp only at hs hd h0 h2 h4
  subst hd
  have e := tmps_list t
  rw [hs] at e
  rw [← h0, ← h2, ← h4]
  congr 1
def scopeOf : Option Code → Option Code
  | some (.seq _ (.scope c)) => some c
  | _ => none
theorem wtC_eq : wtC = (scopeOf Tryd.f28.body).getD .skip := rfl
set_option maxHeartbeats 1600000 in
theorem wt_begin : ∃ c0 rc, scopeOf Tryd.f28.body = some c0 ∧ findLabel wtC 0 = some (.seq .skip rc) ∧ ∀ (QJ : Exit → Act → World → Prop) (rows : Value) (m sb : Nat) (a : Act) (w : World), TF0 a rows m sb → (∀ a, TFr a rows m sb (.slice none 0 0) [] 0 → rc.wp Tryd.prog QJ a w) → c0.wp Tryd.prog QJ a w := by
  refine ⟨_, _, rfl, rfl, ?_⟩
  intro QJ rows m sb a w F h
  obtain ⟨U, rfl⟩ := F
  have H := hide h
  clear h
  go_wp2
  go_step3
  simp only [Exit.then]
  apply_assumption
  exact H.out _ (tfr_of rfl rfl rfl rfl rfl rfl rfl rfl)
theorem ret_one {fn : Func} {t : Tmp} {R : Ending → World → Prop} {a : Act} {w : World} {v : Value} (h : fn.results = #[.tmp t]) (hv : a.tmps.getD t undef = v) (hd : a.defers = []) (hr : R (.returned v) w) : bodyPost Tryd.prog fn R .ret a w :=
  bodyPost_ret (results_tmp h _ _ _) hd (by rw [hv]; exact hr)
set_option maxHeartbeats 3200000 in
theorem walkedTours_any (L : List UInt8) (W H h g cap m : Nat) (he : Even L W) (hH : (splitP L).length = H) (hW : 1 ≤ W ∧ W ≤ 7) (hH7 : 1 ≤ H ∧ H ≤ 7) (B : Nat) (hB : B ≤ g) (s : St) (hgd : goodB s.d = true) (hl : labAtB L s = true) (hm : cntD L = m) (hm12 : m ≤ 12) (w : World) (ha : LabAt w h g L W H) (hBw : B ≤ w.heap.size) :
    Calls Tryd.prog 28 #[.slice (some ⟨h, 0, none⟩) H cap, St.v s, .int .i64 (m : Int)] w fun e w' => ∃ tv, e = .returned tv ∧ w'.ownsRow (w.heap.size + 1) 9 1 tv (tourT W (m - 1) (putC W L s 46) s []).length ((tourT W (m - 1) (putC W L s 46) s []).map strV) ∧ Below B w w' := by
  obtain ⟨rc, rl, hrc, hrl, HCS⟩ := wt_come
  obtain ⟨rl', hrl', HLS⟩ := wt_look
  obtain rfl : rl = rl' := by rw [hrl] at hrl'; injection hrl' with e; injection e
  obtain ⟨c0, rc', hc0, hrc', HBG⟩ := wt_begin
  obtain rfl : rc = rc' := by rw [hrc] at hrc'; injection hrc' with e; injection e
  have hwc : wtC = c0 := by rw [wtC_eq, hc0]; rfl
  have h09 := good_rollT2 hgd
  obtain ⟨x, y, hx, hy, hxW, hyH, -⟩ := lab_in he hH h09.1 h09.2 hl
  have hht := ha.1
  have hgt := ha.2.1.lt
  have hLp : 0 < L.length := by
    have h1 := even_len he
    rw [hH] at h1
    have h2 : 1 * (W + 1) ≤ H * (W + 1) := Nat.mul_le_mul_right _ hH7.1
    omega
  have hne : h ≠ g := labT_ne ha (by omega) hLp
  obtain ⟨n, rfl⟩ : ∃ n, m = n + 1 := ⟨m - 1, by have := lab_take he hH h09.1 h09.2 hl; omega⟩
  rw [Nat.add_sub_cancel]
  generalize hT : tourT W n (putC W L s 46) s [] = T
  have hTl : T.length ≤ 16777216 := by
    have h1 := tourT_len W n (putC W L s 46) s []
    rw [hT] at h1
    have h2 : 4 ^ n ≤ 4 ^ 12 := Nat.pow_le_pow_right (by omega) (by omega)
    have h3 : (4 : Nat) ^ 12 = 16777216 := rfl
    omega
  have T0 : TW B w (w.alloc (.cells #[.int .i64 s.x, .int .i64 s.y, .int .i64 s.d.t, .int .i64 s.d.n, .int .i64 s.d.e, .int .i64 s.d.s, .int .i64 s.d.w, .int .i64 s.d.b] 30)) h g w.heap.size L W H s (.slice none 0 0) [] :=
    ⟨labT_alloc ha _, IsS.new, World.ownsRow_nil _ _ _ _, (Below.refl _ _).alloc hBw _⟩
  have key : ∀ Q : Exit → Act → World → Prop, (∀ a w' tv, a.tmps.getD 6 undef = tv → a.defers = [] → TW B w w' h g w.heap.size L W H s tv T → Q .ret a w') → ∀ a w1, TF0 a (.slice (some ⟨h, 0, none⟩) H cap) (n + 1) w.heap.size → TW B w w1 h g w.heap.size L W H s (.slice none 0 0) [] → wtC.wp Tryd.prog (ExitG Tryd.prog wtC Q) a w1 := by
    intro Q hQ a w1 F T1
    have := HBG (ExitG Tryd.prog wtC Q) _ _ _ a w1 F (fun a1 F1 => come_all hrc hrl HLS HCS hW hH7 hne hht hgt hB hm12 n L s [] (.slice none 0 0) [] a1 w1 ⟨he, hH, hgd, ⟨x, y, hx, hy, hxW, hyH⟩, by simp; omega, .inl rfl⟩ hl hm (by rw [hT]; simp; omega) F1 T1 ⟨fun u' d s' hu => by simp at hu, fun _ a2 w2 tv2 hv hd T2 => by
      rw [hT, List.nil_append] at T2
      exact hQ a2 w2 tv2 hv hd T2⟩)
    rw [← hwc] at this
    exact this
  have KEY := hide key
  have TT := hide T0
  clear he hH hW hH7 hgd hl hm ha key T0 hc0 hrc' HBG HLS HCS hrl hrc hwc hrl' hx hy hT hne
  go_enter Tryd.func28, Tryd.ntmps28
  go_wp2
  refine wp_scope_goes (c := wtC) (goes_of (KEY.out _ ?_ _ _ (tf0_of rfl rfl rfl rfl rfl) TT.out))
  intro a w' tv hv hd T2
  exact ret_one rfl hv hd ⟨tv, rfl, T2.row, T2.bel⟩
end Go.Proofs.YtkknjokacinlaaaDoor
