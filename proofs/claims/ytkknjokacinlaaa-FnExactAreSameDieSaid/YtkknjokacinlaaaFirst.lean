/- The contract of the program's search. -/
import Derived.Test.YtkknjokacinlaaaDie
import Derived.Test.YtkknjokacinlaaaMaps
import Derived.Test.YtkknjokacinlaaaState
import Derived.StillTailTactics
import Derived.Maps.AppendAt
import Derived.Deep.RegionWith
import Derived.Deep.DeepCutAuto
namespace Go.Proofs.Ytkknjokacinlaaa
set_option maxRecDepth 100000
set_option linter.all false
open Go.RowKit Go.Maps

def dcells (d : D) : List Value := [.int .i64 d.t, .int .i64 d.n, .int .i64 d.e, .int .i64 d.s, .int .i64 d.w, .int .i64 d.b]
def cellsL (L : Found) : List Value := L.flatMap fun p => dcells p.1
theorem cellsL_len (L : Found) : (cellsL L).length = L.length * 6 := by
  induction L with
  | nil => rfl
  | cons a L ih =>
    simp only [cellsL, List.flatMap_cons, List.length_append] at ih ⊢
    rw [ih]
    simp [dcells]
    omega
theorem cellsL_snoc (L : Found) (p : D × List UInt8) : cellsL (L ++ [p]) = cellsL L ++ dcells p.1 := by simp [cellsL]
theorem cellsL_get : ∀ (L : Found) (n : Nat) (p : D × List UInt8), L[n]? = some p → ∀ j, j < 6 → (cellsL L)[n * 6 + j]? = (dcells p.1)[j]?
  | [], _, _, h, _, _ => by simp at h
  | a :: L, 0, p, h, j, hj => by
    simp at h
    subst h
    simp only [cellsL, List.flatMap_cons]
    rw [List.getElem?_append_left (by simp [dcells]; omega)]
    simp
  | a :: L, n + 1, p, h, j, hj => by
    have := cellsL_get L n p (by simpa using h) j hj
    rw [← this]
    simp only [cellsL, List.flatMap_cons]
    rw [List.getElem?_append_right (by simp [dcells]; omega)]
    congr 1
    simp [dcells]
    omega

/-- What holds of the world at the head of each round: the map and the queue are the list of what has been found. -/
structure Inv (w wr : World) (v : Value) (L : Found) : Prop where
  map : MapIs wr (w.heap.size + 1) L
  row : wr.ownsRow w.heap.size 39 6 v L.length (cellsL L)
  below : Below w.heap.size w wr

theorem Inv.slice {w wr : World} {v : Value} {L : Found} (h : Inv w wr v L) (hp : 0 < L.length) : ∃ g cap, v = .slice (some ⟨g, 0, none⟩) L.length cap ∧ w.heap.size ≤ g ∧ L.length ≤ cap ∧ cap ≤ maxLen := by
  rcases h.row.2 with ⟨_, h0⟩ | ⟨g, cap, cur, hv, hg, _, hc, hm, _⟩
  · omega
  · exact ⟨g, cap, hv, hg, hc, hm⟩
theorem Inv.cell {w wr : World} {g cap n : Nat} {L : Found} (h : Inv w wr (.slice (some ⟨g, 0, none⟩) L.length cap) L) {p : D × List UInt8} (hn : L[n]? = some p) :
    wr.cell? ⟨g, n * 6, none⟩ = some (.int .i64 p.1.t) ∧ wr.cell? ⟨g, n * 6 + 1, none⟩ = some (.int .i64 p.1.n) ∧ wr.cell? ⟨g, n * 6 + 2, none⟩ = some (.int .i64 p.1.e) ∧
    wr.cell? ⟨g, n * 6 + 3, none⟩ = some (.int .i64 p.1.s) ∧ wr.cell? ⟨g, n * 6 + 4, none⟩ = some (.int .i64 p.1.w) ∧ wr.cell? ⟨g, n * 6 + 5, none⟩ = some (.int .i64 p.1.b) := by
  have hc := h.row.cells (g := g) rfl
  have hh : ∀ j u, j < 6 → (dcells p.1)[j]? = some u → wr.cell? ⟨g, n * 6 + j, none⟩ = some u := by
    intro j u hj hu
    have h1 := hc (n * 6 + j) u ((cellsL_get L n p hn j hj).trans hu)
    have e : (⟨g, 0, none⟩ : Addr).add (n * 6 + j) = ⟨g, n * 6 + j, none⟩ := by
      unfold Addr.add
      split
      · rename_i h0
        simp
      · simp
    rw [e] at h1
    exact h1
  exact ⟨hh 0 _ (by omega) rfl, hh 1 _ (by omega) rfl, hh 2 _ (by omega) rfl, hh 3 _ (by omega) rfl, hh 4 _ (by omega) rfl, hh 5 _ (by omega) rfl⟩

theorem start_map (d : D) (hd : goodB d = true) (w : World) : ∃ W1, (Instr.mapUpdate 71 (.map (some (w.heap.size + 1))) (D.v d) (.string ⟨#[]⟩)).run Try.prog ((w.alloc (.cells #[.int .i64 d.t, .int .i64 d.n, .int .i64 d.e, .int .i64 d.s, .int .i64 d.w, .int .i64 d.b] 39)).alloc (.map #[] 0)) = .ok () W1 ∧
    MapIs W1 (w.heap.size + 1) [(d, [])] ∧ IsD W1 w.heap.size d 39 ∧ Below w.heap.size w W1 ∧ w.heap.size + 2 ≤ W1.heap.size := by
  have h0 : MapIs ((w.alloc (.cells #[.int .i64 d.t, .int .i64 d.n, .int .i64 d.e, .int .i64 d.s, .int .i64 d.w, .int .i64 d.b] 39)).alloc (.map #[] 0)) (w.heap.size + 1) [] := by
    have := (MapKept.heap_alloc (w.alloc (.cells #[.int .i64 d.t, .int .i64 d.n, .int .i64 d.e, .int .i64 d.s, .int .i64 d.w, .int .i64 d.b] 39)) (.map #[] 0)).1
    simpa [MapIs, entries] using this
  have h1 := store_new hd (Good.none d) hd (x := d) rfl [] h0
  refine ⟨_, h1, setBlock_map h0, ?_, ?_, ?_⟩
  · have g := setBlock_grown (w := (w.alloc (.cells #[.int .i64 d.t, .int .i64 d.n, .int .i64 d.e, .int .i64 d.s, .int .i64 d.w, .int .i64 d.b] 39)).alloc (.map #[] 0)) (b := w.heap.size + 1) (o := .map (entries (([] : Found) ++ [(d, [])])).toArray (([] : Found) ++ [(d, [])]).length)
    have i0 := (IsD.new (w := w) (d := d) (ty := 39)).alloc (.map #[] 0)
    exact (g.block w.heap.size (by simp; omega) (by simp)).trans i0
  · have b0 : Below w.heap.size w ((w.alloc (.cells #[.int .i64 d.t, .int .i64 d.n, .int .i64 d.e, .int .i64 d.s, .int .i64 d.w, .int .i64 d.b] 39)).alloc (.map #[] 0)) := by go_grown
    exact b0.grown setBlock_grown (by simp; omega) (fun k hk => by cases hk; omega)
  · simp [ChangeMaps.setBlock]

theorem dir_index : ∀ (j : Nat) (hj : j < 4) (wx : World), (Instr.index 9 (.string ⟨#[110, 101, 115, 119]⟩) (.int .i64 (j : Int))).run Try.prog wx = .ok (.int .u8 ((fourDirs[j]'hj).toNat : Int)) wx
  | 0, _, _ => by kernel_rfl
  | 1, _, _ => by kernel_rfl
  | 2, _, _ => by kernel_rfl
  | 3, _, _ => by kernel_rfl
theorem dir_slice : ∀ (j : Nat) (hj : j < 4) (wx : World), (Instr.slice 9 (.string ⟨#[110, 101, 115, 119]⟩) (some (.int .i64 (j : Int))) (some (.int .i64 ((j : Int) + 1))) none).run Try.prog wx = .ok (.string ⟨#[fourDirs[j]'hj]⟩) wx
  | 0, _, _ => by kernel_rfl
  | 1, _, _ => by kernel_rfl
  | 2, _, _ => by kernel_rfl
  | 3, _, _ => by kernel_rfl
theorem add_str (a b : List UInt8) (h : a.length + b.length ≤ 1000) (wx : World) : (binOp .add 9 (.string ⟨a.toArray⟩) (.string ⟨b.toArray⟩)).run Try.prog wx = .ok (.string ⟨(a ++ b).toArray⟩) wx := by
  have e : (⟨(a ++ b).toArray⟩ : ByteArray) = ⟨a.toArray⟩ ++ ⟨b.toArray⟩ := by
    apply ByteArray.ext
    simp
  rw [e]
  have h' : a.length + b.length ≤ 9223372036854775807 := by omega
  simp [go_sem, h']

theorem info_die : (Try.prog.info? 39).map (fun i => (i.zero, i.size, i.bytes)) = some (some (.agg #[.int .i64 0, .int .i64 0, .int .i64 0, .int .i64 0, .int .i64 0, .int .i64 0]), 6, 48) := by kernel_rfl
theorem dcells_one (x : D) : ∀ u ∈ dcells x, u.oneCell' = true := by
  intro u hu
  simp only [dcells, List.mem_cons, List.not_mem_nil, or_false] at hu
  rcases hu with rfl | rfl | rfl | rfl | rfl | rfl <;> rfl
theorem dcells_cell {w : World} {b : Nat} {x : D} {ty : TypeId} (h : IsD w b x ty) : ∀ (j : Nat) (u : Value), (dcells x)[j]? = some u → w.cell? ((⟨b, 0, none⟩ : Addr).add j) = some u := by
  intro j u hu
  obtain ⟨⟨c0, c1, c2, c3, c4, c5⟩, -⟩ := h.cells
  match j, hu with
  | 0, hu => simp [dcells] at hu; subst hu; simpa [Addr.add] using c0
  | 1, hu => simp [dcells] at hu; subst hu; simpa [Addr.add] using c1
  | 2, hu => simp [dcells] at hu; subst hu; simpa [Addr.add] using c2
  | 3, hu => simp [dcells] at hu; subst hu; simpa [Addr.add] using c3
  | 4, hu => simp [dcells] at hu; subst hu; simpa [Addr.add] using c4
  | 5, hu => simp [dcells] at hu; subst hu; simpa [Addr.add] using c5
  | j + 6, hu => simp [dcells] at hu

theorem Inv.kept {w wr w1 : World} {v : Value} {L : Found} (h : Inv w wr v L) (x : World) (e : x.heap = wr.heap) (e1 : x.os = wr.os) (e2 : x.tape = wr.tape) (e3 : x.output = wr.output) (hb : Below x.heap.size x w1) : Inv w w1 v L := by
  have gb : wr.grownBy w1 none := ⟨hb.os.trans e1, hb.tape.trans e2, hb.output.trans e3, by rw [← e]; exact hb.size, fun k hk _ => by rw [hb.block k (by rw [e]; exact hk), e]⟩
  have q : Below w.heap.size w wr := h.below
  refine ⟨h.map.kept gb (by simp), ?_, ?_⟩
  · refine h.row.kept gb ?_
    cases hv : v.ownBlock
    · exact .inl rfl
    · exact .inr (by simp)
  · exact q.grown gb q.size (fun k hk => by cases hk)

set_option maxHeartbeats 2000000 in
theorem firstWords_any (d : D) (w : World) (hd : goodB d = true) :
    Calls Try.prog 31 #[D.v d] w fun e w' => e = .returned (.map (some (w.heap.size + 1))) ∧ MapIs w' (w.heap.size + 1) (bfs d) ∧ Below w.heap.size w w' := by
  have hmm := @run_makeMap Try.prog
  obtain ⟨W1, hins, m1, i1, b1, z1⟩ := start_map d hd w
  obtain ⟨l1, ⟨c0, c1, c2, c3, c4, c5⟩, -⟩ := i1.all
  go_enter Try.func31, Try.ntmps31
  go_wp2
  clear hins hmm c0 c1 c2 c3 c4 c5
  go_loopw [4, 5] (fun v i wr => ∃ (n : Nat) (L : Found), 0 < L.length ∧ n ≤ L.length ∧ i = .int .i64 (n : Int) ∧ Good d L ∧ bfs d = go (25 - n) n L ∧ Inv w wr v L) (fun _ i _ => 25 - (intOf i).toNat)
  case atStart =>
    refine ⟨0, [(d, [])], by simp, by simp, rfl, Good.start d, rfl, ?_, ?_, ?_⟩
    · exact m1.kept (World.grownBy_alloc _ _ none) (by simp)
    · refine ⟨by rw [cellsL_len], .inr ⟨W1.heap.size, 1, _, rfl, by omega, (MapKept.heap_alloc W1 _).1, Nat.le_refl _, by unfold maxLen; omega, rfl, rfl⟩⟩
    · exact b1.alloc (by omega) _
  case round =>
    obtain ⟨n, L, hpos, hn, rfl, hG, hgo, hI⟩ := hrel
    have h24 := hG.le
    have HGO := hide hgo
    clear hgo b1 z1 l1 m1 i1
    by_cases hlt : n < L.length
    · obtain ⟨g, cap, rfl, hg, hc1, hc2⟩ := hI.slice (by omega)
      have hp : L[n]? = some (L[n]'hlt) := List.getElem?_eq_getElem hlt
      generalize hpp : L[n]'hlt = p at hp
      have HP := hide hpp
      have HP2 := hide hp
      obtain ⟨c0, c1, c2, c3, c4, c5⟩ := hI.cell hp
      clear hpp hp
      unfold maxLen at hc2
      go_wp2_with fail
      obtain ⟨wo, hwo⟩ : ∃ wo : World, wo = wr := ⟨_, rfl⟩
      rw [← hwo] at hI c0 c1 c2 c3 c4 c5 ⊢
      clear hwo c0 c1 c2 c3 c4 c5
      have hpm : p ∈ L := List.mem_of_getElem? HP2.out
      have hlt' := hlt
      go_loopw [4, 26] (fun v i wi => ∃ j : Nat, j ≤ 4 ∧ i = .int .i64 (j : Int) ∧ Inv w wi v (stepN p j L) ∧ IsD wi wo.heap.size p.1 39 ∧ v.ownBlock ≠ some wo.heap.size) (fun _ i _ => 4 - (intOf i).toNat)
      case atStart =>
        have hgb := (hI.row.lt g rfl).2
        refine ⟨0, by omega, rfl, ?_, IsD.new, ?_⟩
        · exact hI.kept wo rfl rfl rfl rfl ((Below.refl _ _).alloc (Nat.le_refl _) _)
        · simp [Value.ownBlock]
          omega
      case round =>
        obtain ⟨j, hj, rfl, hI, hF, hne⟩ := hrel
        generalize hL' : stepN p j L = M at hI
        have hGM : Good d M := by rw [← hL']; exact stepN_good hG hpm j
        have hpM : p ∈ M := by rw [← hL']; exact stepN_mem hpm
        have HL := hide hL'
        clear hL'
        by_cases hlt : j < 4
        · have di := dir_index j hlt
          have ds := dir_slice j hlt
          generalize hc : fourDirs[j]'hlt = c at di ds
          have HC := hide hc
          clear hc
          obtain ⟨lF, ⟨c0, c1, c2, c3, c4, c5⟩, -⟩ := hF.all
          go_upto_region 10 with fail
          go_cut [8] (fun s8 wx => ∃ bt, s8 = .pointer (some ⟨bt, 0, none⟩) ∧ IsD wx bt (rollC c.toNat p.1) 39 ∧ Below wr.heap.size wr wx)
          case first =>
            go_region_with (first | (go_at_call 40; refine (rolled_any _ p.1 _).mono ?_; rintro e w1 ⟨rfl, hb1⟩; obtain ⟨hc1, hf1⟩ := bcell hb1))
            all_goals (go_wp2_with fail)
            all_goals go_meet
            all_goals (refine ⟨_, rfl, ?_, ?_⟩)
            all_goals (clear c0 c1 c2 c3 c4 c5 di ds hc1 hf1)
            all_goals (first | (with_reducible exact IsD.new (d := rollC c.toNat p.1)) | (with_reducible refine IsD.set6 (d := ⟨0, 0, 0, 0, 0, 0⟩) ?_ (rollC c.toNat p.1)) | (with_reducible refine below_set6 ?_ (Nat.le_refl _) (rollC c.toNat p.1)) | (with_reducible refine Below.alloc ?_ ?_ _))
            all_goals (first | (exact hb1.size) | (exact isD_to hb1 (IsD.new (w := wr) (d := ⟨0, 0, 0, 0, 0, 0⟩)) rfl) | (exact below_to hb1 (Below.refl _ wr) (Nat.le_refl _) rfl rfl rfl rfl) | (exact below_to hb1 ((Below.refl _ wr).alloc (Nat.le_refl _) _) (by simp) rfl rfl rfl rfl))
          case rest =>
            clear c0 c1 c2 c3 c4 c5 di
            obtain ⟨bt, rfl, hT, hB⟩ := hcut
            have hI2 := hI.kept wr rfl rfl rfl rfl hB
            have hF2 := isD_to hB hF rfl
            clear hI hF hB lF
            have hx := hide (orbit_good hd (orbit_closed (hGM.orb p hpM) c.toNat))
            obtain ⟨s0, hlk⟩ := look_found hd hGM hx.out hI2.map
            have hnew := hide (hGM.step (hGM.orb p hpM) (hGM.short p hpM) c)
            obtain ⟨lT, ⟨t0, t1, t2, t3, t4, t5⟩, -⟩ := hT.all
            obtain ⟨lF, ⟨c0, c1, c2, c3, c4, c5⟩, -⟩ := hF2.all
            have hst := hide (stepN_succ p j hlt L)
            cases hk : known M (rollC c.toNat p.1)
            · rw [hk] at hlk
              have HK := hide hk
              clear hk
              go_upto_region 13 with fail
              clear hlk
              have hw1 := look_word hd hGM hpM (w := wc.drew) (b := w.heap.size + 1) hI2.map
              have ha : ¬ 9223372036854775807 < p.2.length + 1 := by have := hGM.short p hpM; have := hGM.le; omega
              have q1 : IntKind.i64.wrap ((j : Int) + 1) = (j : Int) + 1 := IntWalk.i64_in _ (by omega)
              go_still_tail 10, (by kernel_rfl)
              clear hw1 ha q1
              change wpList _ _ _ _ _ wc.drew
              have es : (⟨p.2.toArray⟩ : ByteArray) ++ ⟨#[c]⟩ = ⟨(p.2 ++ [c]).toArray⟩ := by
                apply ByteArray.ext
                simp
              obtain ⟨W2, hst2, hm2, hg2⟩ : ∃ W2, (Instr.mapUpdate 71 (.map (some (w.heap.size + 1))) (D.v (rollC c.toNat p.1)) (.string ((⟨p.2.toArray⟩ : ByteArray) ++ ⟨#[c]⟩))).run Try.prog wc.drew = .ok () W2 ∧ MapIs W2 (w.heap.size + 1) (M ++ [(rollC c.toNat p.1, p.2 ++ [c])]) ∧ wc.drew.grownBy W2 (some (w.heap.size + 1)) :=
                ⟨_, by rw [es]; exact store_new hd hGM hx.out HK.out (p.2 ++ [c]) (w := wc.drew) hI2.map, setBlock_map (w := wc.drew) (L := M) hI2.map, setBlock_grown⟩
              clear es
              have hbm : u4.ownBlock ≠ some (w.heap.size + 1) := by
                intro e
                rcases hI2.row.2 with ⟨h0, _⟩ | ⟨g', cap', cur', hv, _, hh, _⟩
                · rw [h0] at e
                  cases e
                · rw [hv] at e
                  cases e
                  have := hI2.map
                  unfold MapIs at this
                  rw [this] at hh
                  cases hh
              have row2 : W2.ownsRow w.heap.size 39 6 u4 M.length (cellsL M) := World.ownsRow.kept (w := wc.drew) hI2.row hg2 (.inr hbm)
              have b2 : Below w.heap.size w W2 := hI2.below.drew.grown hg2 hI2.below.size (fun k hk => by cases hk; omega)
              have kept2 : ∀ {b : Nat} {y : D}, IsD wc b y 39 → b ≠ w.heap.size + 1 → IsD W2 b y 39 := fun {b y} h hb => (hg2.block b h.lt (fun e => hb (Option.some.inj e))).trans h
              have notmap : ∀ {b : Nat} {y : D}, IsD wc b y 39 → b ≠ w.heap.size + 1 := by
                intro b y h e
                subst e
                have := hI2.map
                unfold MapIs at this
                unfold IsD at h
                rw [this] at h
                cases h
              have iT := kept2 hT (notmap hT)
              have iF := kept2 hF2 (notmap hF2)
              clear kept2 notmap hI2 hT hF2 t0 t1 t2 t3 t4 t5 c0 c1 c2 c3 c4 c5 lT lF
              obtain ⟨lT, ⟨t0, t1, t2, t3, t4, t5⟩, -⟩ := iT.all
              go_upto_region 14 with fail
              clear hst2
              have HBM := hide hbm
              have HNE := hide hne
              clear hbm hne
              obtain ⟨i0, hi, hz0, hz1, hz2⟩ := info_parts info_die
              have h24M := hGM.le
              go_wp2_with (at_builtin; refine wpList_append_own_at _ rfl _ _ 57 rfl w.heap.size 39 i0 (.agg #[.int .i64 0, .int .i64 0, .int .i64 0, .int .i64 0, .int .i64 0, .int .i64 0]) 6 48 Try.underlying57 hi hz0 hz1 hz2 rfl (by decide) _ _ _ rfl (row2.alloc _) ⟨W2.heap.size, 0, none⟩ 1 1 (dcells (rollC c.toNat p.1)) rfl rfl ?c1 ?c2 ?c3 ?c4 ?c5 ?_)
              case c1 => exact dcells_cell IsD.new
              case c2 => exact dcells_one _
              case c3 => unfold maxLen; omega
              case c4 => omega
              case c5 => have := b2.size; simp; omega
              · intro v' w3 hown3 hg3 _ hloc
                clear hi hz0 hz1 hz2 t0 t1 t2 t3 t4 t5 lT iT
                have e1 : stepN p (j + 1) L = M ++ [(rollC c.toNat p.1, p.2 ++ [c])] := by
                  rw [hst.out, HL.out, HC.out]
                  unfold stepF
                  rw [if_neg (by rw [HK.out]; simp)]
                have I3 : Inv w w3 v' (M ++ [(rollC c.toNat p.1, p.2 ++ [c])]) := by
                  refine ⟨(hm2.kept (World.grownBy_alloc W2 _ none) (by simp)).kept hg3 (fun e => HBM.out e.symm), ?_, ?_⟩
                  · rw [cellsL_snoc, List.length_append]
                    exact hown3
                  · exact (b2.alloc b2.size _).grown hg3 (by have := b2.size; simp; omega) (fun k hk => (row2.lt k hk).1)
                have F3 : IsD w3 wo.heap.size p.1 39 := (hg3.block _ (iF.alloc _).lt (fun e => HNE.out e.symm)).trans (iF.alloc _)
                have N3 : v'.ownBlock ≠ some wo.heap.size := by
                  rcases hloc with h | h
                  · rw [h]
                    exact HNE.out
                  · rw [h]
                    intro e
                    have h1 := Option.some.inj e
                    have h2 := iF.lt
                    first | omega | (simp at h1; omega)
                have E1 := hide e1
                have NN := hide N3
                clear e1 N3 hown3 hg3 hloc hm2 row2 b2 iF hg2
                go_wp2
                go_roundw
                case rel => exact ⟨j + 1, by omega, by go_num, by rw [E1.out]; exact I3, F3, NN.out⟩
                case measure => simp [intOf]; omega
            · rw [hk] at hlk
              have HK := hide hk
              have HNE := hide hne
              clear hk hne
              have e1 : stepN p (j + 1) L = M := by
                rw [hst.out, HL.out, HC.out]
                unfold stepF
                rw [if_pos HK.out]
              have E1 := hide e1
              clear e1
              go_wp2
              go_roundw
              case rel => exact ⟨j + 1, by omega, by go_num, by rw [E1.out]; exact hI2, hF2, HNE.out⟩
              case measure => simp [intOf]; omega
        · have hj4 : j = 4 := by omega
          subst hj4
          have HNE := hide hne
          clear hne
          have hM1 : n + 1 ≤ M.length := by
            have := stepN_len p 4 L
            rw [HL.out] at this
            omega
          have hG1 : bfs d = go (25 - (n + 1)) (n + 1) M := by
            rw [HGO.out, show 25 - n = (25 - (n + 1)) + 1 from by omega, go_next hlt', HP.out, HL.out]
          have HG1 := hide hG1
          clear hG1
          go_wp2
          go_roundw
          case rel => exact ⟨n + 1, M, by omega, hM1, by go_num, hGM, HG1.out, hI⟩
          case measure => simp [intOf]; omega
    · have hnl : ¬ ((n : Int) < (L.length : Int)) := by omega
      have HLT := hide hlt
      clear hlt
      obtain ⟨g, cap, rfl, hg, hc1, hc2⟩ := hI.slice hpos
      clear hc2
      go_wp2
      go_ret
      have e : bfs d = L := by rw [HGO.out, go_done HLT.out]
      exact ⟨rfl, by rw [e]; exact hI.map, hI.below⟩
end Go.Proofs.Ytkknjokacinlaaa
