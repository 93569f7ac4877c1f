/- The contract of the program's search over a channel for dice, by moves and what moves; firstWords. -/
import Derived.Test.YtjikpkembcnfnaaDoorComm
import Derived.Test.YtjikpkembcnfnaaDoorMovD
import Derived.Test.YtjikpkembcnfnaaDoorWordTo
import Derived.StillTailTactics
import Derived.Deep.RegionWith
import Derived.Deep.DeepCutAuto
import Derived.Conc.SmallLaws
namespace Go.Proofs.YtjikpkembcnfnaaDoor
set_option maxRecDepth 100000
set_option linter.all false
open Go.RowKit Go.Maps Go.ChangeMaps Go.Conc

/-- The channel's block: what waits, and how many have been taken. -/
def ChanD (w : World) (c : Nat) (Q : Found) : Prop := ∃ s r, w.heap[c]? = some (.chan 24 (Q.map fun p => D.v p.1).toArray false s r false)
theorem ChanD.lt {w : World} {c : Nat} {Q : Found} (h : ChanD w c Q) : c < w.heap.size := by
  obtain ⟨s, r, h⟩ := h
  rcases Nat.lt_or_ge c w.heap.size with h' | h'
  · exact h'
  · simp [Array.getElem?_eq_none h'] at h
/-- What holds at the head of a round: the map is what has been found, the channel what of it waits. -/
structure InvD (w wr : World) (mb cb : Nat) (L Q : Found) : Prop where
  map : MapIs wr mb L
  chan : ChanD wr cb Q
  mlt : w.heap.size ≤ mb
  clt : w.heap.size ≤ cb
  ne : mb ≠ cb
  below : Below w.heap.size w wr
theorem InvD.to {w wr w0 w1 : World} {mb cb : Nat} {L Q : Found} (hb : Below w0.heap.size w0 w1) (h : InvD w wr mb cb L Q) (e : w0.heap = wr.heap) (e1 : w0.os = wr.os) (e2 : w0.tape = wr.tape) (e3 : w0.output = wr.output) : InvD w w1 mb cb L Q := by
  have hs := h.below.size
  obtain ⟨s, r, hc⟩ := h.chan
  refine ⟨?_, ⟨s, r, ?_⟩, h.mlt, h.clt, h.ne, below_to hb h.below hs e e1 e2 e3⟩
  · exact (hb.block mb (by rw [e]; exact h.map.lt)).trans (by rw [e]; exact h.map)
  · exact (hb.block cb (by rw [e]; exact ChanD.lt h.chan)).trans (by rw [e]; exact hc)
theorem mk_chanD (w : World) : (Instr.makeChan 172 (.int .i64 24)).run Tryd.prog w = .ok (.chan (some w.heap.size)) (w.alloc (.chan 24 #[] false 0 0 false)) := by
  have h : (Tryd.prog.info? 30).map (·.bytes) = some 48 := by kernel_rfl
  obtain ⟨i, hi, hb⟩ := Option.map_eq_some_iff.1 h
  simpa using run_makeChan (P := Tryd.prog) (w := w) Tryd.underlying172 hi .i64 24 (by omega) (by rw [hb]; omega)
theorem start_mapD (d : D) (hd : goodB d = true) (w : World) : ∃ W1, (Instr.mapUpdate 125 (.map (some (w.heap.size + 1))) (D.v d) (.string ⟨#[]⟩)).run Tryd.prog ((w.alloc (.cells #[.int .i64 d.t, .int .i64 d.n, .int .i64 d.e, .int .i64 d.s, .int .i64 d.w, .int .i64 d.b] 30)).alloc (.map #[] 0)) = .ok () W1 ∧
    MapIs W1 (w.heap.size + 1) [(d, [])] ∧ IsD W1 w.heap.size d 30 ∧ Below w.heap.size w W1 ∧ W1.heap.size = w.heap.size + 2 := by
  have h0 : MapIs ((w.alloc (.cells #[.int .i64 d.t, .int .i64 d.n, .int .i64 d.e, .int .i64 d.s, .int .i64 d.w, .int .i64 d.b] 30)).alloc (.map #[] 0)) (w.heap.size + 1) [] := by
    have := (MapKept.heap_alloc (w.alloc (.cells #[.int .i64 d.t, .int .i64 d.n, .int .i64 d.e, .int .i64 d.s, .int .i64 d.w, .int .i64 d.b] 30)) (.map #[] 0)).1
    simpa [MapIs, entries] using this
  have h1 := store_new hd (Good.none d) hd (x := d) rfl [] h0
  refine ⟨_, h1, setBlock_map h0, ?_, ?_, ?_⟩
  · have g := setBlock_grown (w := (w.alloc (.cells #[.int .i64 d.t, .int .i64 d.n, .int .i64 d.e, .int .i64 d.s, .int .i64 d.w, .int .i64 d.b] 30)).alloc (.map #[] 0)) (b := w.heap.size + 1) (o := .map (entries (([] : Found) ++ [(d, [])])).toArray (([] : Found) ++ [(d, [])]).length)
    have i0 := (IsD.new (w := w) (d := d) (ty := 30)).alloc (.map #[] 0)
    exact (g.block w.heap.size (by simp; omega) (by simp)).trans i0
  · have b0 : Below w.heap.size w ((w.alloc (.cells #[.int .i64 d.t, .int .i64 d.n, .int .i64 d.e, .int .i64 d.s, .int .i64 d.w, .int .i64 d.b] 30)).alloc (.map #[] 0)) := by go_grown
    exact b0.grown setBlock_grown (by simp; omega) (fun k hk => by cases hk; omega)
  · simp [ChangeMaps.setBlock]
theorem rollsL_at : ∀ (j : Nat) (h : j < 4), rollsL[j]? = some [fourDirs[j]'h]
  | 0, _ => rfl
  | 1, _ => rfl
  | 2, _ => rfl
  | 3, _ => rfl

set_option maxHeartbeats 4000000 in
theorem searchD_any (d : D) (hd : goodB d = true) (bm gm cm r f : Nat) (w : World) (hM : w.ownsRow bm 9 1 (.slice (some ⟨gm, 0, none⟩) 4 cm) 4 (strs rollsL)) (hC : CloD w r f) :
    Calls Tryd.prog 111 #[D.v d, .slice (some ⟨gm, 0, none⟩) 4 cm, .func (.func 134) #[] #[.pointer (some ⟨r, 0, none⟩), .pointer (some ⟨f, 0, none⟩)], .int .i64 24] w fun e w' =>
      ∃ mb, e = .returned (.tuple #[.map (some mb), .bool true]) ∧ w.heap.size ≤ mb ∧ MapIs w' mb (bfs d) ∧ Below w.heap.size w w' := by
  have hmm := @run_makeMap Tryd.prog
  have hmc := mk_chanD
  obtain ⟨W1, hins, m1, i1, b1, z1⟩ := start_mapD d hd w
  obtain ⟨l1, ⟨c0, c1, c2, c3, c4, c5⟩, -⟩ := i1.all
  have HD := hide hd
  have HM := hide hM
  have HC := hide hC
  clear hd hM hC
  refine calls_of_wpN Tryd.func111 rfl ?_
  simp only [Tryd.ntmps111, List.size_toArray, List.length_cons, List.length_nil, Nat.reduceAdd, Nat.reduceSub, Array.replicate_succ,
     Array.replicate_zero, List.push_toArray, List.append_toArray, List.nil_append, List.cons_append]
  refine wpN_pure fun K hK => ?_
  go_wp2
  refine wpN_pure fun K hK => ?_
  go_wp2
  clear hins hmm c0 c1 c2 c3 c4 c5
  refine wpN_pure fun K hK => ?_
  go_wp2
  clear hmc
  have i2 := i1.alloc (.chan 24 #[] false 0 0 false)
  obtain ⟨-, ⟨c0, c1, c2, c3, c4, c5⟩, -⟩ := i2.all
  refine wpN_seq_k fun K hK => ?_
  refine wpN_region ?_
  change opsN _ _ _ [0, 1, 2] _ _
  refine opsN_value rfl rfl rfl ?_
  refine opsN_value rfl rfl (v := D.v d) (w' := W1.alloc (.chan 24 #[] false 0 0 false)) (by go_simp) ?_
  refine opsN_send (c := w.heap.size + 2) (cap := 24) (s := 0) (r := 0) (tm := false) (buf := #[]) (v := D.v d) (z := .tuple #[]) (w₁ := W1.alloc (.chan 24 #[] false 0 0 false)) rfl rfl (by simp [go_sem, execOp, scase, Act.eval]) (by rw [← z1]; exact heap_alloc_new _ _) (by simp) ?_
  refine opsN_of ?_
  refine hK _ _ ?_
  clear hK K c0 c1 c2 c3 c4 c5
  have hI : InvD w ((W1.alloc (.chan 24 #[] false 0 0 false)).setChan (w.heap.size + 2) 24 ((#[] : Array Value).push (D.v d)) false (0 + 1) 0 false) (w.heap.size + 1) (w.heap.size + 2) [(d, [])] [(d, [])] := by
    have hs := b1.size
    refine ⟨?_, ⟨1, 0, ?_⟩, by omega, by omega, by omega, below_setChan (b1.alloc hs _) (by omega) _ _ _ _ _ _⟩
    · unfold MapIs
      rw [World.setChan, Array.getElem?_setIfInBounds_ne (by omega)]
      exact (Below.heap_alloc W1 _ _ m1.lt).trans m1
    · exact heap_setChan _ _ _ _ _ _ _ _ (by simp; omega)
  generalize (W1.alloc (.chan 24 #[] false 0 0 false)).setChan (w.heap.size + 2) 24 ((#[] : Array Value).push (D.v d)) false (0 + 1) 0 false = W3 at hI ⊢
  clear i2 i1 l1 m1 b1 z1
  refine wpN_block ?_
  refine wpN_loop (n := 25) (fun m a' w' => ∃ (n : Nat) (L : Found), (m + n = 25 ∧ n ≤ L.length ∧ 0 < L.length ∧ Good d L ∧ bfs d = go m n L ∧ InvD w w' (w.heap.size + 1) (w.heap.size + 2) L (L.drop n)) ∧
    ∃ s12 s13 s14 s15 s16 s17 s18 s19 s20 s21 s22 s23 s24 s25 s26 s27 s28 s29 s30 s31 s32 s33 s34 s35 s36 s37 s38 s39 s40 s41 s42 s43 s44 s45 s46 s47 s48 s49 s50 s51 s52 s53 s54 s55 s56 s57 s58 s59 s60 s61 s62 s63 s64 s65 s66 s67 s68 s69 : Value, a' = ⟨#[D.v d, .slice (some ⟨gm, 0, none⟩) 4 cm, .func (.func 134) #[] #[.pointer (some ⟨r, 0, none⟩), .pointer (some ⟨f, 0, none⟩)], .int .i64 24, .pointer (some ⟨w.heap.size, 0, none⟩), undef, undef, undef, .map none, .bool false, .map (some (w.heap.size + 1)), .chan (some (w.heap.size + 2)), s12, s13, s14, s15, s16, s17, s18, s19, s20, s21, s22, s23, s24, s25, s26, s27, s28, s29, s30, s31, s32, s33, s34, s35, s36, s37, s38, s39, s40, s41, s42, s43, s44, s45, s46, s47, s48, s49, s50, s51, s52, s53, s54, s55, s56, s57, s58, s59, s60, s61, s62, s63, s64, s65, s66, s67, s68, s69], []⟩) ?_ ?start
  case start =>
    refine ⟨0, [(d, [])], ⟨rfl, by simp, by simp, Good.start d, rfl, hI⟩, ?_⟩
    (repeat apply Exists.intro)
    rfl
  clear hI W3 W1
  rintro m a' wr ⟨n, L, ⟨hmn, hnL, hpos, hG, hgo, hI⟩, hx⟩ K hK
  obtain ⟨s12, s13, s14, s15, s16, s17, s18, s19, s20, s21, s22, s23, s24, s25, s26, s27, s28, s29, s30, s31, s32, s33, s34, s35, s36, s37, s38, s39, s40, s41, s42, s43, s44, s45, s46, s47, s48, s49, s50, s51, s52, s53, s54, s55, s56, s57, s58, s59, s60, s61, s62, s63, s64, s65, s66, s67, s68, s69, rfl⟩ := hx
  have h24 := hG.le
  have HGO := hide hgo
  clear hgo
  refine wpN_block ?_
  refine wpN_pure fun K1 hK1 => ?_
  go_wp2
  refine wpN_seq_k fun K1 hK1 => ?_
  obtain ⟨cs, cr, hch⟩ := hI.chan
  by_cases hlt : n < L.length
  · have hp : L[n]? = some (L[n]'hlt) := List.getElem?_eq_getElem hlt
    have hdr : L.drop n = L[n]'hlt :: L.drop (n + 1) := List.drop_eq_getElem_cons hlt
    have hnx : go m n L = go (m - 1) (n + 1) (stepN (L[n]'hlt) 4 L) := by
      obtain ⟨m', rfl⟩ : ∃ m', m = m' + 1 := ⟨m - 1, by omega⟩
      exact go_next hlt
    have hpm : L[n]'hlt ∈ L := List.getElem_mem hlt
    generalize L[n]'hlt = p at hp hdr hnx hpm
    have HNX := hide hnx
    clear hnx
    refine wpN_region ?_
    change opsN _ _ _ [0, 1, 2] _ _
    refine opsN_recv (c := w.heap.size + 2) (z := .agg #[.int .i64 0, .int .i64 0, .int .i64 0, .int .i64 0, .int .i64 0, .int .i64 0]) (w₁ := wr) rfl rfl (by simp [go_sem, execOp, rcase, Act.eval]) hch (by simp [hdr]) ?_
    have hget : ((List.map (fun p => D.v p.fst) (L.drop n)).toArray).getD 0 undef = D.v p.1 := by rw [hdr]; rfl
    rw [hget]
    have hI2 : InvD w (wr.setChan (w.heap.size + 2) 24 ((List.map (fun p => D.v p.fst) (L.drop n)).toArray.extract 1 (List.map (fun p => D.v p.fst) (L.drop n)).toArray.size) false cs (cr + 1) false) (w.heap.size + 1) (w.heap.size + 2) L (L.drop (n + 1)) := by
      refine ⟨?_, ⟨cs, cr + 1, ?_⟩, hI.mlt, hI.clt, hI.ne, below_setChan hI.below (by omega) _ _ _ _ _ _⟩
      · unfold MapIs
        rw [World.setChan, Array.getElem?_setIfInBounds_ne (by omega)]
        exact hI.map
      · rw [heap_setChan _ _ _ _ _ _ _ _ (ChanD.lt hI.chan), hdr]
        simp
        rw [List.take_of_length_le (by simp)]
    generalize wr.setChan (w.heap.size + 2) 24 ((List.map (fun p => D.v p.fst) (L.drop n)).toArray.extract 1 (List.map (fun p => D.v p.fst) (L.drop n)).toArray.size) false cs (cr + 1) false = w2 at hI2 ⊢
    clear hget hdr hch hI
    change opsN _ _ _ [1, 2] ⟨#[D.v d, .slice (some ⟨gm, 0, none⟩) 4 cm, .func (.func 134) #[] #[.pointer (some ⟨r, 0, none⟩), .pointer (some ⟨f, 0, none⟩)], .int .i64 24, .pointer (some ⟨w.heap.size, 0, none⟩), undef, undef, undef, .map none, .bool false, .map (some (w.heap.size + 1)), .chan (some (w.heap.size + 2)), s12, s13, s14, s15, s16, s17, s18, s19, s20, s21, s22, s23, s24, s25, .chan (some (w.heap.size + 2)), .tuple #[goInt 0, .bool true, D.v p.1], s28, s29, s30, s31, s32, s33, s34, s35, s36, s37, s38, s39, s40, s41, s42, s43, s44, s45, s46, s47, s48, s49, s50, s51, s52, s53, s54, s55, s56, s57, s58, s59, s60, s61, s62, s63, s64, s65, s66, s67, s68, s69], []⟩ _
    refine opsN_value rfl rfl (v := .int .i64 0) (w' := w2) (by simp [go_sem, execOp, Act.eval, goInt]) ?_
    refine opsN_value rfl rfl (v := .bool true) (w' := w2) (by simp [go_sem, execOp, Act.eval, Act.put]) ?_
    refine opsN_of ?_
    refine hK1 _ _ ?_
    clear hK1 K1
    change wpN _ _ _ ⟨#[D.v d, .slice (some ⟨gm, 0, none⟩) 4 cm, .func (.func 134) #[] #[.pointer (some ⟨r, 0, none⟩), .pointer (some ⟨f, 0, none⟩)], .int .i64 24, .pointer (some ⟨w.heap.size, 0, none⟩), undef, undef, undef, .map none, .bool false, .map (some (w.heap.size + 1)), .chan (some (w.heap.size + 2)), s12, s13, s14, s15, s16, s17, s18, s19, s20, s21, s22, s23, s24, s25, .chan (some (w.heap.size + 2)), .tuple #[goInt 0, .bool true, D.v p.1], .int .i64 0, .bool true, s30, s31, s32, s33, s34, s35, s36, s37, s38, s39, s40, s41, s42, s43, s44, s45, s46, s47, s48, s49, s50, s51, s52, s53, s54, s55, s56, s57, s58, s59, s60, s61, s62, s63, s64, s65, s66, s67, s68, s69], []⟩ _
    refine wpN_block ?_
    refine wpN_cond (t := true) rfl ?_
    rw [if_pos rfl]
    refine wpN_pure fun K2 hK2 => ?_
    go_wp2
    have hF : IsD (w2.alloc (.cells #[.int .i64 p.1.t, .int .i64 p.1.n, .int .i64 p.1.e, .int .i64 p.1.s, .int .i64 p.1.w, .int .i64 p.1.b] 30)) w2.heap.size p.1 30 := IsD.new
    have hI3 : InvD w (w2.alloc (.cells #[.int .i64 p.1.t, .int .i64 p.1.n, .int .i64 p.1.e, .int .i64 p.1.s, .int .i64 p.1.w, .int .i64 p.1.b] 30)) (w.heap.size + 1) (w.heap.size + 2) L (L.drop (n + 1)) := hI2.to (w0 := w2) ((Below.refl _ _).alloc (Nat.le_refl _) _) rfl rfl rfl rfl
    have hF1 : w.heap.size + 2 < w2.heap.size := ChanD.lt hI2.chan
    generalize w2.alloc (.cells #[.int .i64 p.1.t, .int .i64 p.1.n, .int .i64 p.1.e, .int .i64 p.1.s, .int .i64 p.1.w, .int .i64 p.1.b] 30) = w3 at hF hI3 ⊢
    generalize w2.heap.size = F at hF hF1 ⊢
    clear hI2 w2 hp cs cr wr
    refine wpN_pure fun K2 hK2 => ?_
    go_wp2
    refine wpN_block ?_
    refine wpN_loop (n := 4) (fun k a' w' => ∃ (j : Nat), (k + j = 4 ∧ InvD w w' (w.heap.size + 1) (w.heap.size + 2) (stepN p j L) ((stepN p j L).drop (n + 1)) ∧ IsD w' F p.1 30) ∧
      ∃ s13 s14 s15 s16 s17 s18 s19 s20 s21 s22 s23 s24 s25 s26 s27 s28 s29 s30 s31 s35 s36 s37 s38 s39 s40 s41 s42 s43 s44 s45 s46 s47 s48 s49 s50 s51 s52 s53 s54 s55 s56 s57 s58 s59 s60 s61 s62 s63 s64 s65 s66 s67 s68 s69 s34 : Value, s34 = .int .i64 (j : Int) ∧ a' = ⟨#[D.v d, .slice (some ⟨gm, 0, none⟩) 4 cm, .func (.func 134) #[] #[.pointer (some ⟨r, 0, none⟩), .pointer (some ⟨f, 0, none⟩)], .int .i64 24, .pointer (some ⟨w.heap.size, 0, none⟩), undef, undef, undef, .map none, .bool false, .map (some (w.heap.size + 1)), .chan (some (w.heap.size + 2)), .pointer (some ⟨F, 0, none⟩), s13, s14, s15, s16, s17, s18, s19, s20, s21, s22, s23, s24, s25, s26, s27, s28, s29, s30, s31, .slice (some ⟨gm, 0, none⟩) 4 cm, .int .i64 4, s34, s35, s36, s37, s38, s39, s40, s41, s42, s43, s44, s45, s46, s47, s48, s49, s50, s51, s52, s53, s54, s55, s56, s57, s58, s59, s60, s61, s62, s63, s64, s65, s66, s67, s68, s69], []⟩) ?_ ?start2
    case start2 =>
      refine ⟨0, ⟨rfl, hI3, hF⟩, ?_⟩
      (repeat apply Exists.intro)
      refine ⟨?_, rfl⟩
      rfl
    clear hI3 hF w3
    rintro k a' w4 ⟨j, ⟨hkj, hJ, hF4⟩, hx⟩ Kj hKj
    obtain ⟨s13, s14, s15, s16, s17, s18, s19, s20, s21, s22, s23, s24, s25, s26, s27, s28, s29, s30, s31, s35, s36, s37, s38, s39, s40, s41, s42, s43, s44, s45, s46, s47, s48, s49, s50, s51, s52, s53, s54, s55, s56, s57, s58, s59, s60, s61, s62, s63, s64, s65, s66, s67, s68, s69, s34, rfl, rfl⟩ := hx
    generalize hM : stepN p j L = M at hJ
    have hGM : Good d M := by rw [← hM]; exact stepN_good hG hpm j
    have hpM : p ∈ M := by rw [← hM]; exact stepN_mem hpm
    have hML : L.length ≤ M.length := by rw [← hM]; exact stepN_len p j L
    have hM24 := hGM.le
    have HST := hide (show ∀ hj : j < 4, stepN p (j + 1) L = stepF p M (fourDirs[j]'hj) from fun hj => by rw [stepN_succ p j hj L, hM])
    have HMM := hide hM
    clear hM
    by_cases hlt4 : j < 4
    · refine wpN_pure fun K1 hK1 => ?_
      go_wp2
      have cj := strs_cell (own_to (w0 := w) hJ.below HM.out rfl) j _ (rollsL_at j hlt4)
      refine wpN_pure fun K1 hK1 => ?_
      go_wp2
      refine wpN_seq_k fun K4 hK4 => ?_
      refine wpN_block ?_
      refine wpN_pure fun K1 hK1 => ?_
      go_wp2
      clear cj
      have HSTJ := hide (HST.out hlt4)
      generalize fourDirs[j]'hlt4 = c at HSTJ ⊢
      have HMV := hide (movedD_any p.1 c r f)
      have HRG := hide (orbit_good HD.out (orbit_closed (hGM.orb p hpM) c.toNat))
      have HNW := hide (hGM.step (hGM.orb p hpM) (hGM.short p hpM) c)
      have HSTE := hide (show stepF p M c = if known M (rollC c.toNat p.1) = true then M else M ++ [(rollC c.toNat p.1, p.2 ++ [c])] from rfl)
      generalize rollC c.toNat p.1 = r2 at HMV HRG HSTE
      rw [HRG.out] at HMV
      obtain ⟨lF, ⟨c0, c1, c2, c3, c4, c5⟩, -⟩ := hF4.all
      have HC4 := hide (cloD_to (w0 := w) hJ.below HC.out rfl)
      refine wpN_pure fun K1 hK1 => ?_
      go_wp2_with fail
      refine (HMV.out _ HC4.out).mono ?_
      rintro e w5 ⟨rfl, hb5⟩
      have hJ5 := hJ.to (w0 := w4) hb5 rfl rfl rfl rfl
      have hF5 := isD_to hb5 hF4 rfl
      clear hb5 hJ hF4 c0 c1 c2 c3 c4 c5 lF HC4
      go_wp2
      have hT : IsD (w5.alloc (.cells #[.int .i64 r2.t, .int .i64 r2.n, .int .i64 r2.e, .int .i64 r2.s, .int .i64 r2.w, .int .i64 r2.b] 30)) w5.heap.size r2 30 := IsD.new
      have hJ6 := hJ5.to (w0 := w5) ((Below.refl _ w5).alloc (Nat.le_refl _) (.cells #[.int .i64 r2.t, .int .i64 r2.n, .int .i64 r2.e, .int .i64 r2.s, .int .i64 r2.w, .int .i64 r2.b] 30)) rfl rfl rfl rfl
      have hF6 := hF5.alloc (.cells #[.int .i64 r2.t, .int .i64 r2.n, .int .i64 r2.e, .int .i64 r2.s, .int .i64 r2.w, .int .i64 r2.b] 30)
      have hbt : w.heap.size + 2 < w5.heap.size := ChanD.lt hJ5.chan
      generalize w5.alloc (.cells #[.int .i64 r2.t, .int .i64 r2.n, .int .i64 r2.e, .int .i64 r2.s, .int .i64 r2.w, .int .i64 r2.b] 30) = wc at hT hJ6 hF6 ⊢
      generalize w5.heap.size = bt at hT hbt ⊢
      clear hJ5 hF5 w5
      obtain ⟨lT, ⟨t0, t1, t2, t3, t4, t5⟩, -⟩ := hT.all
      obtain ⟨s0, hlk⟩ := look_found HD.out hGM HRG.out hJ6.map
      refine wpN_pure fun K2 hK2 => ?_
      cases hk : known M r2
      · rw [hk] at hlk
        have HK := hide hk
        have hnew := HNW.out
        rw [HSTE.out, hk, if_neg (by decide)] at hnew
        have hlen := hnew.le
        rw [List.length_append, List.length_singleton] at hlen
        clear hk hnew
        have HE := hide (show stepN p (j + 1) L = M ++ [(r2, p.2 ++ [c])] by rw [HSTJ.out, HSTE.out, HK.out]; rfl)
        go_wp2
        clear hlk t0 t1 t2 t3 t4 t5 lT
        have hsz : (entries M).toArray.size = M.length := by simp [entries]
        have hm5 := hJ6.map
        unfold MapIs at hm5
        generalize hes : (entries M).toArray = es at hm5 hsz
        have hmk : Tryd.prog.underlying 125 = some (.map (Tryd.prog.mapKeyOf 125) (Tryd.prog.mapElemOf 125)) := by kernel_rfl
        have hln := fun ty => run_len_map (P := Tryd.prog) (w := wc) 125 ty _ es M.length hmk hm5
        have hne : ¬ ((es.size : Nat) : Int) = 24 := by omega
        refine wpN_pure fun K5 hK5 => ?_
        go_wp2
        clear hln hm5 hmk hne hsz hes es
        have hsh := hGM.short p hpM
        have hw1 := look_word HD.out hGM hpM (w := wc.drew) (b := w.heap.size + 1) hJ6.map
        have ha : ¬ 9223372036854775807 < p.2.length + 1 := by omega
        obtain ⟨lT, ⟨t0, t1, t2, t3, t4, t5⟩, -⟩ := hT.all
        obtain ⟨lF, ⟨c0, c1, c2, c3, c4, c5⟩, -⟩ := hF6.all
        refine wpN_pure fun K6 hK6 => ?_
        go_still_tail 7, (by kernel_rfl)
        clear hw1 ha
        change wpList _ _ _ _ _ wc.drew
        have es : (⟨p.2.toArray⟩ : ByteArray) ++ ⟨[c].toArray⟩ = ⟨(p.2 ++ [c]).toArray⟩ := by
          apply ByteArray.ext
          simp
        have hz5 := ChanD.lt hJ6.chan
        obtain ⟨W6, hst2, hm6, hc6, hb6, hF6', hT6⟩ : ∃ W6, (Instr.mapUpdate 125 (.map (some (w.heap.size + 1))) (D.v r2) (.string ((⟨p.2.toArray⟩ : ByteArray) ++ ⟨[c].toArray⟩))).run Tryd.prog wc.drew = .ok () W6 ∧ MapIs W6 (w.heap.size + 1) (M ++ [(r2, p.2 ++ [c])]) ∧ ChanD W6 (w.heap.size + 2) (M.drop (n + 1)) ∧ Below w.heap.size w W6 ∧ IsD W6 F p.1 30 ∧ IsD W6 bt r2 30 := by
          obtain ⟨cs, cr, hch⟩ := hJ6.chan
          have g := setBlock_grown (w := wc.drew) (b := w.heap.size + 1) (o := .map (entries (M ++ [(r2, p.2 ++ [c])])).toArray (M ++ [(r2, p.2 ++ [c])]).length)
          refine ⟨_, by rw [es]; exact store_new HD.out hGM HRG.out HK.out (p.2 ++ [c]) (w := wc.drew) hJ6.map, setBlock_map (w := wc.drew) (L := M) hJ6.map, ⟨cs, cr, ?_⟩, ?_, ?_, ?_⟩
          · exact (g.block (w.heap.size + 2) hz5 (by simp)).trans hch
          · exact (show Below w.heap.size w wc.drew from hJ6.below.drew).grown g hJ6.below.size (fun k hk => by cases hk; omega)
          · exact (g.block F hF6.lt (by simp; omega)).trans hF6
          · exact (g.block bt hT.lt (by simp; omega)).trans hT
        clear es hF6 hT t0 t1 t2 t3 t4 t5 c0 c1 c2 c3 c4 c5 lT lF
        go_wp2
        clear hst2 hJ6
        obtain ⟨cs, cr, hch⟩ := hc6
        have hlt6 := ChanD.lt ⟨cs, cr, hch⟩
        obtain ⟨lT, ⟨t0, t1, t2, t3, t4, t5⟩, -⟩ := hT6.all
        refine wpN_region ?_
        change opsN _ _ _ [0, 1, 2] _ _
        refine opsN_value rfl rfl rfl ?_
        refine opsN_value rfl rfl (v := D.v r2) (w' := W6) (by go_simp) ?_
        refine opsN_send (c := w.heap.size + 2) (cap := 24) (s := cs) (r := cr) (tm := false) (buf := (List.map (fun p => D.v p.1) (M.drop (n + 1))).toArray) (v := D.v r2) (z := .tuple #[]) (w₁ := W6) rfl rfl (by simp [go_sem, execOp, scase, Act.eval]) hch (by simp; omega) ?_
        refine opsN_of ?_
        refine hK4 _ _ ?_
        clear t0 t1 t2 t3 t4 t5 lT
        have hJ7 : InvD w (W6.setChan (w.heap.size + 2) 24 ((List.map (fun p => D.v p.1) (M.drop (n + 1))).toArray.push (D.v r2)) false (cs + 1) cr false) (w.heap.size + 1) (w.heap.size + 2) (M ++ [(r2, p.2 ++ [c])]) ((M ++ [(r2, p.2 ++ [c])]).drop (n + 1)) := by
          refine ⟨?_, ⟨cs + 1, cr, ?_⟩, by omega, by omega, by omega, below_setChan hb6 (by omega) _ _ _ _ _ _⟩
          · unfold MapIs
            rw [World.setChan, Array.getElem?_setIfInBounds_ne (by omega)]
            exact hm6
          · rw [heap_setChan _ _ _ _ _ _ _ _ hlt6, List.drop_append_of_le_length (by omega)]
            simp
        have hF7 : IsD (W6.setChan (w.heap.size + 2) 24 ((List.map (fun p => D.v p.1) (M.drop (n + 1))).toArray.push (D.v r2)) false (cs + 1) cr false) F p.1 30 := by
          unfold IsD
          rw [World.setChan, Array.getElem?_setIfInBounds_ne (by omega)]
          exact hF6'
        generalize W6.setChan (w.heap.size + 2) 24 ((List.map (fun p => D.v p.1) (M.drop (n + 1))).toArray.push (D.v r2)) false (cs + 1) cr false = w7 at hJ7 hF7 ⊢
        clear hch hm6 hb6 hF6' hT6 hlt6
        change wpN _ _ _ ⟨#[_, _, _, _, _, _, _, _, _, _, _, _, _, _, _, _, _, _, _, _, _, _, _, _, _, _, _, _, _, _, _, _, _, _, _, _, _, _, _, _, _, _, _, _, _, _, _, _, _, _, _, _, _, _, _, _, _, _, _, _, _, _, _, _, _, _, _, _, _, _], []⟩ _
        refine wpN_of ?_
        go_wp2
        refine hKj (k - 1) _ _ (by omega) ⟨j + 1, ⟨by omega, by rw [HE.out]; exact hJ7, hF7⟩, ?_⟩
        (repeat apply Exists.intro)
        refine ⟨?_, rfl⟩
        go_num
      · rw [hk] at hlk
        have HK := hide hk
        clear hk
        have HE := hide (show stepN p (j + 1) L = M by rw [HSTJ.out, HSTE.out, HK.out]; rfl)
        go_wp2
        refine wpN_of ?_
        go_wp2
        refine hKj (k - 1) _ _ (by omega) ⟨j + 1, ⟨by omega, by rw [HE.out]; exact hJ6, hF6⟩, ?_⟩
        (repeat apply Exists.intro)
        refine ⟨?_, rfl⟩
        go_num
    · have hj4 : j = 4 := by omega
      subst hj4
      refine wpN_pure fun K1 hK1 => ?_
      go_wp2
      refine wpN_pure fun K1 hK1 => ?_
      go_wp2
      refine hK (m - 1) _ _ (by omega) ⟨n + 1, M, ⟨by omega, by omega, by omega, hGM, by rw [HGO.out, HNX.out, HMM.out], hJ⟩, ?_⟩
      (repeat apply Exists.intro)
      rfl
  · have hnL' : L.drop n = [] := List.drop_eq_nil_of_le (by omega)
    rw [hnL'] at hch
    have he : bfs d = L := by rw [HGO.out, go_done hlt]
    refine wpN_region ?_
    change opsN _ _ _ [0, 1, 2] _ _
    refine opsN_none (c := w.heap.size + 2) (z := .agg #[.int .i64 0, .int .i64 0, .int .i64 0, .int .i64 0, .int .i64 0, .int .i64 0]) (w₁ := wr) rfl rfl (by simp [go_sem, execOp, rcase, Act.eval]) hch ?_
    change opsN _ _ _ [1, 2] ⟨#[D.v d, .slice (some ⟨gm, 0, none⟩) 4 cm, .func (.func 134) #[] #[.pointer (some ⟨r, 0, none⟩), .pointer (some ⟨f, 0, none⟩)], .int .i64 24, .pointer (some ⟨w.heap.size, 0, none⟩), undef, undef, undef, .map none, .bool false, .map (some (w.heap.size + 1)), .chan (some (w.heap.size + 2)), s12, s13, s14, s15, s16, s17, s18, s19, s20, s21, s22, s23, s24, s25, .chan (some (w.heap.size + 2)), .tuple #[goInt (-1), .bool false, .agg #[.int .i64 0, .int .i64 0, .int .i64 0, .int .i64 0, .int .i64 0, .int .i64 0]], s28, s29, s30, s31, s32, s33, s34, s35, s36, s37, s38, s39, s40, s41, s42, s43, s44, s45, s46, s47, s48, s49, s50, s51, s52, s53, s54, s55, s56, s57, s58, s59, s60, s61, s62, s63, s64, s65, s66, s67, s68, s69], []⟩ _
    refine opsN_value rfl rfl (v := .int .i64 (-1)) (w' := wr) (by simp [go_sem, execOp, Act.eval, goInt]) ?_
    refine opsN_value rfl rfl (v := .bool false) (w' := wr) (by simp [go_sem, execOp, Act.eval, Act.put]) ?_
    refine opsN_of ?_
    refine hK1 _ _ ?_
    clear hK1 K1
    change wpN _ _ _ ⟨#[D.v d, .slice (some ⟨gm, 0, none⟩) 4 cm, .func (.func 134) #[] #[.pointer (some ⟨r, 0, none⟩), .pointer (some ⟨f, 0, none⟩)], .int .i64 24, .pointer (some ⟨w.heap.size, 0, none⟩), undef, undef, undef, .map none, .bool false, .map (some (w.heap.size + 1)), .chan (some (w.heap.size + 2)), s12, s13, s14, s15, s16, s17, s18, s19, s20, s21, s22, s23, s24, s25, .chan (some (w.heap.size + 2)), .tuple #[goInt (-1), .bool false, .agg #[.int .i64 0, .int .i64 0, .int .i64 0, .int .i64 0, .int .i64 0, .int .i64 0]], .int .i64 (-1), .bool false, s30, s31, s32, s33, s34, s35, s36, s37, s38, s39, s40, s41, s42, s43, s44, s45, s46, s47, s48, s49, s50, s51, s52, s53, s54, s55, s56, s57, s58, s59, s60, s61, s62, s63, s64, s65, s66, s67, s68, s69], []⟩ _
    refine wpN_block ?_
    refine wpN_cond (t := false) rfl ?_
    rw [if_neg (by simp)]
    refine wpN_of ?_
    go_wp2
    go_returns
    exact ⟨_, rfl, by omega, by rw [he]; exact hI.map, hI.below⟩

set_option maxHeartbeats 4000000 in
theorem firstWords_any (d : D) (w : World) (hd : goodB d = true) :
    Calls Tryd.prog 93 #[D.v d] w fun e w' => ∃ mb, e = .returned (.map (some mb)) ∧ w.heap.size ≤ mb ∧ MapIs w' mb (bfs d) ∧ Below w.heap.size w w' := by
  have HD := hide hd
  have I0 : IsD (w.alloc (.cells #[.int .i64 d.t, .int .i64 d.n, .int .i64 d.e, .int .i64 d.s, .int .i64 d.w, .int .i64 d.b] 30)) w.heap.size d 30 := IsD.new
  have q0 : Below w.heap.size w (w.alloc (.cells #[.int .i64 d.t, .int .i64 d.n, .int .i64 d.e, .int .i64 d.s, .int .i64 d.w, .int .i64 d.b] 30)) := by go_grown
  generalize hW : w.alloc (.cells #[.int .i64 d.t, .int .i64 d.n, .int .i64 d.e, .int .i64 d.s, .int .i64 d.w, .int .i64 d.b] 30) = W0 at I0 q0
  have HW := hide hW
  clear hW hd
  obtain ⟨l0, ⟨a0, a1, a2, a3, a4, a5⟩, -⟩ := I0.all
  go_enter Tryd.func93, Tryd.ntmps93
  go_upto_region 1 with (fail)
  rw [HW.out]
  go_region_held3 (fun w' => w'.cell? ⟨w.heap.size, 0, none⟩ = some (.int .i64 d.t) ∧ w'.cell? ⟨w.heap.size, 1, none⟩ = some (.int .i64 d.n) ∧ w'.cell? ⟨w.heap.size, 2, none⟩ = some (.int .i64 d.e) ∧ w'.cell? ⟨w.heap.size, 3, none⟩ = some (.int .i64 d.s) ∧ w'.cell? ⟨w.heap.size, 4, none⟩ = some (.int .i64 d.w) ∧ w'.cell? ⟨w.heap.size, 5, none⟩ = some (.int .i64 d.b)) (go_keep)
    (first
      | (go_at_call 112; refine (allRolls_any _).mono ?_; rintro e wA ⟨vm, rfl, OA, hbA⟩; obtain ⟨gm, cm, rfl, -, -⟩ := own_form OA (by omega); have CA := cloD_to hbA CR rfl; have IA := isD_to hbA IR rfl; have qA := below_to hbA qR qR.size rfl rfl rfl rfl; obtain ⟨lA, ⟨b0, b1, b2, b3, b4, b5⟩, -⟩ := IA.all; clear hbA)
      | (go_at_call 112; refine (allRolls_any _).mono ?_; rintro e wA ⟨vm, rfl, OA, hbA⟩; obtain ⟨gm, cm, rfl, -, -⟩ := own_form OA (by omega); have IA := isD_to hbA I0 rfl; have qA := below_to hbA q0 q0.size rfl rfl rfl rfl; obtain ⟨lA, ⟨b0, b1, b2, b3, b4, b5⟩, -⟩ := IA.all; clear hbA)
      | (go_at_call 113; refine (rollByD_any _).mono ?_; rintro e wR ⟨rfl, CA, hbR⟩; have OR := own_to hbR OA rfl; have IR := isD_to hbR IA rfl; have qR := below_to hbR qA qA.size rfl rfl rfl rfl; obtain ⟨lR, ⟨d0, d1, d2, d3, d4, d5⟩, -⟩ := IR.all; clear hbR)
      | (go_at_call 113; refine (rollByD_any _).mono ?_; rintro e wR ⟨rfl, CR, hbR⟩; have IR := isD_to hbR I0 rfl; have qR := below_to hbR q0 q0.size rfl rfl rfl rfl; obtain ⟨lR, ⟨d0, d1, d2, d3, d4, d5⟩, -⟩ := IR.all; clear hbR)
      | (go_at_call 111; refine (searchD_any d HD.out _ gm cm _ _ _ OR CA).mono ?_; rintro e w3 ⟨mb, rfl, hmb, hm, hb3⟩; have I3 := isD_to hb3 IR rfl; obtain ⟨l3, ⟨g0, g1, g2, g3, g4, g5⟩, -⟩ := I3.all; have q3 := below_to hb3 qR qR.size rfl rfl rfl rfl; have hmw : w.heap.size ≤ mb := Nat.le_trans qR.size hmb; have hm3 := hide hm; clear hm hb3)
      | (go_at_call 111; refine (searchD_any d HD.out _ gm cm _ _ _ OA CA).mono ?_; rintro e w3 ⟨mb, rfl, hmb, hm, hb3⟩; have I3 := isD_to hb3 IA rfl; obtain ⟨l3, ⟨g0, g1, g2, g3, g4, g5⟩, -⟩ := I3.all; have q3 := below_to hb3 qA qA.size rfl rfl rfl rfl; have hmw : w.heap.size ≤ mb := Nat.le_trans qA.size hmb; have hm3 := hide hm; clear hm hb3))
  all_goals
    go_wp2
    go_returns
    exact ⟨_, rfl, hmw, hm3.out, q3⟩
end Go.Proofs.YtjikpkembcnfnaaDoor
