/- All dice that rolls make, sorted: slices.SortedFunc(maps.Keys(..)); the program's WaysToLie. -/
import Derived.Test.YtjikpkembcnfnaaDoorCollA
import Derived.Test.YtjikpkembcnfnaaDoorSortD
import Derived.Test.YtjikpkembcnfnaaDoorWalksCW
import Derived.Test.YtjikpkembcnfnaaDoorRowsOf
namespace Go.Proofs.YtjikpkembcnfnaaDoor
set_option maxRecDepth 100000
set_option linter.all false
open Go.RowKit Go.Maps

/-! ### one sorted list alone -/
theorem lessL_cmp : ∀ {l m : List Int}, l.length = m.length → lessL l m = decide (cmpL l m < 0)
  | [], [], _ => rfl
  | [], _ :: _, h => by simp at h
  | _ :: _, [], h => by simp at h
  | a :: l, b :: m, h => by
    have ih := lessL_cmp (l := l) (m := m) (by simpa using h)
    show (if a = b then lessL l m else decide (a < b)) = decide ((if cmpI a b = 0 then cmpL l m else cmpI a b) < 0)
    by_cases e : a = b
    · rw [if_pos e, if_pos (cmpI_zero.2 e), ih]
    · rw [if_neg e, if_neg (fun h => e (cmpI_zero.1 h))]
      by_cases h2 : a < b
      · rw [decide_eq_true h2, decide_eq_true (cmpI_neg.2 h2)]
      · rw [decide_eq_false h2, decide_eq_false (fun h => h2 (cmpI_neg.1 h))]
theorem lessD_cmp (d e : D) : lessD d e = true ↔ cmpL (keyD d) (keyD e) < 0 := by
  have : lessD d e = decide (cmpL (keyD d) (keyD e) < 0) := lessL_cmp rfl
  rw [this, decide_eq_true_iff]
theorem keyD_inj {d e : D} (h : keyD d = keyD e) : d = e := by
  unfold keyD at h
  simp only [List.cons.injEq, and_true] at h
  obtain ⟨h0, h1, h2, h3, h4, h5⟩ := h
  exact D.ext' h0 h1 h2 h3 h4 h5
/-- Not behind. -/
def leD (a b : D) : Prop := ¬ cmpL (keyD b) (keyD a) < 0
theorem leD_anti {a b : D} (h1 : leD a b) (h2 : leD b a) : a = b := by
  rcases cmpL_total (l := keyD a) (m := keyD b) rfl with h | h | h
  · exact absurd h h2
  · exact keyD_inj h
  · exact absurd h h1
theorem leD_trans {a b c : D} (h1 : leD a b) (h2 : leD b c) : leD a c := by
  intro h
  rcases cmpL_total (l := keyD a) (m := keyD b) rfl with h3 | h3 | h3
  · exact h2 (cmpL_trans (l := keyD c) (m := keyD a) (n := keyD b) rfl rfl h h3)
  · rw [h3] at h
    exact h2 h
  · exact h1 h3
theorem leD_less {a b : D} (h : lessD a b = true) : leD a b := by
  intro h2
  have h3 := (lessD_cmp a b).1 h
  have := cmpL_trans (l := keyD a) (m := keyD b) (n := keyD a) rfl rfl h3 h2
  rw [cmpL_refl] at this
  omega
theorem leD_notless {a b : D} (h : lessD b a = false) : leD a b := by
  intro h2
  rw [(lessD_cmp b a).2 h2] at h
  cases h
theorem sorted_one : ∀ {l m : List D}, l.Perm m → l.Pairwise leD → m.Pairwise leD → l = m
  | [], m, hp, _, _ => (List.nil_perm.1 hp).symm ▸ rfl
  | a :: l, m, hp, h1, h2 => by
    match m, hp, h2 with
    | [], hp, _ => exact absurd hp.symm (by simp)
    | b :: m, hp, h2 =>
      rw [List.pairwise_cons] at h1 h2
      have hab : a = b := by
        have ha : a ∈ b :: m := hp.mem_iff.1 (by simp)
        have hb : b ∈ a :: l := hp.mem_iff.2 (by simp)
        rcases List.mem_cons.1 ha with e | ha
        · exact e
        rcases List.mem_cons.1 hb with e | hb
        · exact e.symm
        exact leD_anti (h1.1 b hb) (h2.1 a ha)
      subst hab
      rw [sorted_one (List.perm_cons a |>.1 hp) h1.2 h2.2]
theorem insD_perm (O : List D) (x : D) : (insD O x).Perm (x :: O) := by
  unfold insD
  have h := List.take_append_drop (lead x O) O
  calc (O.take (lead x O) ++ [x] ++ O.drop (lead x O)).Perm ([x] ++ O.take (lead x O) ++ O.drop (lead x O)) := (List.perm_append_comm).append_right _
    _ = x :: O := by rw [List.append_assoc, h]; rfl
theorem insD_cons (y : D) (ys : List D) (x : D) : insD (y :: ys) x = if lessD y x = true then y :: insD ys x else x :: y :: ys := by
  unfold insD
  rw [lead]
  split <;> rfl
theorem insD_sorted : ∀ (O : List D) (x : D), O.Pairwise leD → (insD O x).Pairwise leD
  | [], x, _ => List.pairwise_singleton _ _
  | y :: ys, x, h => by
    rw [insD_cons]
    rw [List.pairwise_cons] at h
    split
    · rename_i hl
      rw [List.pairwise_cons]
      refine ⟨fun z hz => ?_, insD_sorted ys x h.2⟩
      rcases List.mem_cons.1 ((insD_perm ys x).mem_iff.1 hz) with rfl | hz
      · exact leD_less hl
      · exact h.1 z hz
    · rename_i hl
      have hxy : leD x y := leD_notless (by simpa using hl)
      rw [List.pairwise_cons]
      refine ⟨fun z hz => ?_, List.pairwise_cons.2 h⟩
      rcases List.mem_cons.1 hz with rfl | hz
      · exact hxy
      · exact leD_trans hxy (h.1 z hz)
theorem insM_both (L : List D) : ∀ m, m ≤ L.length → (insM L m).Perm (L.take m) ∧ (insM L m).Pairwise leD
  | 0, _ => ⟨List.Perm.refl _, List.Pairwise.nil⟩
  | m + 1, h => by
    have hm : L[m]? = some (L[m]'(by omega)) := List.getElem?_eq_getElem (by omega)
    obtain ⟨h1, h2⟩ := insM_both L m (by omega)
    rw [insM_succ L m _ hm]
    refine ⟨(insD_perm _ _).trans ?_, insD_sorted _ _ h2⟩
    rw [List.take_succ_eq_append_getElem (by omega)]
    exact ((List.Perm.cons _ h1).trans (List.perm_append_comm (l₁ := [L[m]]) (l₂ := L.take m)))
theorem waysL_is (d : D) {Q : List D} (h1 : Q.Perm ((bfs d).map (·.1))) (h2 : Q.Pairwise leD) : Q = waysL d := by
  have h := insM_both ((bfs d).map (·.1)) (bfs d).length (by simp)
  refine sorted_one (h1.trans ?_) h2 h.2
  have := h.1.symm
  rwa [List.take_of_length_le (by simp)] at this

/-! ### the calls -/
theorem keysD_any (mb : Nat) (w : World) : Calls Tryd.prog 92 #[.map (some mb)] w fun e w' => e = .returned (.func (.func 110) #[] #[.pointer (some ⟨w.heap.size, 0, none⟩)]) ∧ w'.cell? ⟨w.heap.size, 0, none⟩ = some (.map (some mb)) ∧ Below w.heap.size w w' := by
  go_enter Tryd.func92, Tryd.ntmps92
  go_wp2
  go_returns
  exact ⟨rfl, by simp, by go_grown⟩
theorem keysD_gives (F : Fence) (n : Nat) (h1 : F.fn 110) (hro : F.round = none) (hn : 1 ≤ n) (Bm b : Nat) (L : Found) (w : World) (hBm : Bm < w.heap.size) (hm : w.cell? ⟨Bm, 0, none⟩ = some (.map (some b))) (hmap : MapIs w b L) :
    SeqGives F n Tryd.prog 110 #[.pointer (some ⟨Bm, 0, none⟩)] D.v (fun ss => ss.Perm (L.map (·.1))) L.length w := fun l J W hW hJ hY h0 =>
  keys1D_in F n h1 hro hn l Bm b L J hY W hJ ((hW.cell (p := ⟨Bm, 0, none⟩) hBm).trans hm) ((hW.block b hmap.lt).trans hmap) h0
set_option maxHeartbeats 1000000 in
theorem collectD_in (F : Fence) (n : Nat) (h8 : F.fn 108) (h11 : F.fn 132) (hro : F.round = none) (hn : 3 ≤ n) (g : Nat) (lb : Array Value) (hFg : F.fn g) (eg : ∀ args w, (callFunc g args).run Tryd.prog w = .ok (.enter g args) w)
    (S : List D → Prop) (N : Nat) (hN : N ≤ 1000) (w : World) (hseq : SeqGives F (n - 1 - 1) Tryd.prog g lb D.v S N w) :
    CallsIn F n Tryd.prog 108 #[.func (.func g) #[] lb] w fun e w' => ∃ (v : Value) (ss : List D), e = .returned v ∧ S ss ∧ w'.ownsRow w.heap.size 30 6 v ss.length (cellsW ss) ∧ Below w.heap.size w w' := by
  have h1 : 1 ≤ n := by omega
  refine callsIn_of_wp Tryd.func108 rfl h8 ?_ hro
  simp only [Tryd.ntmps108, List.size_toArray, List.length_cons, List.length_nil, Nat.reduceAdd, Nat.reduceSub, Array.replicate_succ, Array.replicate_zero, List.push_toArray, List.append_toArray, List.nil_append, List.cons_append]
  gi_wp2_with (gi_at_call 132; refine (appendSeqD_in F (n - 1) h11 hro (by omega) g lb hFg eg S N hN _ hseq).mono ?_; rintro e w' ⟨v, ss, rfl, hS, hrow, hb⟩)
  go_ret
  exact ⟨v, ss, rfl, hS, hrow, hb⟩
theorem collectD_any (Bm b : Nat) (L : Found) (hL : L.length ≤ 1000) (w : World) (hBm : Bm < w.heap.size) (hm : w.cell? ⟨Bm, 0, none⟩ = some (.map (some b))) (hmap : MapIs w b L) :
    Calls Tryd.prog 108 #[.func (.func 110) #[] #[.pointer (some ⟨Bm, 0, none⟩)]] w fun e w' => ∃ (v : Value) (ss : List D), e = .returned v ∧ ss.Perm (L.map (·.1)) ∧ w'.ownsRow w.heap.size 30 6 v ss.length (cellsW ss) ∧ Below w.heap.size w w' :=
  callsIn_wide.1 (collectD_in Fence.wide 5 trivial trivial rfl (by omega) _ _ trivial (enters_of Tryd.func110 (by kernel_rfl) rfl) _ _ hL w (keysD_gives Fence.wide _ trivial rfl (by omega) Bm b L w hBm hm hmap))
set_option maxHeartbeats 1000000 in
/-- slices.SortedFunc(maps.Keys(words), compareDice). -/
theorem sortedFunc_any (d : D) (Bm b : Nat) (w : World) (hBm : Bm < w.heap.size) (hm : w.cell? ⟨Bm, 0, none⟩ = some (.map (some b))) (hmap : MapIs w b (bfs d)) :
    Calls Tryd.prog 91 #[.func (.func 110) #[] #[.pointer (some ⟨Bm, 0, none⟩)], .func (.func 94) #[] #[]] w fun e w' => ∃ v, e = .returned v ∧ w'.ownsRow w.heap.size 30 6 v (bfs d).length (cellsW (waysL d)) ∧ Below w.heap.size w w' := by
  have h24 := (bfs_good d).le
  have hpos := bfs_pos d
  have HC := hide (collectD_any Bm b (bfs d) (by omega) w hBm hm hmap)
  have HQ := hide (fun (Q Q' ss : List D) (h1 : ss.Perm ((bfs d).map (·.1))) (h2 : Q'.Perm ss) (h3 : SortedDc Q') => waysL_is d (h2.trans h1) h3)
  have HLN := hide (show ∀ ss : List D, ss.Perm ((bfs d).map (·.1)) → ss.length = (bfs d).length from fun ss h => by rw [h.length_eq, List.length_map])
  clear hBm hm hmap
  generalize waysL d = Q at HQ ⊢
  generalize bfs d = L at h24 hpos HC HQ HLN ⊢
  go_enter Tryd.func91, Tryd.ntmps91
  go_wp2_with fail
  refine HC.out.mono ?_
  rintro e w1 ⟨v, ss, rfl, hp, hO, hb1⟩
  have hlen := HLN.out ss hp
  obtain ⟨g, cap, rfl, -, -⟩ := own_form hO (by omega)
  have HP := hide hp
  have HO := hide hO
  have HB := hide hb1
  have HL := hide hlen
  have HS := hide (sortDice_any w.heap.size g cap ss w1 (by omega) (by omega) hO)
  clear hp hO hb1 hlen
  go_wp2_with fail
  refine HS.out.mono ?_
  rintro e w2 ⟨rfl, Q', hp2, hs2, hO2, hg2⟩
  have hq := HQ.out Q Q' ss HP.out hp2 hs2
  have HE := hide (show w2.ownsRow w.heap.size 30 6 (.slice (some ⟨g, 0, none⟩) ss.length cap) L.length (cellsW Q) from by rw [← hq, ← HL.out]; exact hO2)
  have q2 := HB.out.grown hg2 HB.out.size (fun k hk => by cases hk; exact (HO.out.lt g rfl).1)
  clear hp2 hs2 hO2 hg2 hq
  go_wp2
  go_returns
  exact ⟨_, rfl, HE.out, q2⟩
end Go.Proofs.YtjikpkembcnfnaaDoor
