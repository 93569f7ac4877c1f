/- Slices of states: their size, and what brings them over (szStateS, toStateS). -/
import Derived.Test.YtdndegonpdakkaaDoorDiceS
import Derived.Test.YtdndegonpdakkaaDoorOwnK
import Derived.OwnWalk
namespace Go.Proofs.YtdndegonpdakkaaDoor
set_option maxRecDepth 100000
set_option linter.all false
open Go.RowKit

theorem own_has {w : World} {B : Nat} {e : TypeId} {z g n cap : Nat} {xs : List Value} (h : w.ownsRow B e z (.slice (some ⟨g, 0, none⟩) n cap) n xs) (j : Nat) (hj : j < n * z) : ∃ v, w.cell? ⟨g, j, none⟩ = some v := by
  have hl := h.1
  rw [h.cellAt j hj]
  exact ⟨_, List.getElem?_eq_getElem (by omega)⟩
/-- A row written over from its head. -/
def over (ys xs : List Value) (j : Nat) : List Value := ys.take j ++ xs.drop j
theorem over_zero (ys xs : List Value) : over ys xs 0 = xs := rfl
theorem over_done (ys xs : List Value) (h : ys.length = xs.length) : over ys xs ys.length = ys := by
  unfold over
  rw [List.take_length, h, List.drop_length, List.append_nil]
theorem over_set (ys xs : List Value) (j : Nat) (v : Value) (h : ys[j]? = some v) (hl : ys.length = xs.length) : (over ys xs j).set j v = over ys xs (j + 1) := by
  have hj := (List.getElem?_eq_some_iff.1 h).1
  have hv : ys[j] = v := (List.getElem?_eq_some_iff.1 h).2
  unfold over
  rw [List.set_append, if_neg (by rw [List.length_take]; omega), List.length_take, Nat.min_eq_left (Nat.le_of_lt hj), Nat.sub_self, List.drop_eq_getElem_cons (by omega : j < xs.length), List.set_cons_zero, List.take_add_one, h]
  simp
theorem over_one {w : World} {B g n cap : Nat} {e : TypeId} {z : Nat} {ys xs : List Value} {j : Nat} {v : Value} (h : w.ownsRow B e z (.slice (some ⟨g, 0, none⟩) n cap) n (over ys xs j)) (hv : ys[j]? = some v) (hl : ys.length = xs.length) (hn : ys.length = n * z) :
    (w.setCell ⟨g, j, none⟩ v).ownsRow B e z (.slice (some ⟨g, 0, none⟩) n cap) n (over ys xs (j + 1)) := by
  have hj := (List.getElem?_eq_some_iff.1 hv).1
  rw [← over_set ys xs j v hv hl]
  exact own_put h j (by omega) v
theorem over_state {w : World} {B g n cap : Nat} {e : TypeId} {L : List St} {xs : List Value} {k : Nat} {s : St} (h : w.ownsRow B e 8 (.slice (some ⟨g, 0, none⟩) n cap) n (over (cellsS L) xs (k * 8))) (hs : L[k]? = some s) (hl : (cellsS L).length = xs.length) (hn : L.length = n) :
    ((((((((w.setCell ⟨g, k * 8, none⟩ (.int .i64 s.x)).setCell ⟨g, k * 8 + 1, none⟩ (.int .i64 s.y)).setCell ⟨g, k * 8 + 2, none⟩ (.int .i64 s.d.t)).setCell ⟨g, k * 8 + 3, none⟩ (.int .i64 s.d.n)).setCell ⟨g, k * 8 + 4, none⟩ (.int .i64 s.d.e)).setCell ⟨g, k * 8 + 5, none⟩ (.int .i64 s.d.s)).setCell ⟨g, k * 8 + 6, none⟩ (.int .i64 s.d.w)).setCell ⟨g, k * 8 + 7, none⟩ (.int .i64 s.d.b)).ownsRow B e 8 (.slice (some ⟨g, 0, none⟩) n cap) n (over (cellsS L) xs ((k + 1) * 8)) := by
  have hc := cellsS_get L k s hs
  have hn8 : (cellsS L).length = n * 8 := by rw [cellsS_len, hn]
  have h0 := over_one h ((hc 0 (by omega)).trans rfl) hl hn8
  have h1 := over_one h0 ((hc 1 (by omega)).trans rfl) hl hn8
  have h2 := over_one h1 ((hc 2 (by omega)).trans rfl) hl hn8
  have h3 := over_one h2 ((hc 3 (by omega)).trans rfl) hl hn8
  have h4 := over_one h3 ((hc 4 (by omega)).trans rfl) hl hn8
  have h5 := over_one h4 ((hc 5 (by omega)).trans rfl) hl hn8
  have h6 := over_one h5 ((hc 6 (by omega)).trans rfl) hl hn8
  have h7 := over_one h6 ((hc 7 (by omega)).trans rfl) hl hn8
  rw [show (k + 1) * 8 = k * 8 + 7 + 1 by omega]
  exact h7

theorem below_put8 {B : Nat} {a w : World} {b : Nat} (h : Below B a w) (hb : B ≤ b) (o : Nat) (s : St) : Below B a ((((((((w.setCell ⟨b, o, none⟩ (.int .i64 s.x)).setCell ⟨b, o + 1, none⟩ (.int .i64 s.y)).setCell ⟨b, o + 2, none⟩ (.int .i64 s.d.t)).setCell ⟨b, o + 3, none⟩ (.int .i64 s.d.n)).setCell ⟨b, o + 4, none⟩ (.int .i64 s.d.e)).setCell ⟨b, o + 5, none⟩ (.int .i64 s.d.s)).setCell ⟨b, o + 6, none⟩ (.int .i64 s.d.w)).setCell ⟨b, o + 7, none⟩ (.int .i64 s.d.b)) :=
  h |>.setCell hb _ |>.setCell hb _ |>.setCell hb _ |>.setCell hb _ |>.setCell hb _ |>.setCell hb _ |>.setCell hb _ |>.setCell hb _

theorem szStateS_any (v : Value) (L : List St) (k : Int) (w : World) (h : StsIn w v L) (hk : 0 ≤ k ∧ k ≤ 1048576) : Calls Tryd.prog 10 #[v, .int .i64 k] w fun e w' => e = .returned (.int .i64 (if k < L.length then -1 else k - L.length)) ∧ w = w' := by
  have hv : ∃ p cap, v = .slice p L.length cap ∧ L.length ≤ maxLen := by
    rcases h with ⟨p, cap, rfl, rfl⟩ | ⟨g, o, cap, rfl, _, h3, _⟩
    · exact ⟨p, cap, rfl, by simp⟩
    · exact ⟨_, cap, rfl, h3⟩
  obtain ⟨p, cap, rfl, hm⟩ := hv
  unfold maxLen at hm
  generalize L.length = n at hm ⊢
  obtain ⟨k0, k1⟩ := hk
  clear h
  by_cases hlt : k < n
  · rw [if_pos hlt]
    go_enter Tryd.func10, Tryd.ntmps10
    go_wp2
    go_returns
    exact ⟨rfl, rfl⟩
  · rw [if_neg hlt]
    go_enter Tryd.func10, Tryd.ntmps10
    go_wp2
    go_returns
    exact ⟨rfl, rfl⟩

/-- What toStateS hands back. -/
def ToSts (L : List St) (w : World) (e : Ending) (w' : World) : Prop := ∃ g, w.heap.size ≤ g ∧ e = .returned (.slice (some ⟨g, 0, none⟩) L.length L.length) ∧ w'.ownsRow w.heap.size 57 8 (.slice (some ⟨g, 0, none⟩) L.length L.length) L.length (cellsS L) ∧ Below w.heap.size w w'
set_option maxHeartbeats 1600000 in
theorem toStateS_nil (p : Option Addr) (cap : Nat) (w : World) : Calls Tryd.prog 12 #[.slice p 0 cap] w (ToSts [] w) := by
  obtain ⟨i0, hi, hz0, hz1, hz2⟩ := info_parts info_state
  have HI := hide hi
  have HZ0 := hide hz0
  have HZ1 := hide hz1
  have HZ2 := hide hz2
  clear hi hz0 hz1 hz2
  go_enter Tryd.func12, Tryd.ntmps12
  go_wp2_with (at_make; refine wpList_make_full _ rfl _ _ 26 rfl w.heap.size 57 i0 (.agg #[.int .i64 0, .int .i64 0, .int .i64 0, .int .i64 0, .int .i64 0, .int .i64 0, .int .i64 0, .int .i64 0]) 8 Tryd.underlying26 HI.out HZ0.out HZ1.out .i64 .i64 _ _ 0 rfl rfl rfl rfl (by rw [HZ2.out]; omega) (by unfold maxLen; omega) (Nat.le_refl _) ?_; intro w0 hown0 hgrow0)
  have hb0 : Below w.heap.size w w0 := (Below.refl _ _).grown hgrow0 (Nat.le_refl _) (fun k hk => by cases hk)
  clear hgrow0
  go_loop [4] (fun i => i = .int .i64 0) (fun _ => 0)
  case atStart => rfl
  case round =>
    subst hrel
    go_wp2
    go_returns
    exact ⟨_, Nat.le_refl _, rfl, by simpa [cellsS, madeCells] using hown0, hb0⟩
set_option maxHeartbeats 3200000 in
theorem toStateS_some (b o cap : Nat) (L : List St) (w : World) (h0 : 0 < L.length) (hn : L.length ≤ 1048576) (h : StAt w b o L) : Calls Tryd.prog 12 #[.slice (some ⟨b, o, none⟩) L.length cap] w (ToSts L w) := by
  obtain ⟨i0, hi, hz0, hz1, hz2⟩ := info_parts info_state
  have HI := hide hi
  have HZ0 := hide hz0
  have HZ1 := hide hz1
  have HZ2 := hide hz2
  clear hi hz0 hz1 hz2
  have HA := hide h
  have hbw : b < w.heap.size := h.1
  clear h
  have HL := hide (rfl : L.length = L.length)
  obtain ⟨n, hN⟩ : ∃ n, n = L.length := ⟨_, rfl⟩
  have HT := hide (show ∀ (e : Ending) (w' : World), (∃ g, w.heap.size ≤ g ∧ e = .returned (.slice (some ⟨g, 0, none⟩) n n) ∧ w'.ownsRow w.heap.size 57 8 (.slice (some ⟨g, 0, none⟩) n n) n (cellsS L) ∧ Below w.heap.size w w') → ToSts L w e w' from by
    subst hN
    exact fun e w' h => h)
  rw [← hN] at h0 hn ⊢
  have HN := hide hN
  clear hN HL
  go_enter Tryd.func12, Tryd.ntmps12
  go_wp2_with (at_make; refine wpList_make_full _ rfl _ _ 26 rfl w.heap.size 57 i0 (.agg #[.int .i64 0, .int .i64 0, .int .i64 0, .int .i64 0, .int .i64 0, .int .i64 0, .int .i64 0, .int .i64 0]) 8 Tryd.underlying26 HI.out HZ0.out HZ1.out .i64 .i64 _ _ n rfl rfl rfl rfl (by rw [HZ2.out]; omega) (by unfold maxLen; omega) (Nat.le_refl _) ?_; intro w0 hown0 hgrow0)
  have hb0 : Below w.heap.size w w0 := (Below.refl _ _).grown hgrow0 (Nat.le_refl _) (fun k hk => by cases hk)
  clear hgrow0
  generalize hxs : (madeCells (Value.agg #[.int .i64 0, .int .i64 0, .int .i64 0, .int .i64 0, .int .i64 0, .int .i64 0, .int .i64 0, .int .i64 0]).cells (n * 8)).toList = xs at hown0
  have hlx := hide (show (cellsS L).length = xs.length from by rw [hown0.1, cellsS_len, HN.out])
  clear hxs
  have HO := hide hown0
  have HB := hide hb0
  clear hown0 hb0
  go_loopw [4] (fun i wr => ∃ k : Nat, k ≤ n ∧ i = .int .i64 (k : Int) ∧ wr.ownsRow w.heap.size 57 8 (.slice (some ⟨w.heap.size, 0, none⟩) n n) n (over (cellsS L) xs (k * 8)) ∧ Below w.heap.size w wr) (fun i _ => n - (intOf i).toNat)
  case atStart => exact ⟨0, Nat.zero_le _, rfl, HO.out, HB.out⟩
  case round =>
    obtain ⟨k, hk, rfl, O, q⟩ := hrel
    clear HO HB
    by_cases hlt : k < n
    · have hx : L[k]? = some (L[k]'(by have := HN.out; omega)) := List.getElem?_eq_getElem (by have := HN.out; omega)
      generalize L[k]'(by have := HN.out; omega) = u at hx
      obtain ⟨a0, a1, a2, a3, a4, a5, a6, a7⟩ := (stAt_to q HA.out rfl).cells hx
      have hki : (k : Int) < (n : Int) := by omega
      have HX := hide hx
      have HO := hide O
      have hwg := (O.lt w.heap.size rfl).2
      clear hx O
      go_wp2_with fail
      refine (toState_any u _).mono ?_
      rintro e w2 ⟨rfl, hb2⟩
      clear a0 a1 a2 a3 a4 a5 a6 a7
      have O2 := own_to hb2 HO.out rfl
      have q2 := below_to hb2 q q.size rfl rfl rfl rfl
      clear hb2 q HO
      have f0 := own_free O2 (k * 8)
      have f1 := own_free O2 (k * 8 + 1)
      have f2 := own_free O2 (k * 8 + 2)
      have f3 := own_free O2 (k * 8 + 3)
      have f4 := own_free O2 (k * 8 + 4)
      have f5 := own_free O2 (k * 8 + 5)
      have f6 := own_free O2 (k * 8 + 6)
      have f7 := own_free O2 (k * 8 + 7)
      obtain ⟨v0, p0⟩ := own_has O2 (k * 8) (by omega)
      obtain ⟨v1, p1⟩ := own_has O2 (k * 8 + 1) (by omega)
      obtain ⟨v2, p2⟩ := own_has O2 (k * 8 + 2) (by omega)
      obtain ⟨v3, p3⟩ := own_has O2 (k * 8 + 3) (by omega)
      obtain ⟨v4, p4⟩ := own_has O2 (k * 8 + 4) (by omega)
      obtain ⟨v5, p5⟩ := own_has O2 (k * 8 + 5) (by omega)
      obtain ⟨v6, p6⟩ := own_has O2 (k * 8 + 6) (by omega)
      obtain ⟨v7, p7⟩ := own_has O2 (k * 8 + 7) (by omega)
      have q3 := hide (below_put8 q2 (Nat.le_refl w.heap.size) (k * 8) u)
      have O3 := hide (over_state O2 HX.out hlx.out HN.out.symm)
      clear O2 q2
      go_wp2
      go_roundw
      case rel => exact ⟨k + 1, by omega, by go_num, O3.out, q3.out⟩
      case measure => simp [intOf] <;> omega
    · obtain rfl : k = n := by omega
      have O3 : wr.ownsRow w.heap.size 57 8 (.slice (some ⟨w.heap.size, 0, none⟩) k k) k (cellsS L) := by
        have := over_done (cellsS L) xs hlx.out
        rw [cellsS_len, ← HN.out] at this
        rw [this] at O
        exact O
      clear O
      go_wp2
      go_returns
      exact HT.out _ _ ⟨_, Nat.le_refl _, rfl, O3, q⟩
theorem toStateS_any (v : Value) (L : List St) (w : World) (h : StsIn w v L) (hn : L.length ≤ 1048576) : Calls Tryd.prog 12 #[v] w (ToSts L w) := by
  rcases h with ⟨p, cap, rfl, rfl⟩ | ⟨g, o, cap, rfl, h2, _, h4⟩
  · exact toStateS_nil p cap w
  · exact toStateS_some g o cap L w h2 hn h4
theorem stAt_own {w : World} {B g n cap : Nat} {L : List St} (O : w.ownsRow B 57 8 (.slice (some ⟨g, 0, none⟩) n cap) n (cellsS L)) (hn : n = L.length) : StAt w g 0 L := by
  refine ⟨(O.lt g rfl).2, fun i s hi j v hj => ?_⟩
  have hil := (List.getElem?_eq_some_iff.1 hi).1
  have hj8 : j < 8 := by
    have := (List.getElem?_eq_some_iff.1 hj).1
    simpa [scells] using this
  rw [Nat.zero_add, O.cellAt (i * 8 + j) (by omega), cellsS_get L i s hi j hj8]
  exact hj
theorem StAt.cells0 {w : World} {g : Nat} {L : List St} (h : StAt w g 0 L) {i : Nat} {s : St} (hi : L[i]? = some s) :
    w.cell? ⟨g, i * 8, none⟩ = some (.int .i64 s.x) ∧ w.cell? ⟨g, i * 8 + 1, none⟩ = some (.int .i64 s.y) ∧ w.cell? ⟨g, i * 8 + 2, none⟩ = some (.int .i64 s.d.t) ∧ w.cell? ⟨g, i * 8 + 3, none⟩ = some (.int .i64 s.d.n) ∧ w.cell? ⟨g, i * 8 + 4, none⟩ = some (.int .i64 s.d.e) ∧ w.cell? ⟨g, i * 8 + 5, none⟩ = some (.int .i64 s.d.s) ∧ w.cell? ⟨g, i * 8 + 6, none⟩ = some (.int .i64 s.d.w) ∧ w.cell? ⟨g, i * 8 + 7, none⟩ = some (.int .i64 s.d.b) := by
  have := h.cells hi
  simpa only [Nat.zero_add] using this
theorem StAt.take {w : World} {g o : Nat} {L : List St} (h : StAt w g o L) (k : Nat) : StAt w g o (L.take k) := by
  refine ⟨h.1, fun i s hi j v hj => ?_⟩
  rw [List.getElem?_take] at hi
  split at hi
  · exact h.2 i s hi j v hj
  · cases hi
end Go.Proofs.YtdndegonpdakkaaDoor
