/- Rows of dice: their cells, and the statements' own toDieS, szDieS, eqDieS, markDieS, heldDieS; slices of dice as arguments. -/
import Derived.Test.YtjikpkembcnfnaaDoorDie
import Derived.Test.YtjikpkembcnfnaaDoorInts
import Derived.Test.YtjikpkembcnfnaaDoorState
import Derived.Test.YtjikpkembcnfnaaDoorOpen
import Derived.Deep.Slices
import Derived.OwnWalk
import Derived.Test.YtjikpkembcnfnaaDoorFirst
import Derived.Test.YtjikpkembcnfnaaDoorLess
namespace Go.Proofs.YtjikpkembcnfnaaDoor
set_option maxRecDepth 100000
set_option linter.all false
open Go.Joins Go.ChangeShapes Go.WideShapes Go.RowKit

/-- A row stays while only blocks from B on are written. -/
theorem own_below {w w' : World} {B b : Nat} {e : TypeId} {z : Nat} {v : Value} {n : Nat} {xs : List Value} (hb : Below B w w') (h : w.ownsRow b e z v n xs) (hl : ∀ g, v.ownBlock = some g → g < B) : w'.ownsRow b e z v n xs := by
  obtain ⟨h1, h2⟩ := h
  refine ⟨h1, ?_⟩
  rcases h2 with h2 | ⟨g, cap, cur, hv, hg, hh, r⟩
  · exact .inl h2
  · exact .inr ⟨g, cap, cur, hv, hg, by rw [hb.block g (hl g (by rw [hv]; rfl))]; exact hh, r⟩
theorem eqDie_self (d : D) (w : World) : Calls Tryd.prog 53 #[D.v d, D.v d] w fun x w' => x = .returned (.bool true) ∧ Below w.heap.size w w' :=
  (eqDie_any d d w).mono fun _ _ h => ⟨by rw [h.1]; simp, h.2⟩

/-- Dice stand in memory, from cell o of block g on. -/
def DAt (w : World) (g o : Nat) (L : List D) : Prop := g < w.heap.size ∧ ∀ (i : Nat) (s : D), L[i]? = some s → ∀ (j : Nat) (v : Value), (dcells s)[j]? = some v → w.cell? ⟨g, o + (i * 6 + j), none⟩ = some v
theorem dAt_to {w w0 w1 : World} {g o : Nat} {L : List D} (hb : Below w0.heap.size w0 w1) (h : DAt w g o L) (e : w0.heap = w.heap) : DAt w1 g o L := by
  have hs := hb.size
  refine ⟨by rw [e] at hs; have := h.1; omega, fun i s hi j v hj => ?_⟩
  rw [hb.cell (p := ⟨g, _, none⟩) (by rw [e]; exact h.1)]
  have h5 : w0.heap[(⟨g, o + (i * 6 + j), none⟩ : Addr).block]? = w.heap[(⟨g, o + (i * 6 + j), none⟩ : Addr).block]? := by rw [e]
  rw [World.cell?_of_block h5]
  exact h.2 i s hi j v hj
theorem DAt.cells {w : World} {g o : Nat} {L : List D} (h : DAt w g o L) {i : Nat} {s : D} (hi : L[i]? = some s) :
    w.cell? ⟨g, o + i * 6, none⟩ = some (.int .i64 s.t) ∧ w.cell? ⟨g, o + i * 6 + 1, none⟩ = some (.int .i64 s.n) ∧ w.cell? ⟨g, o + i * 6 + 2, none⟩ = some (.int .i64 s.e) ∧ w.cell? ⟨g, o + i * 6 + 3, none⟩ = some (.int .i64 s.s) ∧ w.cell? ⟨g, o + i * 6 + 4, none⟩ = some (.int .i64 s.w) ∧ w.cell? ⟨g, o + i * 6 + 5, none⟩ = some (.int .i64 s.b) := by
  have k := h.2 i s hi
  exact ⟨k 0 _ rfl, k 1 _ rfl, k 2 _ rfl, k 3 _ rfl, k 4 _ rfl, k 5 _ rfl⟩
theorem DAt.cells0 {w : World} {g : Nat} {L : List D} (h : DAt w g 0 L) {i : Nat} {s : D} (hi : L[i]? = some s) :
    w.cell? ⟨g, i * 6, none⟩ = some (.int .i64 s.t) ∧ w.cell? ⟨g, i * 6 + 1, none⟩ = some (.int .i64 s.n) ∧ w.cell? ⟨g, i * 6 + 2, none⟩ = some (.int .i64 s.e) ∧ w.cell? ⟨g, i * 6 + 3, none⟩ = some (.int .i64 s.s) ∧ w.cell? ⟨g, i * 6 + 4, none⟩ = some (.int .i64 s.w) ∧ w.cell? ⟨g, i * 6 + 5, none⟩ = some (.int .i64 s.b) := by
  have := h.cells hi
  simpa only [Nat.zero_add] using this
theorem DAt.take {w : World} {g o : Nat} {L : List D} (h : DAt w g o L) (k : Nat) : DAt w g o (L.take k) := by
  refine ⟨h.1, fun i s hi j v hj => ?_⟩
  rw [List.getElem?_take] at hi
  split at hi
  · exact h.2 i s hi j v hj
  · cases hi
theorem dAt_own {w : World} {B g n cap : Nat} {L : List D} (O : w.ownsRow B 30 6 (.slice (some ⟨g, 0, none⟩) n cap) n (cellsW L)) (hn : n = L.length) : DAt w g 0 L := by
  refine ⟨(O.lt g rfl).2, fun i s hi j v hj => ?_⟩
  have hil := (List.getElem?_eq_some_iff.1 hi).1
  have hj6 : j < 6 := by
    have := (List.getElem?_eq_some_iff.1 hj).1
    simpa [dcells] using this
  rw [Nat.zero_add, O.cellAt (i * 6 + j) (by omega), cellsW_get L i s hi j hj6]
  exact hj
/-- A value that is a slice of dice. -/
def DsIn (w : World) (v : Value) (L : List D) : Prop :=
  (∃ p cap, v = .slice p 0 cap ∧ L = []) ∨ (∃ g o cap, v = .slice (some ⟨g, o, none⟩) L.length cap ∧ 0 < L.length ∧ L.length ≤ maxLen ∧ DAt w g o L)
theorem dsIn_to {w w0 w1 : World} {v : Value} {L : List D} (hb : Below w0.heap.size w0 w1) (h : DsIn w v L) (e : w0.heap = w.heap) : DsIn w1 v L := by
  rcases h with h | ⟨g, o, cap, h1, h2, h3, h4⟩
  · exact .inl h
  · exact .inr ⟨g, o, cap, h1, h2, h3, dAt_to hb h4 e⟩
theorem one_intD {H : Type} {enc : TypeId × Value → H} {w : World} {base : Nat} {spare : Nat → Bool} {held : Bool} {n : Nat} (c : Value) (y : DataW H × List MemPlace) (hy : DataW.trod enc Tryd.prog w base spare held n 3 [c] = some y) : ∃ a : Int, c = .int .i64 a := by
  have c3 : Tryd.prog.cellsOf 3 = 1 := by kernel_rfl
  obtain ⟨a, e, _⟩ := DataW.trod_int Tryd.underlying3 hy
  exact ⟨a, by simpa using e⟩
theorem die_cells {H : Type} {enc : TypeId × Value → H} {w : World} {base : Nat} {spare : Nat → Bool} {held : Bool} {fuel : Nat} {cs : List Value} {x : DataW H × List MemPlace} (hf : DataW.trod enc Tryd.prog w base spare held fuel 23 cs = some x) (hsz : cs.length = 6) : ∃ s : D, cs = dcells s := by
  match cs, hsz with
  | [c0, c1, c2, c3, c4, c5], _ =>
    obtain ⟨xs, n, _, hx, _, hlen, hg⟩ := DataW.trod_struct Tryd.underlying23 hf
    have g0 := hg 0 _ rfl
    have g1 := hg 1 _ rfl
    have g2 := hg 2 _ rfl
    have g3 := hg 3 _ rfl
    have g4 := hg 4 _ rfl
    have g5 := hg 5 _ rfl
    have hl : ∀ j, j < 6 → ∃ y, xs[j]? = some y := fun j hj => ⟨xs[j]'(by simp_all), List.getElem?_eq_getElem _⟩
    obtain ⟨y0, e0⟩ := hl 0 (by omega)
    obtain ⟨y1, e1⟩ := hl 1 (by omega)
    obtain ⟨y2, e2⟩ := hl 2 (by omega)
    obtain ⟨y3, e3⟩ := hl 3 (by omega)
    obtain ⟨y4, e4⟩ := hl 4 (by omega)
    obtain ⟨y5, e5⟩ := hl 5 (by omega)
    obtain ⟨a0, rfl⟩ := one_intD c0 y0 (g0.trans e0)
    obtain ⟨a1, rfl⟩ := one_intD c1 y1 (g1.trans e1)
    obtain ⟨a2, rfl⟩ := one_intD c2 y2 (g2.trans e2)
    obtain ⟨a3, rfl⟩ := one_intD c3 y3 (g3.trans e3)
    obtain ⟨a4, rfl⟩ := one_intD c4 y4 (g4.trans e4)
    obtain ⟨a5, rfl⟩ := one_intD c5 y5 (g5.trans e5)
    exact ⟨⟨a0, a1, a2, a3, a4, a5⟩, rfl⟩
instance : Inhabited D := ⟨⟨0, 0, 0, 0, 0, 0⟩⟩
/-- A slice of dice that comes in. -/
theorem open_dice {H : Type} {enc : TypeId × Value → H} {w : World} {base : Nat} {spare : Nat → Bool} {held : Bool} {r : Reach} {b0 : Nat} {v : Value} {x : DataW H} {p : List MemPlace}
    (hv : Value.okWide Tryd.prog w r b0 50 v) (h : DataW.Trod enc Tryd.prog w base spare held 50 v x p) : ∃ L : List D, DsIn w v L := by
  obtain ⟨a0, len0, cap0, rfl⟩ := okWide_slice Tryd.underlying50 hv
  obtain ⟨fuel, hf⟩ := h
  rcases Go.Deep.open_slice Tryd.underlying50 hf with ⟨h1, _⟩ | ⟨a, len, cap, m, n, Dd, Pl, hcs, hb, hl, hm, hmm, hx, hi⟩
  · simp [Value.cells] at h1
    obtain ⟨rfl, rfl, rfl⟩ := h1
    exact ⟨[], .inl ⟨none, 0, rfl, rfl⟩⟩
  · simp [Value.cells] at hcs
    obtain ⟨rfl, rfl, rfl⟩ := hcs
    have hlm : len0 ≤ m := by rw [hmm]; split <;> omega
    have hc : ∀ i, i < len0 → ∃ s : D, ∀ (j : Nat) (v : Value), (dcells s)[j]? = some v → w.cell? (a.add (i * 6 + j)) = some v := by
      intro i hil
      obtain ⟨cs', hc1, hc2⟩ := hi i (by omega)
      rw [cells_die] at hc1
      obtain ⟨_, hcl, hat⟩ := World.cells?_some hc1
      obtain ⟨s, rfl⟩ := die_cells hc2 hcl
      refine ⟨s, fun j v hj => ?_⟩
      have hj6 : j < 6 := by
        have := (List.getElem?_eq_some_iff.1 hj).1
        simpa [dcells] using this
      have := hat j hj6
      rw [Go.Deep.add_add] at this
      rw [this]
      exact hj
    obtain ⟨f, hf2⟩ := Go.Deep.choose_lt hc
    by_cases h0 : len0 = 0
    · subst h0
      exact ⟨[], .inl ⟨some a, cap0, rfl, rfl⟩⟩
    · obtain ⟨b, off, spot⟩ := a
      have hspot : spot = none := by
        have := hf2 0 (by omega) 0 _ rfl
        simpa [Addr.add] using World.cell?_spot this
      subst hspot
      refine ⟨(List.range len0).map f, .inr ⟨b, off, cap0, by simp, by simp; omega, by simp; omega, ?_, ?_⟩⟩
      · have := hf2 0 (by omega) 0 _ rfl
        exact World.block_lt_of_cell? w _ this
      · intro i s hs j v hj
        have hil : i < len0 := by
          have := (List.getElem?_eq_some_iff.1 hs).1
          simpa using this
        rw [List.getElem?_map, List.getElem?_range hil] at hs
        obtain rfl : f i = s := by simpa using hs
        have := hf2 i hil j v hj
        rw [Go.WideShapes.add_plain] at this
        exact this
theorem own_has {w : World} {B : Nat} {e : TypeId} {z g n cap : Nat} {xs : List Value} (h : w.ownsRow B e z (.slice (some ⟨g, 0, none⟩) n cap) n xs) (j : Nat) (hj : j < n * z) : ∃ v, w.cell? ⟨g, j, none⟩ = some v := by
  have hl := h.1
  rw [h.cellAt j hj]
  exact ⟨_, List.getElem?_eq_getElem (by omega)⟩
/-- A row written over from its head. -/
def over (ys xs : List Value) (j : Nat) : List Value := ys.take j ++ xs.drop j
theorem over_zero (ys xs : List Value) : over ys xs 0 = xs := rfl
theorem over_done (ys xs : List Value) (h : ys.length = xs.length) : over ys xs ys.length = ys := by
  unfold over
  rw [List.take_length, h, List.drop_length, List.append_nil]
theorem over_set (ys xs : List Value) (j : Nat) (v : Value) (h : ys[j]? = some v) (hl : ys.length = xs.length) : (over ys xs j).set j v = over ys xs (j + 1) := by
  have hj := (List.getElem?_eq_some_iff.1 h).1
  have hv : ys[j] = v := (List.getElem?_eq_some_iff.1 h).2
  unfold over
  rw [List.set_append, if_neg (by rw [List.length_take]; omega), List.length_take, Nat.min_eq_left (Nat.le_of_lt hj), Nat.sub_self, List.drop_eq_getElem_cons (by omega : j < xs.length), List.set_cons_zero, List.take_add_one, h]
  simp
theorem over_one {w : World} {B g n cap : Nat} {e : TypeId} {z : Nat} {ys xs : List Value} {j : Nat} {v : Value} (h : w.ownsRow B e z (.slice (some ⟨g, 0, none⟩) n cap) n (over ys xs j)) (hv : ys[j]? = some v) (hl : ys.length = xs.length) (hn : ys.length = n * z) :
    (w.setCell ⟨g, j, none⟩ v).ownsRow B e z (.slice (some ⟨g, 0, none⟩) n cap) n (over ys xs (j + 1)) := by
  have hj := (List.getElem?_eq_some_iff.1 hv).1
  rw [← over_set ys xs j v hv hl]
  exact own_put h j (by omega) v
theorem over_die {w : World} {B g n cap : Nat} {e : TypeId} {L : List D} {xs : List Value} {k : Nat} {s : D} (h : w.ownsRow B e 6 (.slice (some ⟨g, 0, none⟩) n cap) n (over (cellsW L) xs (k * 6))) (hs : L[k]? = some s) (hl : (cellsW L).length = xs.length) (hn : L.length = n) :
    ((((((w.setCell ⟨g, k * 6, none⟩ (.int .i64 s.t)).setCell ⟨g, k * 6 + 1, none⟩ (.int .i64 s.n)).setCell ⟨g, k * 6 + 2, none⟩ (.int .i64 s.e)).setCell ⟨g, k * 6 + 3, none⟩ (.int .i64 s.s)).setCell ⟨g, k * 6 + 4, none⟩ (.int .i64 s.w)).setCell ⟨g, k * 6 + 5, none⟩ (.int .i64 s.b)).ownsRow B e 6 (.slice (some ⟨g, 0, none⟩) n cap) n (over (cellsW L) xs ((k + 1) * 6)) := by
  have hc := cellsW_get L k s hs
  have hn6 : (cellsW L).length = n * 6 := by rw [cellsW_len, hn]
  have h0 := over_one h ((hc 0 (by omega)).trans rfl) hl hn6
  have h1 := over_one h0 ((hc 1 (by omega)).trans rfl) hl hn6
  have h2 := over_one h1 ((hc 2 (by omega)).trans rfl) hl hn6
  have h3 := over_one h2 ((hc 3 (by omega)).trans rfl) hl hn6
  have h4 := over_one h3 ((hc 4 (by omega)).trans rfl) hl hn6
  have h5 := over_one h4 ((hc 5 (by omega)).trans rfl) hl hn6
  rw [show (k + 1) * 6 = k * 6 + 5 + 1 by omega]
  exact h5
theorem below_put6 {B : Nat} {a w : World} {b : Nat} (h : Below B a w) (hb : B ≤ b) (o : Nat) (s : D) : Below B a ((((((w.setCell ⟨b, o, none⟩ (.int .i64 s.t)).setCell ⟨b, o + 1, none⟩ (.int .i64 s.n)).setCell ⟨b, o + 2, none⟩ (.int .i64 s.e)).setCell ⟨b, o + 3, none⟩ (.int .i64 s.s)).setCell ⟨b, o + 4, none⟩ (.int .i64 s.w)).setCell ⟨b, o + 5, none⟩ (.int .i64 s.b)) :=
  h |>.setCell hb _ |>.setCell hb _ |>.setCell hb _ |>.setCell hb _ |>.setCell hb _ |>.setCell hb _
theorem szDieS_any (v : Value) (L : List D) (k : Int) (w : World) (h : DsIn w v L) (hk : 0 ≤ k ∧ k ≤ 1048576) : Calls Tryd.prog 27 #[v, .int .i64 k] w fun e w' => e = .returned (.int .i64 (if k < L.length then -1 else k - L.length)) ∧ w = w' := by
  have hv : ∃ p cap, v = .slice p L.length cap ∧ L.length ≤ maxLen := by
    rcases h with ⟨p, cap, rfl, rfl⟩ | ⟨g, o, cap, rfl, _, h3, _⟩
    · exact ⟨p, cap, rfl, by simp⟩
    · exact ⟨_, cap, rfl, h3⟩
  obtain ⟨p, cap, rfl, hm⟩ := hv
  unfold maxLen at hm
  generalize L.length = n at hm ⊢
  obtain ⟨k0, k1⟩ := hk
  clear h
  by_cases hlt : k < n
  · rw [if_pos hlt]
    go_enter Tryd.func27, Tryd.ntmps27
    go_wp2
    go_returns
    exact ⟨rfl, rfl⟩
  · rw [if_neg hlt]
    go_enter Tryd.func27, Tryd.ntmps27
    go_wp2
    go_returns
    exact ⟨rfl, rfl⟩

/-- What toDieS hands back. -/
def ToDs (L : List D) (w : World) (e : Ending) (w' : World) : Prop := ∃ g, w.heap.size ≤ g ∧ e = .returned (.slice (some ⟨g, 0, none⟩) L.length L.length) ∧ w'.ownsRow w.heap.size 30 6 (.slice (some ⟨g, 0, none⟩) L.length L.length) L.length (cellsW L) ∧ Below w.heap.size w w'
set_option maxHeartbeats 1600000 in
theorem toDieS_nil (p : Option Addr) (cap : Nat) (w : World) : Calls Tryd.prog 29 #[.slice p 0 cap] w (ToDs [] w) := by
  obtain ⟨i0, hi, hz0, hz1, hz2⟩ := info_parts info_die
  have HI := hide hi
  have HZ0 := hide hz0
  have HZ1 := hide hz1
  have HZ2 := hide hz2
  clear hi hz0 hz1 hz2
  go_enter Tryd.func29, Tryd.ntmps29
  go_wp2_with (at_make; refine wpList_make_full _ rfl _ _ 40 rfl w.heap.size 30 i0 (.agg #[.int .i64 0, .int .i64 0, .int .i64 0, .int .i64 0, .int .i64 0, .int .i64 0]) 6 Tryd.underlying40 HI.out HZ0.out HZ1.out .i64 .i64 _ _ 0 rfl rfl rfl rfl (by rw [HZ2.out]; omega) (by unfold maxLen; omega) (Nat.le_refl _) ?_; intro w0 hown0 hgrow0)
  have hb0 : Below w.heap.size w w0 := (Below.refl _ _).grown hgrow0 (Nat.le_refl _) (fun k hk => by cases hk)
  clear hgrow0
  go_loop [4] (fun i => i = .int .i64 0) (fun _ => 0)
  case atStart => rfl
  case round =>
    subst hrel
    go_wp2
    go_returns
    exact ⟨_, Nat.le_refl _, rfl, by simpa [cellsW, madeCells] using hown0, hb0⟩
set_option maxHeartbeats 3200000 in
theorem toDieS_some (b o cap : Nat) (L : List D) (w : World) (h0 : 0 < L.length) (hn : L.length ≤ 1048576) (h : DAt w b o L) : Calls Tryd.prog 29 #[.slice (some ⟨b, o, none⟩) L.length cap] w (ToDs L w) := by
  obtain ⟨i0, hi, hz0, hz1, hz2⟩ := info_parts info_die
  have HI := hide hi
  have HZ0 := hide hz0
  have HZ1 := hide hz1
  have HZ2 := hide hz2
  clear hi hz0 hz1 hz2
  have HA := hide h
  have hbw : b < w.heap.size := h.1
  clear h
  obtain ⟨n, hN⟩ : ∃ n, n = L.length := ⟨_, rfl⟩
  have HT := hide (show ∀ (e : Ending) (w' : World), (∃ g, w.heap.size ≤ g ∧ e = .returned (.slice (some ⟨g, 0, none⟩) n n) ∧ w'.ownsRow w.heap.size 30 6 (.slice (some ⟨g, 0, none⟩) n n) n (cellsW L) ∧ Below w.heap.size w w') → ToDs L w e w' from by
    subst hN
    exact fun e w' h => h)
  rw [← hN] at h0 hn ⊢
  have HN := hide hN
  clear hN
  go_enter Tryd.func29, Tryd.ntmps29
  go_wp2_with (at_make; refine wpList_make_full _ rfl _ _ 40 rfl w.heap.size 30 i0 (.agg #[.int .i64 0, .int .i64 0, .int .i64 0, .int .i64 0, .int .i64 0, .int .i64 0]) 6 Tryd.underlying40 HI.out HZ0.out HZ1.out .i64 .i64 _ _ n rfl rfl rfl rfl (by rw [HZ2.out]; omega) (by unfold maxLen; omega) (Nat.le_refl _) ?_; intro w0 hown0 hgrow0)
  have hb0 : Below w.heap.size w w0 := (Below.refl _ _).grown hgrow0 (Nat.le_refl _) (fun k hk => by cases hk)
  clear hgrow0
  generalize hxs : (madeCells (Value.agg #[.int .i64 0, .int .i64 0, .int .i64 0, .int .i64 0, .int .i64 0, .int .i64 0]).cells (n * 6)).toList = xs at hown0
  have hlx := hide (show (cellsW L).length = xs.length from by rw [hown0.1, cellsW_len, HN.out])
  clear hxs
  have HO := hide hown0
  have HB := hide hb0
  clear hown0 hb0
  go_loopw [4] (fun i wr => ∃ k : Nat, k ≤ n ∧ i = .int .i64 (k : Int) ∧ wr.ownsRow w.heap.size 30 6 (.slice (some ⟨w.heap.size, 0, none⟩) n n) n (over (cellsW L) xs (k * 6)) ∧ Below w.heap.size w wr) (fun i _ => n - (intOf i).toNat)
  case atStart => exact ⟨0, Nat.zero_le _, rfl, HO.out, HB.out⟩
  case round =>
    obtain ⟨k, hk, rfl, O, q⟩ := hrel
    clear HO HB
    by_cases hlt : k < n
    · have hx : L[k]? = some (L[k]'(by have := HN.out; omega)) := List.getElem?_eq_getElem (by have := HN.out; omega)
      generalize L[k]'(by have := HN.out; omega) = u at hx
      obtain ⟨a0, a1, a2, a3, a4, a5⟩ := (dAt_to q HA.out rfl).cells hx
      have hki : (k : Int) < (n : Int) := by omega
      have HX := hide hx
      have HO := hide O
      have hwg := (O.lt w.heap.size rfl).2
      clear hx O
      go_wp2_with fail
      refine (toDie_any u _).mono ?_
      rintro e w2 ⟨rfl, hb2⟩
      clear a0 a1 a2 a3 a4 a5
      have O2 := own_to hb2 HO.out rfl
      have q2 := below_to hb2 q q.size rfl rfl rfl rfl
      clear hb2 q HO
      have f0 := own_free O2 (k * 6)
      have f1 := own_free O2 (k * 6 + 1)
      have f2 := own_free O2 (k * 6 + 2)
      have f3 := own_free O2 (k * 6 + 3)
      have f4 := own_free O2 (k * 6 + 4)
      have f5 := own_free O2 (k * 6 + 5)
      obtain ⟨v0, p0⟩ := own_has O2 (k * 6) (by omega)
      obtain ⟨v1, p1⟩ := own_has O2 (k * 6 + 1) (by omega)
      obtain ⟨v2, p2⟩ := own_has O2 (k * 6 + 2) (by omega)
      obtain ⟨v3, p3⟩ := own_has O2 (k * 6 + 3) (by omega)
      obtain ⟨v4, p4⟩ := own_has O2 (k * 6 + 4) (by omega)
      obtain ⟨v5, p5⟩ := own_has O2 (k * 6 + 5) (by omega)
      have q3 := hide (below_put6 q2 (Nat.le_refl w.heap.size) (k * 6) u)
      have O3 := hide (over_die O2 HX.out hlx.out HN.out.symm)
      clear O2 q2
      go_wp2
      go_roundw
      case rel => exact ⟨k + 1, by omega, by go_num, O3.out, q3.out⟩
      case measure => simp [intOf] <;> omega
    · obtain rfl : k = n := by omega
      have O3 : wr.ownsRow w.heap.size 30 6 (.slice (some ⟨w.heap.size, 0, none⟩) k k) k (cellsW L) := by
        have := over_done (cellsW L) xs hlx.out
        rw [cellsW_len, ← HN.out] at this
        rw [this] at O
        exact O
      clear O
      go_wp2
      go_returns
      exact HT.out _ _ ⟨_, Nat.le_refl _, rfl, O3, q⟩
theorem toDieS_any (v : Value) (L : List D) (w : World) (h : DsIn w v L) (hn : L.length ≤ 1048576) : Calls Tryd.prog 29 #[v] w (ToDs L w) := by
  rcases h with ⟨p, cap, rfl, rfl⟩ | ⟨g, o, cap, rfl, h2, _, h4⟩
  · exact toDieS_nil p cap w
  · exact toDieS_some g o cap L w h2 hn h4
/-- A row whose first j cells are k, k + 1, .. -/
def markV (k : Int) (xs : List Value) (j : Nat) : List Value := ints (upTo k j) ++ xs.drop j
theorem markV_zero (k : Int) (xs : List Value) : markV k xs 0 = xs := rfl
theorem markV_done (k : Int) (xs : List Value) : markV k xs xs.length = ints (upTo k xs.length) := by simp [markV]
theorem markV_set (k : Int) (xs : List Value) (j : Nat) (h : j < xs.length) : (markV k xs j).set j (.int .i64 (k + (j : Int))) = markV k xs (j + 1) := by
  unfold markV
  have hl : (ints (upTo k j)).length = j := by rw [ints_len, upTo_len]
  rw [List.set_append_right j _ (by omega), hl, Nat.sub_self, List.drop_eq_getElem_cons h]
  have hu : upTo k (j + 1) = upTo k j ++ [k + (j : Int)] := by unfold upTo; rw [List.range_succ, List.map_append]; rfl
  rw [hu, ints_snoc, List.append_assoc]
  rfl
theorem markV_len (k : Int) (xs : List Value) (j : Nat) (h : j ≤ xs.length) : (markV k xs j).length = xs.length := by
  simp [markV, ints_len, upTo_len]
  omega
/-- One cell is marked. -/
theorem mark_one {w : World} {B g n cap : Nat} {e : TypeId} {z : Nat} {k : Int} {xs : List Value} (j : Nat) (h : w.ownsRow B e z (.slice (some ⟨g, 0, none⟩) n cap) n (markV k xs j)) (hj : j < n * z) (hx : xs.length = n * z) :
    (∃ y, w.cell? ⟨g, j, none⟩ = some y) ∧ w.frozen? ⟨g, j, none⟩ = false ∧ (∀ m, m = k + (j : Int) → (w.setCell ⟨g, j, none⟩ (.int .i64 m)).ownsRow B e z (.slice (some ⟨g, 0, none⟩) n cap) n (markV k xs (j + 1))) := by
  refine ⟨?_, own_free h j, ?_⟩
  · rw [h.cellAt j hj]
    exact ⟨_, List.getElem?_eq_getElem (by have := h.1; omega)⟩
  · rintro m rfl
    have := own_put h j hj (.int .i64 (k + (j : Int)))
    rwa [markV_set k xs j (by omega)] at this
theorem upTo_cell {w : World} {B g n cap z N : Nat} {e : TypeId} {k : Int} (h : w.ownsRow B e z (.slice (some ⟨g, 0, none⟩) n cap) n (ints (upTo k N))) (hN : N = n * z) (j : Nat) (hj : j < N) : ∀ m, m = k + (j : Int) → w.cell? ⟨g, j, none⟩ = some (.int .i64 m) := by
  rintro m rfl
  rw [h.cellAt j (by omega)]
  simp [ints, upTo_get k N j hj]
/-- Every block but one stays. -/
structure Kept (o : Option Nat) (w w' : World) : Prop where
  os : w'.os = w.os
  tape : w'.tape = w.tape
  output : w'.output = w.output
  size : w'.heap.size = w.heap.size
  block : ∀ k, o ≠ some k → w'.heap[k]? = w.heap[k]?
theorem Kept.refl (o : Option Nat) (w : World) : Kept o w w := ⟨rfl, rfl, rfl, rfl, fun _ _ => rfl⟩
theorem Kept.set {g : Nat} {a w : World} (h : Kept (some g) a w) (j : Nat) (u : Value) : Kept (some g) a (w.setCell ⟨g, j, none⟩ u) :=
  ⟨h.os, h.tape, h.output, by simp [World.setCell, h.size], fun k hk => (Below.heap_setCell w ⟨g, j, none⟩ u k (fun e => hk (by rw [e]))).trans (h.block k hk)⟩
theorem Kept.below {o : Option Nat} {B : Nat} {w w' : World} (h : Kept o w w') (hB : ∀ g, o = some g → B ≤ g) : Below B w w' :=
  ⟨h.os, h.tape, h.output, Nat.le_of_eq h.size.symm, fun k hk => h.block k (fun e => by have := hB k e; omega)⟩
theorem own_kept {w w' : World} {o : Option Nat} {b : Nat} {e : TypeId} {z : Nat} {v : Value} {n : Nat} {xs : List Value} (hb : Kept o w w') (h : w.ownsRow b e z v n xs) (hl : ∀ g, v.ownBlock = some g → o ≠ some g) : w'.ownsRow b e z v n xs := by
  obtain ⟨h1, h2⟩ := h
  refine ⟨h1, ?_⟩
  rcases h2 with h2 | ⟨g, cap, cur, hv, hg, hh, r⟩
  · exact .inl h2
  · exact .inr ⟨g, cap, cur, hv, hg, by rw [hb.block g (hl g (by rw [hv]; rfl))]; exact hh, r⟩
/-- Two rows of which one is the elder have not the same block. -/
theorem own_apart {w w1 : World} {b b1 : Nat} {e e1 : TypeId} {z z1 : Nat} {v v1 : Value} {n n1 : Nat} {xs xs1 : List Value} (h : w.ownsRow b e z v n xs) (h1 : w1.ownsRow b1 e1 z1 v1 n1 xs1) (hb : w.heap.size ≤ b1) : ∀ g, v1.ownBlock = some g → v.ownBlock ≠ some g := fun g hg hv => by
  have := (h.lt g hv).2
  have := (h1.lt g hg).1
  omega
theorem eqDieS_none (w : World) : Calls Tryd.prog 20 #[.slice none 0 0, .slice none 0 0] w fun e w' => e = .returned (.bool true) ∧ Below w.heap.size w w' := by
  go_enter Tryd.func20, Tryd.ntmps20
  go_wp2
  go_loop [5] (fun i => i = .int .i64 0) (fun _ => 0)
  case atStart => rfl
  case round =>
    subst hrel
    go_wp2
    go_returns
    exact ⟨rfl, Below.refl _ _⟩
theorem eqDieS_noneL (g cap : Nat) (w : World) : Calls Tryd.prog 20 #[.slice none 0 0, .slice (some ⟨g, 0, none⟩) 0 cap] w fun e w' => e = .returned (.bool true) ∧ Below w.heap.size w w' := by
  go_enter Tryd.func20, Tryd.ntmps20
  go_wp2
  go_loop [5] (fun i => i = .int .i64 0) (fun _ => 0)
  case atStart => rfl
  case round =>
    subst hrel
    go_wp2
    go_returns
    exact ⟨rfl, Below.refl _ _⟩
theorem eqDieS_noneR (g cap : Nat) (w : World) : Calls Tryd.prog 20 #[.slice (some ⟨g, 0, none⟩) 0 cap, .slice none 0 0] w fun e w' => e = .returned (.bool true) ∧ Below w.heap.size w w' := by
  go_enter Tryd.func20, Tryd.ntmps20
  go_wp2
  go_loop [5] (fun i => i = .int .i64 0) (fun _ => 0)
  case atStart => rfl
  case round =>
    subst hrel
    go_wp2
    go_returns
    exact ⟨rfl, Below.refl _ _⟩
set_option maxHeartbeats 1600000 in
theorem eqDieS_some (g cap h c2 n : Nat) (B B2 : Nat) (L : List D) (w : World) (hn : n ≤ 1000000000) (ha : w.ownsRow B 30 6 (.slice (some ⟨g, 0, none⟩) n cap) n (cellsW L)) (hb : w.ownsRow B2 30 6 (.slice (some ⟨h, 0, none⟩) n c2) n (cellsW L)) : Calls Tryd.prog 20 #[.slice (some ⟨g, 0, none⟩) n cap, .slice (some ⟨h, 0, none⟩) n c2] w fun e w' => e = .returned (.bool true) ∧ Below w.heap.size w w' := by
  have hl := ha.1
  rw [cellsW_len] at hl
  have HA := hide ha
  have HB := hide hb
  clear ha hb
  go_enter Tryd.func20, Tryd.ntmps20
  go_wp2
  go_loopw [5] (fun i wr => ∃ k : Nat, k ≤ n ∧ i = .int .i64 (k : Int) ∧ wr.ownsRow B 30 6 (.slice (some ⟨g, 0, none⟩) n cap) n (cellsW L) ∧ wr.ownsRow B2 30 6 (.slice (some ⟨h, 0, none⟩) n c2) n (cellsW L) ∧ Below w.heap.size w wr) (fun i _ => n - (intOf i).toNat)
  case atStart => exact ⟨0, Nat.zero_le _, rfl, HA.out, HB.out, Below.refl _ _⟩
  case round =>
    obtain ⟨k, hk, rfl, OA, OB, q⟩ := hrel
    clear HA HB
    by_cases hlt : k < n
    · have hx : L[k]? = some (L[k]'(by omega)) := List.getElem?_eq_getElem (by omega)
      generalize L[k]'(by omega) = u at hx
      obtain ⟨a0, a1, a2, a3, a4, a5⟩ := row6_at k OA hlt hx
      obtain ⟨b0, b1, b2, b3, b4, b5⟩ := row6_at k OB hlt hx
      have hki : (k : Int) < (n : Int) := by omega
      have HOA := hide OA
      have HOB := hide OB
      have HX := hide hx
      clear hx OA OB
      go_upto_region 6 with (fail)
      go_region_held3 (fun w' => w'.cell? ⟨g, k * 6, none⟩ = some (.int .i64 u.t) ∧ w'.cell? ⟨g, k * 6 + 1, none⟩ = some (.int .i64 u.n) ∧ w'.cell? ⟨g, k * 6 + 2, none⟩ = some (.int .i64 u.e) ∧ w'.cell? ⟨g, k * 6 + 3, none⟩ = some (.int .i64 u.s) ∧ w'.cell? ⟨g, k * 6 + 4, none⟩ = some (.int .i64 u.w) ∧ w'.cell? ⟨g, k * 6 + 5, none⟩ = some (.int .i64 u.b) ∧ w'.cell? ⟨h, k * 6, none⟩ = some (.int .i64 u.t) ∧ w'.cell? ⟨h, k * 6 + 1, none⟩ = some (.int .i64 u.n) ∧ w'.cell? ⟨h, k * 6 + 2, none⟩ = some (.int .i64 u.e) ∧ w'.cell? ⟨h, k * 6 + 3, none⟩ = some (.int .i64 u.s) ∧ w'.cell? ⟨h, k * 6 + 4, none⟩ = some (.int .i64 u.w) ∧ w'.cell? ⟨h, k * 6 + 5, none⟩ = some (.int .i64 u.b)) (first | (refine ⟨?_, ?_, ?_, ?_, ?_, ?_, ?_, ?_, ?_, ?_, ?_, ?_⟩ <;> with_reducible assumption) | (refine ⟨?_, ?_, ?_, ?_, ?_, ?_, ?_, ?_, ?_, ?_, ?_, ?_⟩ <;> assumption))
        (first
          | (go_at_call 53; (refine (eqDie_self u _).mono ?_); rintro e w2 ⟨rfl, hb2⟩; have q2 := below_to hb2 q q.size rfl rfl rfl rfl; have OA2 := hide (own_to hb2 HOA.out rfl); have OB2 := hide (own_to hb2 HOB.out rfl); obtain ⟨a0, a1, a2, a3, a4, a5⟩ := row6_at k OA2.out hlt HX.out; obtain ⟨b0, b1, b2, b3, b4, b5⟩ := row6_at k OB2.out hlt HX.out; clear hb2))
      go_wp2
      go_roundw
      case rel => exact ⟨k + 1, by omega, by go_num, OA2.out, OB2.out, q2⟩
      case measure => simp [intOf] <;> omega
    · obtain rfl : k = n := by omega
      clear OA OB
      go_wp2
      go_returns
      exact ⟨rfl, q⟩
theorem eqDieS_any (va vb : Value) (n : Nat) (B B2 : Nat) (L : List D) (w : World) (hn : n ≤ 1000000000) (ha : w.ownsRow B 30 6 va n (cellsW L)) (hb : w.ownsRow B2 30 6 vb n (cellsW L)) : Calls Tryd.prog 20 #[va, vb] w fun e w' => e = .returned (.bool true) ∧ Below w.heap.size w w' := by
  rcases own_forms ha with ⟨rfl, rfl⟩ | ⟨g, cap, rfl, _, _⟩
  · rcases own_forms hb with ⟨rfl, _⟩ | ⟨g, cap, rfl, _, _⟩
    · exact eqDieS_none w
    · exact eqDieS_noneL g cap w
  · rcases own_forms hb with ⟨rfl, rfl⟩ | ⟨g2, cap2, rfl, _, _⟩
    · exact eqDieS_noneR g cap w
    · exact eqDieS_some g cap g2 cap2 n B B2 L w hn ha hb
theorem markDieS_none (k : Int) (w : World) : Calls Tryd.prog 21 #[.slice none 0 0, .int .i64 k] w fun e w' => e = .returned (.int .i64 k) ∧ w = w' := by
  go_enter Tryd.func21, Tryd.ntmps21
  go_wp2
  go_loop [1, 5] (fun x i => x = .int .i64 k ∧ i = .int .i64 0) (fun _ _ => 0)
  case atStart => exact ⟨rfl, rfl⟩
  case round =>
    obtain ⟨rfl, rfl⟩ := hrel
    go_wp2
    go_returns
    exact ⟨rfl, rfl⟩
theorem heldDieS_none (k : Int) (w : World) : Calls Tryd.prog 22 #[.slice none 0 0, .int .i64 k] w fun e w' => e = .returned (.int .i64 k) ∧ w = w' := by
  go_enter Tryd.func22, Tryd.ntmps22
  go_wp2
  go_loop [1, 5] (fun x i => x = .int .i64 k ∧ i = .int .i64 0) (fun _ _ => 0)
  case atStart => exact ⟨rfl, rfl⟩
  case round =>
    obtain ⟨rfl, rfl⟩ := hrel
    go_wp2
    go_returns
    exact ⟨rfl, rfl⟩
set_option maxHeartbeats 3200000 in
theorem markDieS_keptS (g cap n : Nat) (B : Nat) (xs : List Value) (k0 : Int) (w : World) (hn : n ≤ 1048576) (hk0 : 0 ≤ k0 ∧ k0 ≤ 1000000) (ha : w.ownsRow B 30 6 (.slice (some ⟨g, 0, none⟩) n cap) n xs) : Calls Tryd.prog 21 #[.slice (some ⟨g, 0, none⟩) n cap, .int .i64 k0] w fun e w' => e = .returned (.int .i64 (k0 + ((n * 6 : Nat) : Int))) ∧ w'.ownsRow B 30 6 (.slice (some ⟨g, 0, none⟩) n cap) n (ints (upTo k0 (n * 6))) ∧ Kept (some g) w w' := by
  have hl := ha.1
  have HA := hide ha
  clear ha
  go_enter Tryd.func21, Tryd.ntmps21
  go_wp2
  go_loopw [1, 5] (fun x i wr => ∃ k : Nat, k ≤ n ∧ i = .int .i64 (k : Int) ∧ x = .int .i64 (k0 + ((k * 6 : Nat) : Int)) ∧ wr.ownsRow B 30 6 (.slice (some ⟨g, 0, none⟩) n cap) n (markV k0 xs (k * 6)) ∧ Kept (some g) w wr) (fun _ i _ => n - (intOf i).toNat)
  case atStart => exact ⟨0, Nat.zero_le _, rfl, by rw [show k0 + ((0 * 6 : Nat) : Int) = k0 from by omega], HA.out, Kept.refl _ _⟩
  case round =>
    obtain ⟨k, hk, rfl, rfl, O0, q0⟩ := hrel
    clear HA
    by_cases hlt : k < n
    · obtain ⟨m0, e0⟩ : ∃ x, x = k0 + ((k * 6 : Nat) : Int) := ⟨_, rfl⟩
      rw [← e0]
      obtain ⟨m1, e1⟩ : ∃ x, x = m0 + 1 := ⟨_, rfl⟩
      have r1 : IntKind.i64.wrap (m0 + 1) = m1 := by rw [e1]; exact IntWalk.i64_in _ (by omega)
      obtain ⟨m2, e2⟩ : ∃ x, x = m1 + 1 := ⟨_, rfl⟩
      have r2 : IntKind.i64.wrap (m1 + 1) = m2 := by rw [e2]; exact IntWalk.i64_in _ (by omega)
      obtain ⟨m3, e3⟩ : ∃ x, x = m2 + 1 := ⟨_, rfl⟩
      have r3 : IntKind.i64.wrap (m2 + 1) = m3 := by rw [e3]; exact IntWalk.i64_in _ (by omega)
      obtain ⟨m4, e4⟩ : ∃ x, x = m3 + 1 := ⟨_, rfl⟩
      have r4 : IntKind.i64.wrap (m3 + 1) = m4 := by rw [e4]; exact IntWalk.i64_in _ (by omega)
      obtain ⟨m5, e5⟩ : ∃ x, x = m4 + 1 := ⟨_, rfl⟩
      have r5 : IntKind.i64.wrap (m4 + 1) = m5 := by rw [e5]; exact IntWalk.i64_in _ (by omega)
      obtain ⟨m6, e6⟩ : ∃ x, x = m5 + 1 := ⟨_, rfl⟩
      have r6 : IntKind.i64.wrap (m5 + 1) = m6 := by rw [e6]; exact IntWalk.i64_in _ (by omega)
      have E0 := hide e0
      have E1 := hide e1
      have E2 := hide e2
      have E3 := hide e3
      have E4 := hide e4
      have E5 := hide e5
      have E6 := hide e6
      clear e0 e1 e2 e3 e4 e5 e6
      have hki : (k : Int) < (n : Int) := by omega
      have O0 : wr.ownsRow B 30 6 (.slice (some ⟨g, 0, none⟩) n cap) n (markV k0 xs (k * 6 + 0)) := O0
      obtain ⟨⟨y0, c0⟩, f0, P0⟩ := mark_one (k * 6 + 0) O0 (by omega) (by omega)
      have O1 := P0 m0 (by rw [E0.out]; omega)
      have q1 := q0.set (k * 6 + 0) (.int .i64 m0)
      clear P0 O0 q0
      try rw [Nat.add_zero] at c0 f0 O1 q1
      go_upto_region 6 with (fail)
      clear c0 f0
      generalize World.setCell _ _ _ = W1 at O1 q1 ⊢
      obtain ⟨⟨y1, c1⟩, f1, P1⟩ := mark_one (k * 6 + 1) O1 (by omega) (by omega)
      have O2 := P1 m1 (by rw [E1.out, E0.out]; omega)
      have q2 := q1.set (k * 6 + 1) (.int .i64 m1)
      clear P1 O1 q1
      try rw [Nat.add_zero] at c1 f1 O2 q2
      go_upto_region 8 with (fail)
      clear c1 f1
      generalize World.setCell _ _ _ = W2 at O2 q2 ⊢
      obtain ⟨⟨y2, c2⟩, f2, P2⟩ := mark_one (k * 6 + 2) O2 (by omega) (by omega)
      have O3 := P2 m2 (by rw [E2.out, E1.out, E0.out]; omega)
      have q3 := q2.set (k * 6 + 2) (.int .i64 m2)
      clear P2 O2 q2
      try rw [Nat.add_zero] at c2 f2 O3 q3
      go_upto_region 10 with (fail)
      clear c2 f2
      generalize World.setCell _ _ _ = W3 at O3 q3 ⊢
      obtain ⟨⟨y3, c3⟩, f3, P3⟩ := mark_one (k * 6 + 3) O3 (by omega) (by omega)
      have O4 := P3 m3 (by rw [E3.out, E2.out, E1.out, E0.out]; omega)
      have q4 := q3.set (k * 6 + 3) (.int .i64 m3)
      clear P3 O3 q3
      try rw [Nat.add_zero] at c3 f3 O4 q4
      go_upto_region 12 with (fail)
      clear c3 f3
      generalize World.setCell _ _ _ = W4 at O4 q4 ⊢
      obtain ⟨⟨y4, c4⟩, f4, P4⟩ := mark_one (k * 6 + 4) O4 (by omega) (by omega)
      have O5 := P4 m4 (by rw [E4.out, E3.out, E2.out, E1.out, E0.out]; omega)
      have q5 := q4.set (k * 6 + 4) (.int .i64 m4)
      clear P4 O4 q4
      try rw [Nat.add_zero] at c4 f4 O5 q5
      go_upto_region 14 with (fail)
      clear c4 f4
      generalize World.setCell _ _ _ = W5 at O5 q5 ⊢
      obtain ⟨⟨y5, c5⟩, f5, P5⟩ := mark_one (k * 6 + 5) O5 (by omega) (by omega)
      have O6 := P5 m5 (by rw [E5.out, E4.out, E3.out, E2.out, E1.out, E0.out]; omega)
      have q6 := q5.set (k * 6 + 5) (.int .i64 m5)
      clear P5 O5 q5
      try rw [Nat.add_zero] at c5 f5 O6 q6
      go_upto_region 3 with (fail)
      clear c5 f5
      generalize World.setCell _ _ _ = W6 at O6 q6 ⊢
      have HO := hide O6
      clear O6
      go_wp2
      go_roundw
      case rel => exact ⟨k + 1, by omega, by go_num, by rw [E6.out, E5.out, E4.out, E3.out, E2.out, E1.out, E0.out]; congr 1; omega, by rw [show (k + 1) * 6 = k * 6 + 5 + 1 from by omega]; exact HO.out, q6⟩
      case measure => simp [intOf] <;> omega
    · obtain rfl : k = n := by omega
      rw [← hl, markV_done, hl] at O0
      have HO := hide O0
      clear O0
      go_wp2
      go_returns
      exact ⟨rfl, HO.out, q0⟩
theorem markDieS_kept (va : Value) (n : Nat) (B : Nat) (L : List D) (k0 : Int) (w : World) (hn : n ≤ 1048576) (hk0 : 0 ≤ k0 ∧ k0 ≤ 1000000) (ha : w.ownsRow B 30 6 va n (cellsW L)) : Calls Tryd.prog 21 #[va, .int .i64 k0] w fun e w' => e = .returned (.int .i64 (k0 + ((n * 6 : Nat) : Int))) ∧ w'.ownsRow B 30 6 va n (ints (upTo k0 (n * 6))) ∧ Kept va.ownBlock w w' := by
  rcases own_forms ha with ⟨rfl, rfl⟩ | ⟨g, cap, rfl, hB, _⟩
  · refine (markDieS_none k0 w).mono ?_
    rintro e w' ⟨rfl, rfl⟩
    exact ⟨by rw [show k0 + ((0 * 6 : Nat) : Int) = k0 from by omega], World.ownsRow_nil _ _ _ _, Kept.refl _ _⟩
  · exact markDieS_keptS g cap n B _ k0 w hn hk0 ha
theorem markDieS_any (va : Value) (n : Nat) (B : Nat) (L : List D) (k0 : Int) (w : World) (hn : n ≤ 1000000) (hk0 : 0 ≤ k0 ∧ k0 ≤ 1000000) (ha : w.ownsRow B 30 6 va n (cellsW L)) : Calls Tryd.prog 21 #[va, .int .i64 k0] w fun e w' => e = .returned (.int .i64 (k0 + ((n * 6 : Nat) : Int))) ∧ w'.ownsRow B 30 6 va n (ints (upTo k0 (n * 6))) ∧ Below B w w' :=
  (markDieS_kept va n B L k0 w (by omega) hk0 ha).mono fun e w' h => ⟨h.1, h.2.1, h.2.2.below (fun g hg => (ha.lt g hg).1)⟩
set_option maxHeartbeats 3200000 in
theorem heldDieS_some (g cap n : Nat) (B : Nat) (k0 : Int) (w : World) (hn : n ≤ 1000000) (hk0 : 0 ≤ k0 ∧ k0 ≤ 1000000) (ha : w.ownsRow B 30 6 (.slice (some ⟨g, 0, none⟩) n cap) n (ints (upTo k0 (n * 6)))) : Calls Tryd.prog 22 #[.slice (some ⟨g, 0, none⟩) n cap, .int .i64 k0] w fun e w' => e = .returned (.int .i64 (k0 + ((n * 6 : Nat) : Int))) ∧ w = w' := by
  have HA := hide ha
  clear ha
  go_enter Tryd.func22, Tryd.ntmps22
  go_wp2
  go_loop [1, 5] (fun x i => ∃ k : Nat, k ≤ n ∧ i = .int .i64 (k : Int) ∧ x = .int .i64 (k0 + ((k * 6 : Nat) : Int))) (fun _ i => n - (intOf i).toNat)
  case atStart => exact ⟨0, Nat.zero_le _, rfl, by rw [show k0 + ((0 * 6 : Nat) : Int) = k0 from by omega]⟩
  case round =>
    obtain ⟨k, hk, rfl, rfl⟩ := hrel
    by_cases hlt : k < n
    · obtain ⟨m0, e0⟩ : ∃ x, x = k0 + ((k * 6 : Nat) : Int) := ⟨_, rfl⟩
      rw [← e0]
      obtain ⟨m1, e1⟩ : ∃ x, x = m0 + 1 := ⟨_, rfl⟩
      have r1 : IntKind.i64.wrap (m0 + 1) = m1 := by rw [e1]; exact IntWalk.i64_in _ (by omega)
      obtain ⟨m2, e2⟩ : ∃ x, x = m1 + 1 := ⟨_, rfl⟩
      have r2 : IntKind.i64.wrap (m1 + 1) = m2 := by rw [e2]; exact IntWalk.i64_in _ (by omega)
      obtain ⟨m3, e3⟩ : ∃ x, x = m2 + 1 := ⟨_, rfl⟩
      have r3 : IntKind.i64.wrap (m2 + 1) = m3 := by rw [e3]; exact IntWalk.i64_in _ (by omega)
      obtain ⟨m4, e4⟩ : ∃ x, x = m3 + 1 := ⟨_, rfl⟩
      have r4 : IntKind.i64.wrap (m3 + 1) = m4 := by rw [e4]; exact IntWalk.i64_in _ (by omega)
      obtain ⟨m5, e5⟩ : ∃ x, x = m4 + 1 := ⟨_, rfl⟩
      have r5 : IntKind.i64.wrap (m4 + 1) = m5 := by rw [e5]; exact IntWalk.i64_in _ (by omega)
      obtain ⟨m6, e6⟩ : ∃ x, x = m5 + 1 := ⟨_, rfl⟩
      have r6 : IntKind.i64.wrap (m5 + 1) = m6 := by rw [e6]; exact IntWalk.i64_in _ (by omega)
      have E0 := hide e0
      have E1 := hide e1
      have E2 := hide e2
      have E3 := hide e3
      have E4 := hide e4
      have E5 := hide e5
      have E6 := hide e6
      clear e0 e1 e2 e3 e4 e5 e6
      have hki : (k : Int) < (n : Int) := by omega
      have c0 := upTo_cell HA.out rfl (k * 6 + 0) (by omega) m0 (by rw [E0.out]; omega)
      have c1 := upTo_cell HA.out rfl (k * 6 + 1) (by omega) m1 (by rw [E1.out, E0.out]; omega)
      have c2 := upTo_cell HA.out rfl (k * 6 + 2) (by omega) m2 (by rw [E2.out, E1.out, E0.out]; omega)
      have c3 := upTo_cell HA.out rfl (k * 6 + 3) (by omega) m3 (by rw [E3.out, E2.out, E1.out, E0.out]; omega)
      have c4 := upTo_cell HA.out rfl (k * 6 + 4) (by omega) m4 (by rw [E4.out, E3.out, E2.out, E1.out, E0.out]; omega)
      have c5 := upTo_cell HA.out rfl (k * 6 + 5) (by omega) m5 (by rw [E5.out, E4.out, E3.out, E2.out, E1.out, E0.out]; omega)
      rw [Nat.add_zero] at c0
      have w1q : IntKind.i64.wrap ((k : Int) + 1) = (k : Int) + 1 := IntWalk.i64_in _ (by omega)
      go_wp2
      go_round
      case rel => exact ⟨k + 1, by omega, by go_num, by rw [E6.out, E5.out, E4.out, E3.out, E2.out, E1.out, E0.out]; congr 1; omega⟩
      case measure => simp [intOf] <;> omega
    · obtain rfl : k = n := by omega
      go_wp2
      go_returns
      exact ⟨rfl, rfl⟩
theorem heldDieS_any (va : Value) (n : Nat) (B : Nat) (k0 : Int) (w : World) (hn : n ≤ 1000000) (hk0 : 0 ≤ k0 ∧ k0 ≤ 1000000) (ha : w.ownsRow B 30 6 va n (ints (upTo k0 (n * 6)))) : Calls Tryd.prog 22 #[va, .int .i64 k0] w fun e w' => e = .returned (.int .i64 (k0 + ((n * 6 : Nat) : Int))) ∧ w = w' := by
  rcases own_forms ha with ⟨rfl, rfl⟩ | ⟨g, cap, rfl, hB, _⟩
  · refine (heldDieS_none k0 w).mono ?_
    rintro e w' ⟨rfl, rfl⟩
    exact ⟨by rw [show k0 + ((0 * 6 : Nat) : Int) = k0 from by omega], rfl⟩
  · exact heldDieS_some g cap n B k0 w hn hk0 ha
end Go.Proofs.YtjikpkembcnfnaaDoor
