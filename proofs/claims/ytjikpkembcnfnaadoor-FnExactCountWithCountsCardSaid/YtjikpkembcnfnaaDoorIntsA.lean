/- Slices of integers as arguments: toIntS. -/
import Derived.Test.YtjikpkembcnfnaaDoorDieSB
namespace Go.Proofs.YtjikpkembcnfnaaDoor
set_option maxRecDepth 100000
set_option linter.all false
open Go.Joins Go.ChangeShapes Go.WideShapes Go.RowKit

/-- Integers stand in memory, from cell o of block g on. -/
def IAt (w : World) (g o : Nat) (L : List Int) : Prop := g < w.heap.size ∧ ∀ (j : Nat) (x : Int), L[j]? = some x → w.cell? ⟨g, o + j, none⟩ = some (.int .i64 x)
theorem iAt_to {w w0 w1 : World} {g o : Nat} {L : List Int} (hb : Below w0.heap.size w0 w1) (h : IAt w g o L) (e : w0.heap = w.heap) : IAt w1 g o L := by
  have hs := hb.size
  refine ⟨by rw [e] at hs; have := h.1; omega, fun j x hj => ?_⟩
  rw [hb.cell (p := ⟨g, _, none⟩) (by rw [e]; exact h.1)]
  have h5 : w0.heap[(⟨g, o + j, none⟩ : Addr).block]? = w.heap[(⟨g, o + j, none⟩ : Addr).block]? := by rw [e]
  rw [World.cell?_of_block h5]
  exact h.2 j x hj
theorem iAt_own {w : World} {B g n cap : Nat} {L : List Int} (O : w.ownsRow B 3 1 (.slice (some ⟨g, 0, none⟩) n cap) n (ints L)) : IAt w g 0 L :=
  ⟨(O.lt g rfl).2, fun j x hj => by rw [Nat.zero_add]; exact ints_cell O j x hj⟩
theorem iAt_tail {w : World} {g o : Nat} {x : Int} {L : List Int} (h : IAt w g o (x :: L)) : IAt w g (o + 1) L :=
  ⟨h.1, fun j y hj => by have := h.2 (j + 1) y (by simpa using hj); rwa [show o + 1 + j = o + (j + 1) by omega]⟩
theorem iAt_alloc {w : World} {g o : Nat} {L : List Int} (h : IAt w g o L) (ob : Obj) : IAt (w.alloc ob) g o L := iAt_to (w0 := w) ((Below.refl _ _).alloc (Nat.le_refl _) _) h rfl
/-- A value that is a slice of integers. -/
def IsIn (w : World) (v : Value) (L : List Int) : Prop :=
  (∃ p cap, v = .slice p 0 cap ∧ L = []) ∨ (∃ g o cap, v = .slice (some ⟨g, o, none⟩) L.length cap ∧ 0 < L.length ∧ L.length ≤ maxLen ∧ IAt w g o L)
theorem isIn_to {w w0 w1 : World} {v : Value} {L : List Int} (hb : Below w0.heap.size w0 w1) (h : IsIn w v L) (e : w0.heap = w.heap) : IsIn w1 v L := by
  rcases h with h | ⟨g, o, cap, h1, h2, h3, h4⟩
  · exact .inl h
  · exact .inr ⟨g, o, cap, h1, h2, h3, iAt_to hb h4 e⟩
theorem open_ints {H : Type} {enc : TypeId × Value → H} {w : World} {base : Nat} {spare : Nat → Bool} {held : Bool} {r : Reach} {b0 : Nat} {v : Value} {x : DataW H} {p : List MemPlace}
    (hv : Value.okWide Tryd.prog w r b0 45 v) (h : DataW.Trod enc Tryd.prog w base spare held 45 v x p) : ∃ L : List Int, IsIn w v L := by
  obtain ⟨a0, len0, cap0, rfl⟩ := okWide_slice Tryd.underlying45 hv
  obtain ⟨fuel, hf⟩ := h
  have hc1' : Tryd.prog.cellsOf 3 = 1 := by kernel_rfl
  rcases Go.Deep.open_slice Tryd.underlying45 hf with ⟨h1, _⟩ | ⟨a, len, cap, m, n, Dd, Pl, hcs, hb, hl, hm, hmm, hx, hi⟩
  · simp [Value.cells] at h1
    obtain ⟨rfl, rfl, rfl⟩ := h1
    exact ⟨[], .inl ⟨none, 0, rfl, rfl⟩⟩
  · simp [Value.cells] at hcs
    obtain ⟨rfl, rfl, rfl⟩ := hcs
    have hlm : len0 ≤ m := by rw [hmm]; split <;> omega
    have hc : ∀ i, i < len0 → ∃ s : Int, w.cell? (a.add i) = some (.int .i64 s) := by
      intro i hil
      obtain ⟨cs', hc1, hc2⟩ := hi i (by omega)
      rw [hc1'] at hc1
      obtain ⟨_, hcl, hat⟩ := World.cells?_some hc1
      match cs', hcl with
      | [c], _ =>
        obtain ⟨s, rfl⟩ := one_intD c _ hc2
        have := hat 0 (by omega)
        rw [Go.Deep.add_add] at this
        refine ⟨s, ?_⟩
        simpa using this
    obtain ⟨f, hf2⟩ := Go.Deep.choose_lt hc
    by_cases h0 : len0 = 0
    · subst h0
      exact ⟨[], .inl ⟨some a, cap0, rfl, rfl⟩⟩
    · obtain ⟨b, off, spot⟩ := a
      have hspot : spot = none := by
        have := hf2 0 (by omega)
        simpa [Addr.add] using World.cell?_spot this
      subst hspot
      refine ⟨(List.range len0).map f, .inr ⟨b, off, cap0, by simp, by simp; omega, by simp; omega, ?_, ?_⟩⟩
      · exact World.block_lt_of_cell? w _ (hf2 0 (by omega))
      · intro i s hs
        have hil : i < len0 := by
          have := (List.getElem?_eq_some_iff.1 hs).1
          simpa using this
        rw [List.getElem?_map, List.getElem?_range hil] at hs
        obtain rfl : f i = s := by simpa using hs
        have := hf2 i hil
        rw [Go.WideShapes.add_plain] at this
        exact this
/-- What toIntS hands back. -/
def ToIs (L : List Int) (w : World) (e : Ending) (w' : World) : Prop := ∃ g, w.heap.size ≤ g ∧ e = .returned (.slice (some ⟨g, 0, none⟩) L.length L.length) ∧ w'.ownsRow w.heap.size 3 1 (.slice (some ⟨g, 0, none⟩) L.length L.length) L.length (ints L) ∧ Below w.heap.size w w'
set_option maxHeartbeats 1600000 in
theorem toIntS_nil (p : Option Addr) (cap : Nat) (w : World) : Calls Tryd.prog 24 #[.slice p 0 cap] w (ToIs [] w) := by
  obtain ⟨i0, hi, hz0, hz1, hz2⟩ := info_parts info_intI
  have HI := hide hi
  have HZ0 := hide hz0
  have HZ1 := hide hz1
  have HZ2 := hide hz2
  clear hi hz0 hz1 hz2
  go_enter Tryd.func24, Tryd.ntmps24
  go_wp2_with (at_make; refine wpList_make_full _ rfl _ _ 45 rfl w.heap.size 3 i0 (.int .i64 0) 1 Tryd.underlying45 HI.out HZ0.out HZ1.out .i64 .i64 _ _ 0 rfl rfl rfl rfl (by rw [HZ2.out]; omega) (by unfold maxLen; omega) (Nat.le_refl _) ?_; intro w0 hown0 hgrow0)
  have hb0 : Below w.heap.size w w0 := (Below.refl _ _).grown hgrow0 (Nat.le_refl _) (fun k hk => by cases hk)
  clear hgrow0
  go_loop [4] (fun i => i = .int .i64 0) (fun _ => 0)
  case atStart => rfl
  case round =>
    subst hrel
    go_wp2
    go_returns
    exact ⟨_, Nat.le_refl _, rfl, by simpa [ints, madeCells] using hown0, hb0⟩
set_option maxHeartbeats 3200000 in
theorem toIntS_some (b o cap : Nat) (L : List Int) (w : World) (h0 : 0 < L.length) (hn : L.length ≤ 1048576) (h : IAt w b o L) : Calls Tryd.prog 24 #[.slice (some ⟨b, o, none⟩) L.length cap] w (ToIs L w) := by
  obtain ⟨i0, hi, hz0, hz1, hz2⟩ := info_parts info_intI
  have HI := hide hi
  have HZ0 := hide hz0
  have HZ1 := hide hz1
  have HZ2 := hide hz2
  clear hi hz0 hz1 hz2
  have HA := hide h
  have hbw : b < w.heap.size := h.1
  clear h
  obtain ⟨n, hN⟩ : ∃ n, n = L.length := ⟨_, rfl⟩
  have HT := hide (show ∀ (e : Ending) (w' : World), (∃ g, w.heap.size ≤ g ∧ e = .returned (.slice (some ⟨g, 0, none⟩) n n) ∧ w'.ownsRow w.heap.size 3 1 (.slice (some ⟨g, 0, none⟩) n n) n (ints L) ∧ Below w.heap.size w w') → ToIs L w e w' from by
    subst hN
    exact fun e w' h => h)
  rw [← hN] at h0 hn ⊢
  have HN := hide hN
  clear hN
  go_enter Tryd.func24, Tryd.ntmps24
  go_wp2_with (at_make; refine wpList_make_full _ rfl _ _ 45 rfl w.heap.size 3 i0 (.int .i64 0) 1 Tryd.underlying45 HI.out HZ0.out HZ1.out .i64 .i64 _ _ n rfl rfl rfl rfl (by rw [HZ2.out]; omega) (by unfold maxLen; omega) (Nat.le_refl _) ?_; intro w0 hown0 hgrow0)
  have hb0 : Below w.heap.size w w0 := (Below.refl _ _).grown hgrow0 (Nat.le_refl _) (fun k hk => by cases hk)
  clear hgrow0
  generalize hxs : (madeCells (Value.int .i64 0).cells (n * 1)).toList = xs at hown0
  have hlx := hide (show (ints L).length = xs.length from by rw [hown0.1, ints_len, HN.out]; omega)
  clear hxs
  have HO := hide hown0
  have HB := hide hb0
  clear hown0 hb0
  go_loopw [4] (fun i wr => ∃ k : Nat, k ≤ n ∧ i = .int .i64 (k : Int) ∧ wr.ownsRow w.heap.size 3 1 (.slice (some ⟨w.heap.size, 0, none⟩) n n) n (over (ints L) xs k) ∧ Below w.heap.size w wr) (fun i _ => n - (intOf i).toNat)
  case atStart => exact ⟨0, Nat.zero_le _, rfl, HO.out, HB.out⟩
  case round =>
    obtain ⟨k, hk, rfl, O, q⟩ := hrel
    clear HO HB
    by_cases hlt : k < n
    · have hx : L[k]? = some (L[k]'(by have := HN.out; omega)) := List.getElem?_eq_getElem (by have := HN.out; omega)
      generalize L[k]'(by have := HN.out; omega) = u at hx
      have a0 := (iAt_to q HA.out rfl).2 k u hx
      have hki : (k : Int) < (n : Int) := by omega
      have f0 := own_free O k
      obtain ⟨v0, p0⟩ := own_has O k (by omega)
      have q3 := hide (q.setCell (p := ⟨w.heap.size, k, none⟩) (Nat.le_refl _) (.int .i64 u))
      have O3 := hide (over_one O (show (ints L)[k]? = some (.int .i64 u) from by simp [ints, hx]) hlx.out (by rw [ints_len, HN.out]; omega))
      clear O q hx
      go_wp2
      go_roundw
      case rel => exact ⟨k + 1, by omega, by go_num, O3.out, q3.out⟩
      case measure => simp [intOf] <;> omega
    · obtain rfl : k = n := by omega
      have O3 : wr.ownsRow w.heap.size 3 1 (.slice (some ⟨w.heap.size, 0, none⟩) k k) k (ints L) := by
        have := over_done (ints L) xs hlx.out
        rw [ints_len, ← HN.out] at this
        rw [this] at O
        exact O
      clear O
      go_wp2
      go_returns
      exact HT.out _ _ ⟨_, Nat.le_refl _, rfl, O3, q⟩
theorem toIntS_any (v : Value) (L : List Int) (w : World) (h : IsIn w v L) (hn : L.length ≤ 1048576) : Calls Tryd.prog 24 #[v] w (ToIs L w) := by
  rcases h with ⟨p, cap, rfl, rfl⟩ | ⟨g, o, cap, rfl, h2, _, h4⟩
  · exact toIntS_nil p cap w
  · exact toIntS_some g o cap L w h2 hn h4
end Go.Proofs.YtjikpkembcnfnaaDoor
