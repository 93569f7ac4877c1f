/- Labels written along a way: the plain sequence, and what it is in memory. -/
import Derived.Test.YtmlfkcmmjmdhmaaDoorBoard
import Derived.Test.YtmlfkcmmjmdhmaaDoorWayA
import Derived.Test.YtmlfkcmmjmdhmaaDoorWalksFL
import Derived.Test.YtmlfkcmmjmdhmaaDoorWalksMH
namespace Go.Proofs.YtmlfkcmmjmdhmaaDoor
set_option maxRecDepth 100000
set_option linter.all false
open Go.RowKit

/-- The text behind the first k states: each has written its label at its cell. -/
def prS (f : D → Int) (W : Nat) (t : St) (Lw : List UInt8) (S0 : List UInt8) : Nat → List UInt8
  | 0 => S0
  | k + 1 => (prS f W t Lw S0 k).set ((atT t Lw k).y.toNat * (W + 1) + (atT t Lw k).x.toNat) (lab (f (atT t Lw k).d))
theorem prS_len (f : D → Int) (W : Nat) (t : St) (Lw S0 : List UInt8) : ∀ k, (prS f W t Lw S0 k).length = S0.length
  | 0 => rfl
  | k + 1 => by rw [prS, List.length_set, prS_len f W t Lw S0 k]
theorem floor_cell {S : List UInt8} {W : Nat} (he : Even S W) {x y : Nat} (hx : x < W) (hy : y < (splitP S).length) (hf : floorL (unlab S) x y = true) : ∃ d, S[y * (W + 1) + x]? = some d ∧ d = cellI (splitP S) x y ∧ unl d = 46 := by
  obtain ⟨h1, -⟩ := even_cell he (k := y) (j := x) hy hx
  exact ⟨_, h1, rfl, floor_unl hf⟩
theorem prS_ok {l : List UInt8} {W H n : Nat} (hg : GridOk l W H n) (f : D → Int) (t : St) (Lw : List UInt8) (N : Nat) (hfl : ∀ j, j ≤ N → floorL l (atT t Lw j).x (atT t Lw j).y = true) (hf : ∀ j, 0 ≤ f (atT t Lw j).d ∧ f (atT t Lw j).d ≤ 9) :
    ∀ k, k ≤ N + 1 → Even (prS f W t Lw l k) W ∧ (splitP (prS f W t Lw l k)).length = H ∧ unlab (prS f W t Lw l k) = l := by
  intro k
  induction k with
  | zero =>
    intro _
    have he := bd_even hg.1
    rw [hg.2.1] at he
    exact ⟨he, hg.2.2.1, bd_unlab hg.1⟩
  | succ k ih =>
    intro hk
    obtain ⟨e1, e2, e3⟩ := ih (by omega)
    have hfk := hfl k (by omega)
    obtain ⟨x, y, hx, hy, hxW, hyH⟩ := floor_in hg hfk
    rw [prS, hx, hy, Int.toNat_natCast, Int.toNat_natCast]
    rw [hx, hy] at hfk
    obtain ⟨d, hd1, -, hd3⟩ := floor_cell (x := x) (y := y) e1 hxW (by omega) (by rw [e3]; exact hfk)
    have hfa := hf k
    obtain ⟨p1, p2, p3⟩ := put_even e1 (by omega : y < (splitP (prS f W t Lw l k)).length) hxW (lab (f (atT t Lw k).d)) (lab_not47 hfa.1 hfa.2)
    exact ⟨p1, by rw [p2]; exact e2, by rw [unlab_put hd1 hd3 (lab_dig hfa.1 hfa.2)]; exact e3⟩
theorem prS_flat {l : List UInt8} {W H n : Nat} (hg : GridOk l W H n) (f : D → Int) (t : St) (Lw : List UInt8) (N : Nat) (hfl : ∀ j, j ≤ N → floorL l (atT t Lw j).x (atT t Lw j).y = true) (hf : ∀ j, 0 ≤ f (atT t Lw j).d ∧ f (atT t Lw j).d ≤ 9) (k : Nat) (hk : k ≤ N) :
    (splitP (prS f W t Lw l (k + 1))).flatten = (splitP (prS f W t Lw l k)).flatten.set ((atT t Lw k).y.toNat * W + (atT t Lw k).x.toNat) (lab (f (atT t Lw k).d)) := by
  obtain ⟨e1, e2, e3⟩ := prS_ok hg f t Lw N hfl hf k (by omega)
  obtain ⟨x, y, hx, hy, hxW, hyH⟩ := floor_in hg (hfl k hk)
  rw [prS, hx, hy, Int.toNat_natCast, Int.toNat_natCast]
  exact (put_even e1 (by omega) hxW _ (lab_not47 (hf k).1 (hf k).2)).2.2
theorem bytesV_set (L : List UInt8) (j : Nat) (c : UInt8) : (bytesV L).set j (.int .u8 (c.toNat : Int)) = bytesV (L.set j c) := by simp [bytesV, List.map_set]
theorem lab_ne {w : World} {h g : Nat} {L : List UInt8} {W H : Nat} (hl : LabAt w h g L W H) (hH : 0 < H) (hL : 0 < L.length) : h ≠ g := by
  rintro rfl
  have h1 := hl.2.2 0 hH
  have h2 := (hl.2.1.cell (List.getElem?_eq_getElem hL)).1
  rw [h1] at h2
  cases h2
theorem labAt_put {w : World} {h g : Nat} {L : List UInt8} {W H : Nat} (hl : LabAt w h g L W H) (hne : h ≠ g) {p : Nat} (hp : p < L.length) (c : UInt8) : LabAt (w.setCell ⟨g, p, none⟩ (.int .u8 (c.toNat : Int))) h g (L.set p c) W H := by
  obtain ⟨h1, h2, h3⟩ := hl
  refine ⟨by simpa using h1, h2.put hp c, fun k hk => ?_⟩
  rw [World.cell?_setCell_other _ _ _ _ (fun e => hne (by injection e with e1; exact e1.symm))]
  exact h3 k hk
theorem labAt_alloc {w : World} {h g : Nat} {L : List UInt8} {W H : Nat} (hl : LabAt w h g L W H) (o : Obj) : LabAt (w.alloc o) h g L W H := labAt_to ((Below.refl _ _).alloc (Nat.le_refl _) _) hl rfl
/-- The model's text of a labelled board. -/
theorem prText_any (S : List UInt8) (W H n g cap gl capl : Nat) (he : Even S W) (hH : (splitP S).length = H) (hW : 1 ≤ W ∧ W ≤ 7) (hH7 : 1 ≤ H ∧ H ≤ 7) (hn : n = W * H) (hcap : n ≤ capl) (w : World) (hA : ∀ j c, (splitP S).flatten[j]? = some c → w.cell? ⟨gl, j, none⟩ = some (.int .u8 (c.toNat : Int))) (hgl : gl < w.heap.size) :
    Calls Tryd.prog 18 #[gridV W H n g cap, .slice (some ⟨gl, 0, none⟩) n capl] w fun e w' => e = .returned (.string ⟨S.toArray⟩) ∧ Below w.heap.size w w' := by
  have q0 : Below w.heap.size w (w.alloc (.cells #[.int .i64 (W : Int), .int .i64 (H : Int), .slice (some ⟨g, 0, none⟩) n cap] 43)) := by go_grown
  have HT := hide (boText_even S W H n gl capl he hH hW hH7 hn hcap (w.alloc (.cells #[.int .i64 (W : Int), .int .i64 (H : Int), .slice (some ⟨g, 0, none⟩) n cap] 43)) (fun j c hc => by rw [q0.cell (p := ⟨gl, j, none⟩) hgl]; exact hA j c hc) (by simp; omega))
  have G0 := IsG.new (w := w) (x := (W : Int)) (y := (H : Int)) (v := .slice (some ⟨g, 0, none⟩) n cap)
  obtain ⟨l0, ⟨a0, a1, a2⟩, -⟩ := G0.all
  clear he hH hn hA hcap
  go_enter Tryd.func18, Tryd.ntmps18
  go_wp2_with fail
  refine HT.out.mono ?_
  rintro e w1 ⟨rfl, hb1⟩
  go_wp2
  go_returns
  exact ⟨rfl, below_after q0 hb1 q0.size⟩
end Go.Proofs.YtmlfkcmmjmdhmaaDoor
