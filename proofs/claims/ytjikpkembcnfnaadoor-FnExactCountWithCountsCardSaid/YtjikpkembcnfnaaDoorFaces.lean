/- Contracts of the model's small functions: units, turns, mirrored dice. No condition. -/
import Derived.Test.YtjikpkembcnfnaaDoorBase
import Derived.StillTailTactics
namespace Go.Proofs.YtjikpkembcnfnaaDoor
set_option maxRecDepth 100000
set_option linter.all false
open Go.RowKit

theorem diMirror_any (d : D) (w : World) :
    Calls Tryd.prog 45 #[D.v d] w fun e w' => e = .returned (D.v (mirrorD d)) ∧ Below w.heap.size w w' := by
  go_enter Tryd.func45, Tryd.ntmps45
  go_wp2
  go_returns
  exact ⟨rfl, by go_grown⟩

theorem markedDie_any (w : World) :
    Calls Tryd.prog 73 #[] w fun e w' => e = .returned (D.v ⟨1, 2, 3, 4, 5, 6⟩) ∧ Below w.heap.size w w' := by
  go_enter Tryd.func73, Tryd.ntmps73
  go_wp2
  go_returns
  exact ⟨rfl, by go_grown⟩

/-- The cells of a new die's variable. -/
def zeroV : Array Value := #[.int .i64 0, .int .i64 0, .int .i64 0, .int .i64 0, .int .i64 0, .int .i64 0]
theorem diOf_any (d : D) (b : Nat) {cap : Nat} (w : World) (hb : b < w.heap.size) (c0 : w.cell? ⟨b, 0, none⟩ = some (.int .i64 d.t)) (c1 : w.cell? ⟨b, 1, none⟩ = some (.int .i64 d.n)) (c2 : w.cell? ⟨b, 2, none⟩ = some (.int .i64 d.e))
    (c3 : w.cell? ⟨b, 3, none⟩ = some (.int .i64 d.s)) (c4 : w.cell? ⟨b, 4, none⟩ = some (.int .i64 d.w)) (c5 : w.cell? ⟨b, 5, none⟩ = some (.int .i64 d.b)) :
    Calls Tryd.prog 48 #[.slice (some ⟨b, 0, none⟩) 6 cap] w fun e w' => e = .returned (D.v d) ∧ Below w.heap.size w w' := by
  go_enter Tryd.func48, Tryd.ntmps48
  go_wp2
  have m0 := (Below.refl w.heap.size w).alloc (Nat.le_refl _) (.cells (zeroV) 30)
  have mD : IsD (w.alloc (.cells zeroV 30)) w.heap.size zeroD 30 := IsD.new (d := zeroD)
  have e0 := (m0.cell (p := ⟨b, 0, none⟩) hb).trans c0
  have e1 := (m0.cell (p := ⟨b, 1, none⟩) hb).trans c1
  have e2 := (m0.cell (p := ⟨b, 2, none⟩) hb).trans c2
  have e3 := (m0.cell (p := ⟨b, 3, none⟩) hb).trans c3
  have e4 := (m0.cell (p := ⟨b, 4, none⟩) hb).trans c4
  have e5 := (m0.cell (p := ⟨b, 5, none⟩) hb).trans c5
  unfold zeroV at m0 mD e0 e1 e2 e3 e4 e5
  generalize w.alloc (.cells #[.int .i64 0, .int .i64 0, .int .i64 0, .int .i64 0, .int .i64 0, .int .i64 0] 30) = w0 at m0 mD e0 e1 e2 e3 e4 e5 ⊢
  clear c0 c1 c2 c3 c4 c5
  go_still_tail 19, (by kernel_rfl)
  change wpList _ _ _ _ _ w0.drew
  obtain ⟨⟨a0, a1, a2, a3, a4, a5⟩, f0, f1, f2, f3, f4, f5⟩ := mD.cells
  go_wp2
  refine bodyPost_ret (ret_die Tryd.results48 rfl (mD.set6 d).drew) rfl ⟨rfl, ?_⟩
  exact (m0 |>.setCell (by simp) _ |>.setCell (by simp) _ |>.setCell (by simp) _ |>.setCell (by simp) _ |>.setCell (by simp) _ |>.setCell (by simp) _).drew

theorem diUnit_any (w : World) :
    Calls Tryd.prog 38 #[] w fun e w' => e = .returned (D.v ⟨0, 1, 2, 3, 4, 5⟩) ∧ Below w.heap.size w w' := by
  go_enter Tryd.func38, Tryd.ntmps38
  go_wp2_with (go_at_call 48; refine (diOf_any ⟨0, 1, 2, 3, 4, 5⟩ _ _ (by simp) (by simp [go_sem]) (by simp [go_sem]) (by simp [go_sem]) (by simp [go_sem]) (by simp [go_sem]) (by simp [go_sem])).mono ?_; rintro e w' ⟨rfl, hb⟩; obtain ⟨hc, hf⟩ := bcell hb; have hz := hb.size)
  refine bodyPost_ret (ret_die Tryd.results38 rfl (((IsD.new (d := zeroD)).alloc _).below rfl hb |>.set6 ⟨0, 1, 2, 3, 4, 5⟩)) rfl ⟨rfl, ?_⟩
  exact (below_after (by go_grown) hb (by simp; omega)) |>.setCell (by simp) _ |>.setCell (by simp) _ |>.setCell (by simp) _ |>.setCell (by simp) _ |>.setCell (by simp) _ |>.setCell (by simp) _

theorem dieOf_any (d : D) (w : World) :
    Calls Tryd.prog 51 #[D.v d] w fun e w' => e = .returned (D.v d) ∧ Below w.heap.size w w' := by
  go_enter Tryd.func51, Tryd.ntmps51
  go_wp2
  go_returns
  exact ⟨rfl, by go_grown⟩

end Go.Proofs.YtjikpkembcnfnaaDoor
