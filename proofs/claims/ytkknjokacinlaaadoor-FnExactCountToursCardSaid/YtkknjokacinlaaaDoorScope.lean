/- A scope with several labels: from a label on the run comes to its end. The jumps are followed by whatever induction the caller has. -/
import Derived.Test.YtkknjokacinlaaaDoorProg
import Derived.WalkMore
namespace Go.Proofs.YtkknjokacinlaaaDoor
set_option maxRecDepth 100000
set_option linter.all false
open Go

/-- From the place r inside the scope of c on, the run comes to Q. -/
def Goes (P : Program) (c r : Code) (Q : Exit → Act → World → Prop) (a : Act) (w : World) : Prop :=
  ∀ (f : Frame) (is : List Item) (fs : List Frame), ∃ e a' w', Q e a' w' ∧ Arrives P (lone (f.at a (.code r :: .inScope c :: is)) fs w) f is fs e a' w'
/-- At a jump: there is the label, and the run goes on from it; else as Q. -/
def ExitG (P : Program) (c : Code) (Q : Exit → Act → World → Prop) : Exit → Act → World → Prop
  | .goto l, a, w => ∃ r, findLabel c l = some r ∧ Goes P c r Q a w
  | e, a, w => Q e a w
section
variable {P : Program} {c r : Code} {Q : Exit → Act → World → Prop} {a : Act} {w : World}
theorem goes_of (h : r.wp P (ExitG P c Q) a w) : Goes P c r Q a w := by
  intro f is fs
  obtain ⟨e, a1, w1, q, arr⟩ := h f (.inScope c :: is) fs
  cases e with
  | goto l =>
    obtain ⟨r1, hl, hr⟩ := q
    obtain ⟨e2, a2, w2, q2, arr2⟩ := hr f is fs
    exact ⟨e2, a2, w2, q2, .of_steps (arr _ (by simp [gotoIn, hl])) arr2⟩
  | normal => exact ⟨_, a1, w1, q, Steps.trans arr (.one step_inScope)⟩
  | exit i => exact ⟨_, a1, w1, q, fun k' hk => arr k' (by simp [exitTo, hk])⟩
  | ret => exact ⟨_, a1, w1, q, arr⟩
  | panic ch => exact ⟨_, a1, w1, q, arr⟩
  | outgrown => exact ⟨_, a1, w1, q, arr⟩
theorem wp_scope_goes (h : Goes P c c Q a w) : (Code.scope c).wp P Q a w := by
  intro f is fs
  obtain ⟨e, a1, w1, q, arr⟩ := h f is fs
  refine ⟨e, a1, w1, q, ?_⟩
  cases e with
  | normal => exact .head step_scope arr
  | exit i => exact fun k' hk => .head step_scope (arr k' hk)
  | goto l => exact fun k' hk => .head step_scope (arr k' hk)
  | ret => exact .of_steps (.one step_scope) arr
  | panic ch => exact .of_steps (.one step_scope) arr
  | outgrown => exact .of_steps (.one step_scope) arr
end
end Go.Proofs.YtkknjokacinlaaaDoor
