/- Two dice compared, as values. -/
import Derived.Test.YtjikpkembcnfnaaDoorBase
namespace Go.Proofs.YtjikpkembcnfnaaDoor
set_option maxRecDepth 100000
set_option linter.all false
open Go.RowKit

theorem dec_of {p q : Prop} [Decidable p] [Decidable q] (h : p ↔ q) : decide p = decide q := by
  by_cases hq : q
  · rw [decide_eq_true hq, decide_eq_true (h.2 hq)]
  · rw [decide_eq_false hq, decide_eq_false (fun hp => hq (h.1 hp))]
theorem D.eq_iff {x y : D} : (x.t = y.t ∧ x.n = y.n ∧ x.e = y.e ∧ x.s = y.s ∧ x.w = y.w ∧ x.b = y.b) ↔ x = y :=
  ⟨fun h => D.ext' h.1 h.2.1 h.2.2.1 h.2.2.2.1 h.2.2.2.2.1 h.2.2.2.2.2, fun h => by subst h; simp⟩

theorem equalIn_die (x y : D) (w : World) : (Op.equalIn 10000 30 (D.v x) (D.v y)).run Tryd.prog w = .ok (decide (x = y)) w := by
  rw [← dec_of D.eq_iff]
  by_cases h0 : x.t = y.t
  · by_cases h1 : x.n = y.n
    · by_cases h2 : x.e = y.e
      · by_cases h3 : x.s = y.s
        · by_cases h4 : x.w = y.w
          · by_cases h5 : x.b = y.b
            · simp [go_sem, h0, h1, h2, h3, h4, h5]
            · simp [go_sem, h0, h1, h2, h3, h4, h5]
          · simp [go_sem, h0, h1, h2, h3, h4]
        · simp [go_sem, h0, h1, h2, h3]
      · simp [go_sem, h0, h1, h2]
    · simp [go_sem, h0, h1]
  · simp [go_sem, h0]
theorem eql_die (x y : D) (w : World) : (binOp .eql 30 (D.v x) (D.v y)).run Tryd.prog w = .ok (.bool (decide (x = y))) w := by
  rw [run_eql_struct, equalIn_die]
  rfl
theorem neq_die (x y : D) (w : World) : (binOp .neq 30 (D.v x) (D.v y)).run Tryd.prog w = .ok (.bool (!decide (x = y))) w := by
  rw [run_neq_struct, equalIn_die]
  rfl
end Go.Proofs.YtjikpkembcnfnaaDoor
