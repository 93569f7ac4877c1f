/- States compared by '=='. -/
import Derived.Test.YthdkhikkdcjifaaDoorState
namespace Go.Proofs.YthdkhikkdcjifaaDoor
set_option maxRecDepth 100000
set_option linter.all false
open Go.RowKit

theorem St.eq_iff {x y : St} : (x.x = y.x ∧ x.y = y.y ∧ x.d = y.d) ↔ x = y :=
  ⟨fun h => St.ext' h.1 h.2.1 h.2.2, fun h => by subst h; simp⟩
theorem equalIn_state (x y : St) (w : World) : (Op.equalIn 10000 30 (St.v x) (St.v y)).run Tryd.prog w = .ok (decide (x = y)) w := by
  by_cases h0 : x.x = y.x
  · by_cases h1 : x.y = y.y
    · by_cases h2 : x.d.t = y.d.t
      · by_cases h3 : x.d.n = y.d.n
        · by_cases h4 : x.d.e = y.d.e
          · by_cases h5 : x.d.s = y.d.s
            · by_cases h6 : x.d.w = y.d.w
              · by_cases h7 : x.d.b = y.d.b
                · rw [decide_eq_true (St.ext' h0 h1 (D.ext' h2 h3 h4 h5 h6 h7))]
                  simp [go_sem, h0, h1, h2, h3, h4, h5, h6, h7]
                · rw [decide_eq_false (fun e => h7 (by rw [e]))]
                  simp [go_sem, h0, h1, h2, h3, h4, h5, h6, h7]
              · rw [decide_eq_false (fun e => h6 (by rw [e]))]
                simp [go_sem, h0, h1, h2, h3, h4, h5, h6]
            · rw [decide_eq_false (fun e => h5 (by rw [e]))]
              simp [go_sem, h0, h1, h2, h3, h4, h5]
          · rw [decide_eq_false (fun e => h4 (by rw [e]))]
            simp [go_sem, h0, h1, h2, h3, h4]
        · rw [decide_eq_false (fun e => h3 (by rw [e]))]
          simp [go_sem, h0, h1, h2, h3]
      · rw [decide_eq_false (fun e => h2 (by rw [e]))]
        simp [go_sem, h0, h1, h2]
    · rw [decide_eq_false (fun e => h1 (by rw [e]))]
      simp [go_sem, h0, h1]
  · rw [decide_eq_false (fun e => h0 (by rw [e]))]
    simp [go_sem, h0]
theorem eql_state (x y : St) (w : World) : (binOp .eql 30 (St.v x) (St.v y)).run Tryd.prog w = .ok (.bool (decide (x = y))) w := by
  rw [run_eql_struct, equalIn_state]
  rfl
end Go.Proofs.YthdkhikkdcjifaaDoor
