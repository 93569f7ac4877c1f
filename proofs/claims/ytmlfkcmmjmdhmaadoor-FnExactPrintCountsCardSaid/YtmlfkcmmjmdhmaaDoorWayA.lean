/- States along a word, by cases of one answer: boWay; what they are. -/
import Derived.Test.YtmlfkcmmjmdhmaaDoorWalksSA
namespace Go.Proofs.YtmlfkcmmjmdhmaaDoor
set_option maxRecDepth 100000
set_option linter.all false
open Go.RowKit

theorem boWayA_any (s : ByteArray) (t : St) (v : ByteArray) (w : World) (hs : s.size ≤ 1048576) (hv : v.size ≤ 1048576) : Calls Tryd.prog 16 #[.string s, St.v t, .string v] w (fun e w' => ∃ vv, e = .returned (.tuple #[vv, .bool (raB s.data.toList t v.data.toList)]) ∧ w'.ownsRow w.heap.size 30 8 vv (saV s.data.toList t v.data.toList).length (cellsS (saV s.data.toList t v.data.toList)) ∧ Below w.heap.size w w') := by
  unfold saV
  have hl : v.data.toList.length = v.size := by simp
  cases h : isBd s.data.toList
  · have e : raB s.data.toList t v.data.toList = false := by unfold raB; rw [h]; rfl
    rw [e, if_neg (by decide)]
    exact (boWay_bad s t v w hs (bigLen hv) h).mono fun e w' h => ⟨_, h.1, World.ownsRow_nil _ _ _ _, h.2⟩
  · cases h2 : stL s.data.toList t
    · have e : raB s.data.toList t v.data.toList = false := by unfold raB; rw [h, h2]; rfl
      rw [e, if_neg (by decide)]
      exact (boWay_off s t v w hs (bigLen hv) h h2).mono fun e w' h => ⟨_, h.1, World.ownsRow_nil _ _ _ _, h.2⟩
    · cases h3 : isWord v.data.toList
      · have e : raB s.data.toList t v.data.toList = false := by unfold raB; rw [h, h2, h3]; rfl
        rw [e, if_neg (by decide)]
        exact (boWay_word s t v w hs (bigLen hv) h h2 h3).mono fun e w' h => ⟨_, h.1, World.ownsRow_nil _ _ _ _, h.2⟩
      · by_cases h4 : stopT s.data.toList t v.data.toList = v.size
        · have e : raB s.data.toList t v.data.toList = true := by unfold raB; rw [h, h2, h3, hl, h4]; simp
          rw [e, if_pos rfl, hl]
          rw [waysT_len]; exact (boWay_all s t v w hs (bigLen hv) h h2 h3 h4).mono fun e w' h => ⟨_, h.choose_spec.choose_spec.1, h.choose_spec.choose_spec.2.1, h.choose_spec.choose_spec.2.2⟩
        · have e : raB s.data.toList t v.data.toList = false := by unfold raB; rw [h, h2, h3, hl]; simp [h4]
          rw [e, if_neg (by decide)]
          exact (boWay_short s t v w hs (bigLen hv) h h2 h3 h4).mono fun e w' h => ⟨_, h.1, World.ownsRow_nil _ _ _ _, h.2⟩
theorem sa_yes {l : List UInt8} {t : St} {L : List UInt8} (h : raB l t L = true) : saV l t L = waysT t L L.length := by unfold saV; rw [if_pos h]
theorem sa_no {l : List UInt8} {t : St} {L : List UInt8} (h : raB l t L = false) : saV l t L = [] := by unfold saV; rw [h]; rfl
theorem ra_parts {l : List UInt8} {t : St} {L : List UInt8} (h : raB l t L = true) : isBd l = true ∧ stL l t = true ∧ isWord L = true ∧ stopT l t L = L.length := by
  unfold raB at h
  simp only [Bool.and_eq_true, decide_eq_true_eq] at h
  exact ⟨h.1, h.2.1, h.2.2.1, h.2.2.2⟩
/-- All states of a way that is not stopped stand on floor. -/
theorem way_floor (l : List UInt8) : ∀ (L : List UInt8) (s : St), floorL l s.x s.y = true → stopT l s L = L.length → ∀ j, j ≤ L.length → floorL l (atT s L j).x (atT s L j).y = true
  | _, s, h, _, 0, _ => h
  | [], s, h, _, j + 1, hj => by simp at hj
  | c :: cs, s, h, hs, j + 1, hj => by
    unfold stopT at hs
    split at hs
    · rename_i hc
      have := way_floor l cs (stepT s c) hc (by simpa using hs) j (by simpa using hj)
      exact this
    · simp at hs
theorem way_good {t : St} (L : List UInt8) (k : Nat) (h : goodB t.d = true) : goodB (atT t L k).d = true := goodB_way (L.take k) t h
theorem good_bot {d : D} (h : goodB d = true) : 0 ≤ d.b ∧ d.b ≤ 9 := by
  unfold goodB at h
  have := of_decide_eq_true h
  omega
end Go.Proofs.YtmlfkcmmjmdhmaaDoor
