/- Rows of states: eqStateS, markStateS, heldStateS; the walks of the law of StatesAlong. -/
import Derived.Test.YtmlfkcmmjmdhmaaDoorWalksTA
namespace Go.Proofs.YtmlfkcmmjmdhmaaDoor
set_option maxRecDepth 100000
set_option linter.all false
open Go.RowKit

/-- A row whose first j cells are k, k + 1, .. -/
def markV (k : Int) (xs : List Value) (j : Nat) : List Value := ints (upTo k j) ++ xs.drop j
theorem markV_zero (k : Int) (xs : List Value) : markV k xs 0 = xs := rfl
theorem markV_done (k : Int) (xs : List Value) : markV k xs xs.length = ints (upTo k xs.length) := by simp [markV]
theorem markV_set (k : Int) (xs : List Value) (j : Nat) (h : j < xs.length) : (markV k xs j).set j (.int .i64 (k + (j : Int))) = markV k xs (j + 1) := by
  unfold markV
  have hl : (ints (upTo k j)).length = j := by rw [ints_len, upTo_len]
  rw [List.set_append_right j _ (by omega), hl, Nat.sub_self, List.drop_eq_getElem_cons h]
  have hu : upTo k (j + 1) = upTo k j ++ [k + (j : Int)] := by unfold upTo; rw [List.range_succ, List.map_append]; rfl
  rw [hu, ints_snoc, List.append_assoc]
  rfl
theorem markV_len (k : Int) (xs : List Value) (j : Nat) (h : j ≤ xs.length) : (markV k xs j).length = xs.length := by
  simp [markV, ints_len, upTo_len]
  omega
/-- One cell is marked. -/
theorem mark_one {w : World} {B g n cap : Nat} {e : TypeId} {z : Nat} {k : Int} {xs : List Value} (j : Nat) (h : w.ownsRow B e z (.slice (some ⟨g, 0, none⟩) n cap) n (markV k xs j)) (hj : j < n * z) (hx : xs.length = n * z) :
    (∃ y, w.cell? ⟨g, j, none⟩ = some y) ∧ w.frozen? ⟨g, j, none⟩ = false ∧ (∀ m, m = k + (j : Int) → (w.setCell ⟨g, j, none⟩ (.int .i64 m)).ownsRow B e z (.slice (some ⟨g, 0, none⟩) n cap) n (markV k xs (j + 1))) := by
  refine ⟨?_, own_free h j, ?_⟩
  · rw [h.cellAt j hj]
    exact ⟨_, List.getElem?_eq_getElem (by have := h.1; omega)⟩
  · rintro m rfl
    have := own_put h j hj (.int .i64 (k + (j : Int)))
    rwa [markV_set k xs j (by omega)] at this
theorem upTo_cell {w : World} {B g n cap z N : Nat} {e : TypeId} {k : Int} (h : w.ownsRow B e z (.slice (some ⟨g, 0, none⟩) n cap) n (ints (upTo k N))) (hN : N = n * z) (j : Nat) (hj : j < N) : ∀ m, m = k + (j : Int) → w.cell? ⟨g, j, none⟩ = some (.int .i64 m) := by
  rintro m rfl
  rw [h.cellAt j (by omega)]
  simp [ints, upTo_get k N j hj]

/-- What StatesAlong answers. -/
def saV (l : List UInt8) (t : St) (L : List UInt8) : List St := if raB l t L = true then waysT t L L.length else []
theorem implSA_any (s : ByteArray) (t : St) (v : ByteArray) (w : World) (hs : s.size ≤ 1048576) (hv : v.size ≤ 1048576) (hg : Glob w) : Calls Tryd.prog 20 #[.string s, St.v t, .string v] w (fun e w' => ∃ vv, e = .returned (.tuple #[vv, .bool (raB s.data.toList t v.data.toList)]) ∧ w'.ownsRow w.heap.size 30 8 vv (saV s.data.toList t v.data.toList).length (cellsS (saV s.data.toList t v.data.toList)) ∧ Below w.heap.size w w') := by
  unfold saV
  have hl : v.data.toList.length = v.size := by simp
  cases h : isBd s.data.toList
  · have e : raB s.data.toList t v.data.toList = false := by unfold raB; rw [h]; rfl
    rw [e, if_neg (by decide)]
    exact (sa_bad s t v w hs (bigLen hv) hg h).mono fun e w' h => ⟨_, h.1, World.ownsRow_nil _ _ _ _, h.2⟩
  · cases h2 : stL s.data.toList t
    · have e : raB s.data.toList t v.data.toList = false := by unfold raB; rw [h, h2]; rfl
      rw [e, if_neg (by decide)]
      exact (sa_off s t v w hs (bigLen hv) hg h h2).mono fun e w' h => ⟨_, h.1, World.ownsRow_nil _ _ _ _, h.2⟩
    · cases h3 : isWord v.data.toList
      · have e : raB s.data.toList t v.data.toList = false := by unfold raB; rw [h, h2, h3]; rfl
        rw [e, if_neg (by decide)]
        exact (sa_word s t v w hs (bigLen hv) hg h h2 h3).mono fun e w' h => ⟨_, h.1, World.ownsRow_nil _ _ _ _, h.2⟩
      · by_cases h4 : stopT s.data.toList t v.data.toList = v.size
        · have e : raB s.data.toList t v.data.toList = true := by unfold raB; rw [h, h2, h3, hl, h4]; simp
          rw [e, if_pos rfl, hl]
          rw [waysT_len]; exact (sa_all s t v w hs (bigLen hv) hg h h2 h3 h4).mono fun e w' h => ⟨_, h.choose_spec.1, h.choose_spec.2.1, h.choose_spec.2.2⟩
        · have e : raB s.data.toList t v.data.toList = false := by unfold raB; rw [h, h2, h3, hl]; simp [h4]
          rw [e, if_neg (by decide)]
          exact (sa_short s t v w hs (bigLen hv) hg h h2 h3 h4).mono fun e w' h => ⟨_, h.1, World.ownsRow_nil _ _ _ _, h.2⟩
theorem StatesAlong_len (v : ByteArray) (t : St) (u : ByteArray) : (saV v.data.toList t u.data.toList).length ≤ 100000 := by
  unfold saV
  split
  · rename_i h
    unfold raB at h
    simp only [Bool.and_eq_true] at h
    have := isWord_len h.2.2.1
    rw [waysT_len]
    omega
  · exact Nat.zero_le _

end Go.Proofs.YtmlfkcmmjmdhmaaDoor
