/- The walks of the laws of TopsAlong and SumOfTops. -/
import Derived.Test.YtmlfkcmmjmdhmaaDoorWalksY
import Derived.Test.YtmlfkcmmjmdhmaaDoorInts
namespace Go.Proofs.YtmlfkcmmjmdhmaaDoor
set_option maxRecDepth 100000
set_option linter.all false
open Go.RowKit

/-- The faces on top along a way. -/
def topsT (t : St) (L : List UInt8) (k : Nat) : List Int := (waysT t L k).map (fun s => s.d.t)
theorem topsT_len (t : St) (L : List UInt8) (k : Nat) : (topsT t L k).length = k + 1 := by simp [topsT, waysT_len]
theorem topsT_get (t : St) (L : List UInt8) (k j : Nat) (h : j ≤ k) : (topsT t L k)[j]? = some (atT t L j).d.t := by
  unfold topsT
  rw [List.getElem?_map, waysT_get t L k j h]
  rfl
theorem goodB_roll (k : Int) (d : D) (h : goodB d = true) : goodB (rollK k d) = true := by
  obtain ⟨a, b, c, e, f, g⟩ := d
  simp only [goodB, decide_eq_true_eq] at h
  unfold rollK
  (repeat' split)
  all_goals
    unfold goodB
    refine decide_eq_true ?_
    dsimp only [rollN, rollE, rollS, rollW]
    omega
theorem goodB_way : ∀ (L : List UInt8) (t : St), goodB t.d = true → goodB (L.foldl stepT t).d = true
  | [], _, h => h
  | c :: L, t, h => goodB_way L (stepT t c) (goodB_roll _ _ h)
theorem goodB_at (t : St) (L : List UInt8) (k : Nat) (h : goodB t.d = true) : 0 ≤ (atT t L k).d.t ∧ (atT t L k).d.t ≤ 9 := by
  have := goodB_way (L.take k) t h
  simp only [goodB, decide_eq_true_eq] at this
  exact ⟨this.1, this.2.1⟩
/-- The sum of the first k tops. -/
def sumT (t : St) (L : List UInt8) : Nat → Int
  | 0 => 0
  | k + 1 => sumT t L k + (atT t L k).d.t
theorem sumT_near (t : St) (L : List UInt8) (h : goodB t.d = true) : ∀ k, 0 ≤ sumT t L k ∧ sumT t L k ≤ 9 * k
  | 0 => by simp [sumT]
  | k + 1 => by
    have h1 := sumT_near t L h k
    have h2 := goodB_at t L k h
    simp only [sumT]
    omega
/-- A row of which the first k cells are filled. -/
def rowK (made : List Value) (T : List Int) (k : Nat) : List Value := ints (T.take k) ++ made.drop k
theorem rowK_zero (made : List Value) (T : List Int) : rowK made T 0 = made := rfl
theorem rowK_done (made : List Value) (T : List Int) (k : Nat) (h1 : made.length = k) (h2 : T.length = k) : rowK made T k = ints T := by
  unfold rowK
  rw [List.drop_of_length_le (by omega), List.take_of_length_le (by omega), List.append_nil]
theorem rowK_set (made : List Value) (T : List Int) (k : Nat) (x : Int) (h1 : k < made.length) (h2 : T[k]? = some x) : (rowK made T k).set k (.int .i64 x) = rowK made T (k + 1) := by
  have hk : k < T.length := (List.getElem?_eq_some_iff.1 h2).1
  unfold rowK
  have hl : (ints (T.take k)).length = k := by rw [ints_len, List.length_take]; omega
  rw [List.set_append_right k _ (by omega), hl, Nat.sub_self, List.drop_eq_getElem_cons h1, List.take_add_one, h2]
  show _ ++ (Value.int .i64 x :: _) = ints (T.take k ++ [x]) ++ _
  rw [ints_snoc, List.append_assoc]
  rfl
theorem row_cells_at {w : World} {b B n cap : Nat} {W : List St} {u : St} (j : Nat) (h : w.ownsRow b 30 8 (.slice (some ⟨B, 0, none⟩) n cap) n (cellsS W)) (hj : j < n) (hu : W[j]? = some u) :
    w.cell? ⟨B, j * 8, none⟩ = some (.int .i64 u.x) ∧ w.cell? ⟨B, j * 8 + 1, none⟩ = some (.int .i64 u.y) ∧ w.cell? ⟨B, j * 8 + 2, none⟩ = some (.int .i64 u.d.t) ∧ w.cell? ⟨B, j * 8 + 3, none⟩ = some (.int .i64 u.d.n) ∧ w.cell? ⟨B, j * 8 + 4, none⟩ = some (.int .i64 u.d.e) ∧ w.cell? ⟨B, j * 8 + 5, none⟩ = some (.int .i64 u.d.s) ∧ w.cell? ⟨B, j * 8 + 6, none⟩ = some (.int .i64 u.d.w) ∧ w.cell? ⟨B, j * 8 + 7, none⟩ = some (.int .i64 u.d.b) := by
  have hh : ∀ i x, i < 8 → (scells u)[i]? = some x → w.cell? ⟨B, j * 8 + i, none⟩ = some x := fun i x hi hx => (h.cellAt (j * 8 + i) (by omega)).trans ((cellsS_get W j u hu i hi).trans hx)
  exact ⟨hh 0 _ (by omega) rfl, hh 1 _ (by omega) rfl, hh 2 _ (by omega) rfl, hh 3 _ (by omega) rfl, hh 4 _ (by omega) rfl, hh 5 _ (by omega) rfl, hh 6 _ (by omega) rfl, hh 7 _ (by omega) rfl⟩
/-- A row stays while only blocks from B on are written. -/
theorem own_below {w w' : World} {B b : Nat} {e : TypeId} {z : Nat} {v : Value} {n : Nat} {xs : List Value} (hb : Below B w w') (h : w.ownsRow b e z v n xs) (hl : ∀ g, v.ownBlock = some g → g < B) : w'.ownsRow b e z v n xs := by
  obtain ⟨h1, h2⟩ := h
  refine ⟨h1, ?_⟩
  rcases h2 with h2 | ⟨g, cap, cur, hv, hg, hh, r⟩
  · exact .inl h2
  · exact .inr ⟨g, cap, cur, hv, hg, by rw [hb.block g (hl g (by rw [hv]; rfl))]; exact hh, r⟩

theorem own_ne {w : World} {B z gq k n c : Nat} {e : TypeId} {o : Value} {xs : List Value} (T : w.ownsRow B e z o k xs) (h : gq < B) : (Value.slice (some ⟨gq, 0, none⟩) n c).ownBlock = none ∨ (Value.slice (some ⟨gq, 0, none⟩) n c).ownBlock ≠ o.ownBlock :=
  .inr (fun e => by have := (T.lt gq e.symm).1; omega)

/-- What SumOfTops and TopsAlong answer. -/
def soV (l : List UInt8) (t : St) (L : List UInt8) : Int := if raB l t L = true then sumT t L (L.length + 1) else 0
def toV (l : List UInt8) (t : St) (L : List UInt8) : List Int := if raB l t L = true then topsT t L L.length else []

theorem TopsAlong_len (v : ByteArray) (t : St) (u : ByteArray) : (toV v.data.toList t u.data.toList).length ≤ 100000 := by
  unfold toV
  split
  · rename_i h
    unfold raB at h
    simp only [Bool.and_eq_true] at h
    have := isWord_len h.2.2.1
    rw [topsT_len]
    omega
  · exact Nat.zero_le _

end Go.Proofs.YtmlfkcmmjmdhmaaDoor
