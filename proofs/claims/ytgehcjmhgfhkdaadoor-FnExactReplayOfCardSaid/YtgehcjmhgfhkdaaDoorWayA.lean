/- The walks of the laws of TopsAlong and SumOfTops. Rows of states: eqStateS, markStateS, heldStateS; the walks of the law of StatesAlong. States along a word, by cases of one answer: boWay; what they are. -/
import Derived.Test.YtgehcjmhgfhkdaaDoorWalksY
import Derived.Test.YtgehcjmhgfhkdaaDoorInts
namespace Go.Proofs.YtgehcjmhgfhkdaaDoor
set_option maxRecDepth 100000
set_option linter.all false
open Go.RowKit

/-- The faces on top along a way. -/
def topsT (t : St) (L : List UInt8) (k : Nat) : List Int := (waysT t L k).map (fun s => s.d.t)
theorem topsT_len (t : St) (L : List UInt8) (k : Nat) : (topsT t L k).length = k + 1 := by simp [topsT, waysT_len]
theorem topsT_get (t : St) (L : List UInt8) (k j : Nat) (h : j ≤ k) : (topsT t L k)[j]? = some (atT t L j).d.t := by
  unfold topsT
  rw [List.getElem?_map, waysT_get t L k j h]
  rfl
theorem goodB_roll (k : Int) (d : D) (h : goodB d = true) : goodB (rollK k d) = true := by
  obtain ⟨a, b, c, e, f, g⟩ := d
  simp only [goodB, decide_eq_true_eq] at h
  unfold rollK
  (repeat' split)
  all_goals
    unfold goodB
    refine decide_eq_true ?_
    dsimp only [rollN, rollE, rollS, rollW]
    omega
theorem goodB_way : ∀ (L : List UInt8) (t : St), goodB t.d = true → goodB (L.foldl stepT t).d = true
  | [], _, h => h
  | c :: L, t, h => goodB_way L (stepT t c) (goodB_roll _ _ h)
theorem goodB_at (t : St) (L : List UInt8) (k : Nat) (h : goodB t.d = true) : 0 ≤ (atT t L k).d.t ∧ (atT t L k).d.t ≤ 9 := by
  have := goodB_way (L.take k) t h
  simp only [goodB, decide_eq_true_eq] at this
  exact ⟨this.1, this.2.1⟩
/-- The sum of the first k tops. -/
def sumT (t : St) (L : List UInt8) : Nat → Int
  | 0 => 0
  | k + 1 => sumT t L k + (atT t L k).d.t
theorem sumT_near (t : St) (L : List UInt8) (h : goodB t.d = true) : ∀ k, 0 ≤ sumT t L k ∧ sumT t L k ≤ 9 * k
  | 0 => by simp [sumT]
  | k + 1 => by
    have h1 := sumT_near t L h k
    have h2 := goodB_at t L k h
    simp only [sumT]
    omega
/-- A row of which the first k cells are filled. -/
def rowK (made : List Value) (T : List Int) (k : Nat) : List Value := ints (T.take k) ++ made.drop k
theorem rowK_zero (made : List Value) (T : List Int) : rowK made T 0 = made := rfl
theorem rowK_done (made : List Value) (T : List Int) (k : Nat) (h1 : made.length = k) (h2 : T.length = k) : rowK made T k = ints T := by
  unfold rowK
  rw [List.drop_of_length_le (by omega), List.take_of_length_le (by omega), List.append_nil]
theorem rowK_set (made : List Value) (T : List Int) (k : Nat) (x : Int) (h1 : k < made.length) (h2 : T[k]? = some x) : (rowK made T k).set k (.int .i64 x) = rowK made T (k + 1) := by
  have hk : k < T.length := (List.getElem?_eq_some_iff.1 h2).1
  unfold rowK
  have hl : (ints (T.take k)).length = k := by rw [ints_len, List.length_take]; omega
  rw [List.set_append_right k _ (by omega), hl, Nat.sub_self, List.drop_eq_getElem_cons h1, List.take_add_one, h2]
  show _ ++ (Value.int .i64 x :: _) = ints (T.take k ++ [x]) ++ _
  rw [ints_snoc, List.append_assoc]
  rfl
theorem row_cells_at {w : World} {b B n cap : Nat} {W : List St} {u : St} (j : Nat) (h : w.ownsRow b 32 8 (.slice (some ⟨B, 0, none⟩) n cap) n (cellsS W)) (hj : j < n) (hu : W[j]? = some u) :
    w.cell? ⟨B, j * 8, none⟩ = some (.int .i64 u.x) ∧ w.cell? ⟨B, j * 8 + 1, none⟩ = some (.int .i64 u.y) ∧ w.cell? ⟨B, j * 8 + 2, none⟩ = some (.int .i64 u.d.t) ∧ w.cell? ⟨B, j * 8 + 3, none⟩ = some (.int .i64 u.d.n) ∧ w.cell? ⟨B, j * 8 + 4, none⟩ = some (.int .i64 u.d.e) ∧ w.cell? ⟨B, j * 8 + 5, none⟩ = some (.int .i64 u.d.s) ∧ w.cell? ⟨B, j * 8 + 6, none⟩ = some (.int .i64 u.d.w) ∧ w.cell? ⟨B, j * 8 + 7, none⟩ = some (.int .i64 u.d.b) := by
  have hh : ∀ i x, i < 8 → (scells u)[i]? = some x → w.cell? ⟨B, j * 8 + i, none⟩ = some x := fun i x hi hx => (h.cellAt (j * 8 + i) (by omega)).trans ((cellsS_get W j u hu i hi).trans hx)
  exact ⟨hh 0 _ (by omega) rfl, hh 1 _ (by omega) rfl, hh 2 _ (by omega) rfl, hh 3 _ (by omega) rfl, hh 4 _ (by omega) rfl, hh 5 _ (by omega) rfl, hh 6 _ (by omega) rfl, hh 7 _ (by omega) rfl⟩
/-- A row stays while only blocks from B on are written. -/
theorem own_below {w w' : World} {B b : Nat} {e : TypeId} {z : Nat} {v : Value} {n : Nat} {xs : List Value} (hb : Below B w w') (h : w.ownsRow b e z v n xs) (hl : ∀ g, v.ownBlock = some g → g < B) : w'.ownsRow b e z v n xs := by
  obtain ⟨h1, h2⟩ := h
  refine ⟨h1, ?_⟩
  rcases h2 with h2 | ⟨g, cap, cur, hv, hg, hh, r⟩
  · exact .inl h2
  · exact .inr ⟨g, cap, cur, hv, hg, by rw [hb.block g (hl g (by rw [hv]; rfl))]; exact hh, r⟩

theorem own_ne {w : World} {B z gq k n c : Nat} {e : TypeId} {o : Value} {xs : List Value} (T : w.ownsRow B e z o k xs) (h : gq < B) : (Value.slice (some ⟨gq, 0, none⟩) n c).ownBlock = none ∨ (Value.slice (some ⟨gq, 0, none⟩) n c).ownBlock ≠ o.ownBlock :=
  .inr (fun e => by have := (T.lt gq e.symm).1; omega)

/-- What SumOfTops and TopsAlong answer. -/
def soV (l : List UInt8) (t : St) (L : List UInt8) : Int := if raB l t L = true then sumT t L (L.length + 1) else 0
def toV (l : List UInt8) (t : St) (L : List UInt8) : List Int := if raB l t L = true then topsT t L L.length else []

theorem TopsAlong_len (v : ByteArray) (t : St) (u : ByteArray) : (toV v.data.toList t u.data.toList).length ≤ 100000 := by
  unfold toV
  split
  · rename_i h
    unfold raB at h
    simp only [Bool.and_eq_true] at h
    have := isWord_len h.2.2.1
    rw [topsT_len]
    omega
  · exact Nat.zero_le _

end Go.Proofs.YtgehcjmhgfhkdaaDoor
namespace Go.Proofs.YtgehcjmhgfhkdaaDoor
set_option maxRecDepth 100000
set_option linter.all false
open Go.RowKit

/-- A row whose first j cells are k, k + 1, .. -/
def markV (k : Int) (xs : List Value) (j : Nat) : List Value := ints (upTo k j) ++ xs.drop j
theorem markV_zero (k : Int) (xs : List Value) : markV k xs 0 = xs := rfl
theorem markV_done (k : Int) (xs : List Value) : markV k xs xs.length = ints (upTo k xs.length) := by simp [markV]
theorem markV_set (k : Int) (xs : List Value) (j : Nat) (h : j < xs.length) : (markV k xs j).set j (.int .i64 (k + (j : Int))) = markV k xs (j + 1) := by
  unfold markV
  have hl : (ints (upTo k j)).length = j := by rw [ints_len, upTo_len]
  rw [List.set_append_right j _ (by omega), hl, Nat.sub_self, List.drop_eq_getElem_cons h]
  have hu : upTo k (j + 1) = upTo k j ++ [k + (j : Int)] := by unfold upTo; rw [List.range_succ, List.map_append]; rfl
  rw [hu, ints_snoc, List.append_assoc]
  rfl
theorem markV_len (k : Int) (xs : List Value) (j : Nat) (h : j ≤ xs.length) : (markV k xs j).length = xs.length := by
  simp [markV, ints_len, upTo_len]
  omega
/-- One cell is marked. -/
theorem mark_one {w : World} {B g n cap : Nat} {e : TypeId} {z : Nat} {k : Int} {xs : List Value} (j : Nat) (h : w.ownsRow B e z (.slice (some ⟨g, 0, none⟩) n cap) n (markV k xs j)) (hj : j < n * z) (hx : xs.length = n * z) :
    (∃ y, w.cell? ⟨g, j, none⟩ = some y) ∧ w.frozen? ⟨g, j, none⟩ = false ∧ (∀ m, m = k + (j : Int) → (w.setCell ⟨g, j, none⟩ (.int .i64 m)).ownsRow B e z (.slice (some ⟨g, 0, none⟩) n cap) n (markV k xs (j + 1))) := by
  refine ⟨?_, own_free h j, ?_⟩
  · rw [h.cellAt j hj]
    exact ⟨_, List.getElem?_eq_getElem (by have := h.1; omega)⟩
  · rintro m rfl
    have := own_put h j hj (.int .i64 (k + (j : Int)))
    rwa [markV_set k xs j (by omega)] at this
theorem upTo_cell {w : World} {B g n cap z N : Nat} {e : TypeId} {k : Int} (h : w.ownsRow B e z (.slice (some ⟨g, 0, none⟩) n cap) n (ints (upTo k N))) (hN : N = n * z) (j : Nat) (hj : j < N) : ∀ m, m = k + (j : Int) → w.cell? ⟨g, j, none⟩ = some (.int .i64 m) := by
  rintro m rfl
  rw [h.cellAt j (by omega)]
  simp [ints, upTo_get k N j hj]

/-- What StatesAlong answers. -/
def saV (l : List UInt8) (t : St) (L : List UInt8) : List St := if raB l t L = true then waysT t L L.length else []
theorem implSA_any (s : ByteArray) (t : St) (v : ByteArray) (w : World) (hs : s.size ≤ 1048576) (hv : v.size ≤ 1048576) (hg : Glob w) : Calls Tryd.prog 68 #[.string s, St.v t, .string v] w (fun e w' => ∃ vv, e = .returned (.tuple #[vv, .bool (raB s.data.toList t v.data.toList)]) ∧ w'.ownsRow w.heap.size 32 8 vv (saV s.data.toList t v.data.toList).length (cellsS (saV s.data.toList t v.data.toList)) ∧ Below w.heap.size w w') := by
  unfold saV
  have hl : v.data.toList.length = v.size := by simp
  cases h : isBd s.data.toList
  · have e : raB s.data.toList t v.data.toList = false := by unfold raB; rw [h]; rfl
    rw [e, if_neg (by decide)]
    exact (sa_bad s t v w hs (bigLen hv) hg h).mono fun e w' h => ⟨_, h.1, World.ownsRow_nil _ _ _ _, h.2⟩
  · cases h2 : stL s.data.toList t
    · have e : raB s.data.toList t v.data.toList = false := by unfold raB; rw [h, h2]; rfl
      rw [e, if_neg (by decide)]
      exact (sa_off s t v w hs (bigLen hv) hg h h2).mono fun e w' h => ⟨_, h.1, World.ownsRow_nil _ _ _ _, h.2⟩
    · cases h3 : isWord v.data.toList
      · have e : raB s.data.toList t v.data.toList = false := by unfold raB; rw [h, h2, h3]; rfl
        rw [e, if_neg (by decide)]
        exact (sa_word s t v w hs (bigLen hv) hg h h2 h3).mono fun e w' h => ⟨_, h.1, World.ownsRow_nil _ _ _ _, h.2⟩
      · by_cases h4 : stopT s.data.toList t v.data.toList = v.size
        · have e : raB s.data.toList t v.data.toList = true := by unfold raB; rw [h, h2, h3, hl, h4]; simp
          rw [e, if_pos rfl, hl]
          rw [waysT_len]; exact (sa_all s t v w hs (bigLen hv) hg h h2 h3 h4).mono fun e w' h => ⟨_, h.choose_spec.1, h.choose_spec.2.1, h.choose_spec.2.2⟩
        · have e : raB s.data.toList t v.data.toList = false := by unfold raB; rw [h, h2, h3, hl]; simp [h4]
          rw [e, if_neg (by decide)]
          exact (sa_short s t v w hs (bigLen hv) hg h h2 h3 h4).mono fun e w' h => ⟨_, h.1, World.ownsRow_nil _ _ _ _, h.2⟩
theorem StatesAlong_len (v : ByteArray) (t : St) (u : ByteArray) : (saV v.data.toList t u.data.toList).length ≤ 100000 := by
  unfold saV
  split
  · rename_i h
    unfold raB at h
    simp only [Bool.and_eq_true] at h
    have := isWord_len h.2.2.1
    rw [waysT_len]
    omega
  · exact Nat.zero_le _

end Go.Proofs.YtgehcjmhgfhkdaaDoor
namespace Go.Proofs.YtgehcjmhgfhkdaaDoor
set_option maxRecDepth 100000
set_option linter.all false
open Go.RowKit

theorem boWayA_any (s : ByteArray) (t : St) (v : ByteArray) (w : World) (hs : s.size ≤ 1048576) (hv : v.size ≤ 1048576) : Calls Tryd.prog 36 #[.string s, St.v t, .string v] w (fun e w' => ∃ vv, e = .returned (.tuple #[vv, .bool (raB s.data.toList t v.data.toList)]) ∧ w'.ownsRow w.heap.size 32 8 vv (saV s.data.toList t v.data.toList).length (cellsS (saV s.data.toList t v.data.toList)) ∧ Below w.heap.size w w') := by
  unfold saV
  have hl : v.data.toList.length = v.size := by simp
  cases h : isBd s.data.toList
  · have e : raB s.data.toList t v.data.toList = false := by unfold raB; rw [h]; rfl
    rw [e, if_neg (by decide)]
    exact (boWay_bad s t v w hs (bigLen hv) h).mono fun e w' h => ⟨_, h.1, World.ownsRow_nil _ _ _ _, h.2⟩
  · cases h2 : stL s.data.toList t
    · have e : raB s.data.toList t v.data.toList = false := by unfold raB; rw [h, h2]; rfl
      rw [e, if_neg (by decide)]
      exact (boWay_off s t v w hs (bigLen hv) h h2).mono fun e w' h => ⟨_, h.1, World.ownsRow_nil _ _ _ _, h.2⟩
    · cases h3 : isWord v.data.toList
      · have e : raB s.data.toList t v.data.toList = false := by unfold raB; rw [h, h2, h3]; rfl
        rw [e, if_neg (by decide)]
        exact (boWay_word s t v w hs (bigLen hv) h h2 h3).mono fun e w' h => ⟨_, h.1, World.ownsRow_nil _ _ _ _, h.2⟩
      · by_cases h4 : stopT s.data.toList t v.data.toList = v.size
        · have e : raB s.data.toList t v.data.toList = true := by unfold raB; rw [h, h2, h3, hl, h4]; simp
          rw [e, if_pos rfl, hl]
          rw [waysT_len]; exact (boWay_all s t v w hs (bigLen hv) h h2 h3 h4).mono fun e w' h => ⟨_, h.choose_spec.choose_spec.1, h.choose_spec.choose_spec.2.1, h.choose_spec.choose_spec.2.2⟩
        · have e : raB s.data.toList t v.data.toList = false := by unfold raB; rw [h, h2, h3, hl]; simp [h4]
          rw [e, if_neg (by decide)]
          exact (boWay_short s t v w hs (bigLen hv) h h2 h3 h4).mono fun e w' h => ⟨_, h.1, World.ownsRow_nil _ _ _ _, h.2⟩
theorem sa_yes {l : List UInt8} {t : St} {L : List UInt8} (h : raB l t L = true) : saV l t L = waysT t L L.length := by unfold saV; rw [if_pos h]
theorem sa_no {l : List UInt8} {t : St} {L : List UInt8} (h : raB l t L = false) : saV l t L = [] := by unfold saV; rw [h]; rfl
theorem ra_parts {l : List UInt8} {t : St} {L : List UInt8} (h : raB l t L = true) : isBd l = true ∧ stL l t = true ∧ isWord L = true ∧ stopT l t L = L.length := by
  unfold raB at h
  simp only [Bool.and_eq_true, decide_eq_true_eq] at h
  exact ⟨h.1, h.2.1, h.2.2.1, h.2.2.2⟩
/-- All states of a way that is not stopped stand on floor. -/
theorem way_floor (l : List UInt8) : ∀ (L : List UInt8) (s : St), floorL l s.x s.y = true → stopT l s L = L.length → ∀ j, j ≤ L.length → floorL l (atT s L j).x (atT s L j).y = true
  | _, s, h, _, 0, _ => h
  | [], s, h, _, j + 1, hj => by simp at hj
  | c :: cs, s, h, hs, j + 1, hj => by
    unfold stopT at hs
    split at hs
    · rename_i hc
      have := way_floor l cs (stepT s c) hc (by simpa using hs) j (by simpa using hj)
      exact this
    · simp at hs
theorem way_good {t : St} (L : List UInt8) (k : Nat) (h : goodB t.d = true) : goodB (atT t L k).d = true := goodB_way (L.take k) t h
theorem good_bot {d : D} (h : goodB d = true) : 0 ≤ d.b ∧ d.b ≤ 9 := by
  unfold goodB at h
  have := of_decide_eq_true h
  omega
end Go.Proofs.YtgehcjmhgfhkdaaDoor
