/- The walks of the laws of TopsAlong and SumOfTops. -/
import Derived.Test.YtballmdcalfdnaaDoorWalksY
import Derived.Test.YtballmdcalfdnaaDoorInts
namespace Go.Proofs.YtballmdcalfdnaaDoor
set_option maxRecDepth 100000
set_option linter.all false
open Go.RowKit

/-- The faces on top along a way. -/
def topsT (t : St) (L : List UInt8) (k : Nat) : List Int := (waysT t L k).map (fun s => s.d.t)
theorem topsT_len (t : St) (L : List UInt8) (k : Nat) : (topsT t L k).length = k + 1 := by simp [topsT, waysT_len]
theorem topsT_get (t : St) (L : List UInt8) (k j : Nat) (h : j ≤ k) : (topsT t L k)[j]? = some (atT t L j).d.t := by
  unfold topsT
  rw [List.getElem?_map, waysT_get t L k j h]
  rfl
theorem goodB_roll (k : Int) (d : D) (h : goodB d = true) : goodB (rollK k d) = true := by
  obtain ⟨a, b, c, e, f, g⟩ := d
  simp only [goodB, decide_eq_true_eq] at h
  unfold rollK
  (repeat' split)
  all_goals
    unfold goodB
    refine decide_eq_true ?_
    dsimp only [rollN, rollE, rollS, rollW]
    omega
theorem goodB_way : ∀ (L : List UInt8) (t : St), goodB t.d = true → goodB (L.foldl stepT t).d = true
  | [], _, h => h
  | c :: L, t, h => goodB_way L (stepT t c) (goodB_roll _ _ h)
theorem goodB_at (t : St) (L : List UInt8) (k : Nat) (h : goodB t.d = true) : 0 ≤ (atT t L k).d.t ∧ (atT t L k).d.t ≤ 9 := by
  have := goodB_way (L.take k) t h
  simp only [goodB, decide_eq_true_eq] at this
  exact ⟨this.1, this.2.1⟩
/-- The sum of the first k tops. -/
def sumT (t : St) (L : List UInt8) : Nat → Int
  | 0 => 0
  | k + 1 => sumT t L k + (atT t L k).d.t
theorem sumT_near (t : St) (L : List UInt8) (h : goodB t.d = true) : ∀ k, 0 ≤ sumT t L k ∧ sumT t L k ≤ 9 * k
  | 0 => by simp [sumT]
  | k + 1 => by
    have h1 := sumT_near t L h k
    have h2 := goodB_at t L k h
    simp only [sumT]
    omega
/-- A row of which the first k cells are filled. -/
def rowK (made : List Value) (T : List Int) (k : Nat) : List Value := ints (T.take k) ++ made.drop k
theorem rowK_zero (made : List Value) (T : List Int) : rowK made T 0 = made := rfl
theorem rowK_done (made : List Value) (T : List Int) (k : Nat) (h1 : made.length = k) (h2 : T.length = k) : rowK made T k = ints T := by
  unfold rowK
  rw [List.drop_of_length_le (by omega), List.take_of_length_le (by omega), List.append_nil]
theorem rowK_set (made : List Value) (T : List Int) (k : Nat) (x : Int) (h1 : k < made.length) (h2 : T[k]? = some x) : (rowK made T k).set k (.int .i64 x) = rowK made T (k + 1) := by
  have hk : k < T.length := (List.getElem?_eq_some_iff.1 h2).1
  unfold rowK
  have hl : (ints (T.take k)).length = k := by rw [ints_len, List.length_take]; omega
  rw [List.set_append_right k _ (by omega), hl, Nat.sub_self, List.drop_eq_getElem_cons h1, List.take_add_one, h2]
  show _ ++ (Value.int .i64 x :: _) = ints (T.take k ++ [x]) ++ _
  rw [ints_snoc, List.append_assoc]
  rfl
theorem row_cells_at {w : World} {b B n cap : Nat} {W : List St} {u : St} (j : Nat) (h : w.ownsRow b 28 8 (.slice (some ⟨B, 0, none⟩) n cap) n (cellsS W)) (hj : j < n) (hu : W[j]? = some u) :
    w.cell? ⟨B, j * 8, none⟩ = some (.int .i64 u.x) ∧ w.cell? ⟨B, j * 8 + 1, none⟩ = some (.int .i64 u.y) ∧ w.cell? ⟨B, j * 8 + 2, none⟩ = some (.int .i64 u.d.t) ∧ w.cell? ⟨B, j * 8 + 3, none⟩ = some (.int .i64 u.d.n) ∧ w.cell? ⟨B, j * 8 + 4, none⟩ = some (.int .i64 u.d.e) ∧ w.cell? ⟨B, j * 8 + 5, none⟩ = some (.int .i64 u.d.s) ∧ w.cell? ⟨B, j * 8 + 6, none⟩ = some (.int .i64 u.d.w) ∧ w.cell? ⟨B, j * 8 + 7, none⟩ = some (.int .i64 u.d.b) := by
  have hh : ∀ i x, i < 8 → (scells u)[i]? = some x → w.cell? ⟨B, j * 8 + i, none⟩ = some x := fun i x hi hx => (h.cellAt (j * 8 + i) (by omega)).trans ((cellsS_get W j u hu i hi).trans hx)
  exact ⟨hh 0 _ (by omega) rfl, hh 1 _ (by omega) rfl, hh 2 _ (by omega) rfl, hh 3 _ (by omega) rfl, hh 4 _ (by omega) rfl, hh 5 _ (by omega) rfl, hh 6 _ (by omega) rfl, hh 7 _ (by omega) rfl⟩
/-- A row stays while only blocks from B on are written. -/
theorem own_below {w w' : World} {B b : Nat} {e : TypeId} {z : Nat} {v : Value} {n : Nat} {xs : List Value} (hb : Below B w w') (h : w.ownsRow b e z v n xs) (hl : ∀ g, v.ownBlock = some g → g < B) : w'.ownsRow b e z v n xs := by
  obtain ⟨h1, h2⟩ := h
  refine ⟨h1, ?_⟩
  rcases h2 with h2 | ⟨g, cap, cur, hv, hg, hh, r⟩
  · exact .inl h2
  · exact .inr ⟨g, cap, cur, hv, hg, by rw [hb.block g (hl g (by rw [hv]; rfl))]; exact hh, r⟩

theorem own_ne {w : World} {B z gq k n c : Nat} {e : TypeId} {o : Value} {xs : List Value} (T : w.ownsRow B e z o k xs) (h : gq < B) : (Value.slice (some ⟨gq, 0, none⟩) n c).ownBlock = none ∨ (Value.slice (some ⟨gq, 0, none⟩) n c).ownBlock ≠ o.ownBlock :=
  .inr (fun e => by have := (T.lt gq e.symm).1; omega)

/-- What SumOfTops and TopsAlong answer. -/
def soV (l : List UInt8) (t : St) (L : List UInt8) : Int := if raB l t L = true then sumT t L (L.length + 1) else 0
def toV (l : List UInt8) (t : St) (L : List UInt8) : List Int := if raB l t L = true then topsT t L L.length else []

set_option maxHeartbeats 3200000 in
theorem specST_bad (s : ByteArray) (t : St) (v : ByteArray) (w : World) (hs : s.size ≤ 1048576) (hv : v.size ≤ maxLen) (h : isBd s.data.toList = false) : Calls Tryd.prog 21 #[.string s, St.v t, .string v] w (fun e w' => e = .returned (.tuple #[.int .i64 0, .bool false]) ∧ Below w.heap.size w w') := by
  have H := hide h
  clear h
  go_enter Tryd.func21, Tryd.ntmps21
  go_wp2_with fail
  refine (boWay_bad s t v _ hs hv H.out).mono ?_
  rintro e w1 ⟨rfl, hb1⟩
  have q0 : Below w.heap.size w w1 := below_after (by go_grown) hb1 (by simp)
  clear hb1
  go_wp2
  go_returns
  exact ⟨rfl, q0⟩

set_option maxHeartbeats 3200000 in
theorem specST_off (s : ByteArray) (t : St) (v : ByteArray) (w : World) (hs : s.size ≤ 1048576) (hv : v.size ≤ maxLen) (h : isBd s.data.toList = true) (h2 : stL s.data.toList t = false) : Calls Tryd.prog 21 #[.string s, St.v t, .string v] w (fun e w' => e = .returned (.tuple #[.int .i64 0, .bool false]) ∧ Below w.heap.size w w') := by
  have H := hide h
  have HST := hide h2
  clear h h2
  go_enter Tryd.func21, Tryd.ntmps21
  go_wp2_with fail
  refine (boWay_off s t v _ hs hv H.out HST.out).mono ?_
  rintro e w1 ⟨rfl, hb1⟩
  have q0 : Below w.heap.size w w1 := below_after (by go_grown) hb1 (by simp)
  clear hb1
  go_wp2
  go_returns
  exact ⟨rfl, q0⟩

set_option maxHeartbeats 3200000 in
theorem specST_word (s : ByteArray) (t : St) (v : ByteArray) (w : World) (hs : s.size ≤ 1048576) (hv : v.size ≤ maxLen) (h : isBd s.data.toList = true) (h2 : stL s.data.toList t = true) (h3 : isWord v.data.toList = false) : Calls Tryd.prog 21 #[.string s, St.v t, .string v] w (fun e w' => e = .returned (.tuple #[.int .i64 0, .bool false]) ∧ Below w.heap.size w w') := by
  have H := hide h
  have HST := hide h2
  have HW := hide h3
  clear h h2 h3
  go_enter Tryd.func21, Tryd.ntmps21
  go_wp2_with fail
  refine (boWay_word s t v _ hs hv H.out HST.out HW.out).mono ?_
  rintro e w1 ⟨rfl, hb1⟩
  have q0 : Below w.heap.size w w1 := below_after (by go_grown) hb1 (by simp)
  clear hb1
  go_wp2
  go_returns
  exact ⟨rfl, q0⟩

set_option maxHeartbeats 3200000 in
theorem specST_short (s : ByteArray) (t : St) (v : ByteArray) (w : World) (hs : s.size ≤ 1048576) (hv : v.size ≤ maxLen) (h : isBd s.data.toList = true) (h2 : stL s.data.toList t = true) (h3 : isWord v.data.toList = true) (h4 : stopT s.data.toList t v.data.toList ≠ v.size) : Calls Tryd.prog 21 #[.string s, St.v t, .string v] w (fun e w' => e = .returned (.tuple #[.int .i64 0, .bool false]) ∧ Below w.heap.size w w') := by
  have hlen : v.size ≤ 60 := by have := isWord_len h3; simpa using this
  have HK := hide h4
  have H := hide h
  have HST := hide h2
  have HW := hide h3
  clear h h2 h3 h4
  go_enter Tryd.func21, Tryd.ntmps21
  go_wp2_with fail
  refine (boWay_short s t v _ hs hv H.out HST.out HW.out HK.out).mono ?_
  rintro e w1 ⟨rfl, hb1⟩
  have q0 : Below w.heap.size w w1 := below_after (by go_grown) hb1 (by simp)
  clear hb1
  go_wp2
  go_returns
  exact ⟨rfl, q0⟩

set_option maxHeartbeats 3200000 in
theorem specST_all (s : ByteArray) (t : St) (v : ByteArray) (w : World) (hs : s.size ≤ 1048576) (hv : v.size ≤ maxLen) (h : isBd s.data.toList = true) (h2 : stL s.data.toList t = true) (h3 : isWord v.data.toList = true) (h4 : stopT s.data.toList t v.data.toList = v.size) : Calls Tryd.prog 21 #[.string s, St.v t, .string v] w (fun e w' => e = .returned (.tuple #[.int .i64 (sumT t v.data.toList (v.size + 1)), .bool true]) ∧ Below w.heap.size w w') := by
  have HGD := hide (show goodB t.d = true from (Bool.and_eq_true_iff.1 h2).2)
  have hlen : v.size ≤ 60 := by have := isWord_len h3; simpa using this
  have HK := hide h4
  have H := hide h
  have HST := hide h2
  have HW := hide h3
  clear h h2 h3 h4
  go_enter Tryd.func21, Tryd.ntmps21
  go_wp2_with fail
  refine (boWay_all s t v _ hs hv H.out HST.out HW.out HK.out).mono ?_
  rintro e w1 ⟨gq, cq, rfl, hown, hb1⟩
  have hn : 0 < v.size + 1 := by omega
  have q0 : Below w.heap.size w w1 := below_after (by go_grown) hb1 (by simp)
  have O1 := own_mono hown (show w.heap.size ≤ _ from by simp)
  have hgq : gq < w1.heap.size := (hown.lt gq rfl).2
  clear hb1 hown
  have HO1 := hide O1
  clear O1
  go_wp2
  go_loopw [24, 10, 12] (fun i x _ wr => ∃ k : Nat, k ≤ v.size + 1 ∧ i = .int .i64 (k : Int) ∧ x = .int .i64 (sumT t v.data.toList k) ∧ wr.ownsRow w.heap.size 28 8 (.slice (some ⟨gq, 0, none⟩) (v.size + 1) cq) (v.size + 1) (cellsS (waysT t v.data.toList v.size)) ∧ Below w.heap.size w wr) (fun i _ _ _ => v.size + 1 - (intOf i).toNat)
  case atStart => exact ⟨0, Nat.zero_le _, rfl, rfl, HO1.out, q0⟩
  case round =>
    obtain ⟨k, hk, rfl, rfl, O, q⟩ := hrel
    clear HO1 q0
    by_cases hlt : k < v.size + 1
    · obtain ⟨a0, a1, a2, a3, a4, a5, a6, a7⟩ := row_cells_at k O hlt (waysT_get t v.data.toList v.size k (by omega))
      have hsum := sumT_near t v.data.toList HGD.out k
      have htop := goodB_at t v.data.toList k HGD.out
      have HS := hide (show sumT t v.data.toList (k + 1) = sumT t v.data.toList k + (atT t v.data.toList k).d.t from rfl)
      generalize sumT t v.data.toList k = S at hsum HS
      generalize atT t v.data.toList k = u at a0 a1 a2 a3 a4 a5 a6 a7 htop HS
      have HO := hide (O.alloc (.cells #[.int .i64 u.x, .int .i64 u.y, .int .i64 u.d.t, .int .i64 u.d.n, .int .i64 u.d.e, .int .i64 u.d.s, .int .i64 u.d.w, .int .i64 u.d.b] 28))
      have q1 := q.alloc q.size (.cells #[.int .i64 u.x, .int .i64 u.y, .int .i64 u.d.t, .int .i64 u.d.n, .int .i64 u.d.e, .int .i64 u.d.s, .int .i64 u.d.w, .int .i64 u.d.b] 28)
      have hk0 : (k : Int) < ((v.size + 1 : Nat) : Int) := by omega
      have w1q : IntKind.i64.wrap (S + u.d.t) = S + u.d.t := IntWalk.i64_in _ (by omega)
      obtain ⟨l1, ⟨c0, c1, c2, c3, c4, c5, c6, c7⟩, -⟩ := (IsS.new (w := wr) (s := u) (ty := 28)).all
      clear O q
      go_wp2
      go_roundw
      case rel => exact ⟨k + 1, by omega, by go_num, by rw [HS.out], HO.out, q1⟩
      case measure => simp [intOf] <;> omega
    · obtain rfl : k = v.size + 1 := by omega
      clear O
      generalize hS : sumT t v.data.toList (v.size + 1) = S
      have HS := hide hS
      clear hS
      go_wp2
      go_returns
      exact ⟨by rw [HS.out]; rfl, q⟩

set_option maxHeartbeats 3200000 in
theorem specTA_bad (s : ByteArray) (t : St) (v : ByteArray) (w : World) (hs : s.size ≤ 1048576) (hv : v.size ≤ maxLen) (h : isBd s.data.toList = false) : Calls Tryd.prog 16 #[.string s, St.v t, .string v] w (fun e w' => e = .returned (.tuple #[.slice none 0 0, .bool false]) ∧ Below w.heap.size w w') := by
  have H := hide h
  clear h
  go_enter Tryd.func16, Tryd.ntmps16
  go_wp2_with fail
  refine (boWay_bad s t v _ hs hv H.out).mono ?_
  rintro e w1 ⟨rfl, hb1⟩
  have q0 : Below w.heap.size w w1 := below_after (by go_grown) hb1 (by simp)
  clear hb1
  go_wp2
  go_returns
  exact ⟨rfl, q0⟩

set_option maxHeartbeats 3200000 in
theorem specTA_off (s : ByteArray) (t : St) (v : ByteArray) (w : World) (hs : s.size ≤ 1048576) (hv : v.size ≤ maxLen) (h : isBd s.data.toList = true) (h2 : stL s.data.toList t = false) : Calls Tryd.prog 16 #[.string s, St.v t, .string v] w (fun e w' => e = .returned (.tuple #[.slice none 0 0, .bool false]) ∧ Below w.heap.size w w') := by
  have H := hide h
  have HST := hide h2
  clear h h2
  go_enter Tryd.func16, Tryd.ntmps16
  go_wp2_with fail
  refine (boWay_off s t v _ hs hv H.out HST.out).mono ?_
  rintro e w1 ⟨rfl, hb1⟩
  have q0 : Below w.heap.size w w1 := below_after (by go_grown) hb1 (by simp)
  clear hb1
  go_wp2
  go_returns
  exact ⟨rfl, q0⟩

set_option maxHeartbeats 3200000 in
theorem specTA_word (s : ByteArray) (t : St) (v : ByteArray) (w : World) (hs : s.size ≤ 1048576) (hv : v.size ≤ maxLen) (h : isBd s.data.toList = true) (h2 : stL s.data.toList t = true) (h3 : isWord v.data.toList = false) : Calls Tryd.prog 16 #[.string s, St.v t, .string v] w (fun e w' => e = .returned (.tuple #[.slice none 0 0, .bool false]) ∧ Below w.heap.size w w') := by
  have H := hide h
  have HST := hide h2
  have HW := hide h3
  clear h h2 h3
  go_enter Tryd.func16, Tryd.ntmps16
  go_wp2_with fail
  refine (boWay_word s t v _ hs hv H.out HST.out HW.out).mono ?_
  rintro e w1 ⟨rfl, hb1⟩
  have q0 : Below w.heap.size w w1 := below_after (by go_grown) hb1 (by simp)
  clear hb1
  go_wp2
  go_returns
  exact ⟨rfl, q0⟩

set_option maxHeartbeats 3200000 in
theorem specTA_short (s : ByteArray) (t : St) (v : ByteArray) (w : World) (hs : s.size ≤ 1048576) (hv : v.size ≤ maxLen) (h : isBd s.data.toList = true) (h2 : stL s.data.toList t = true) (h3 : isWord v.data.toList = true) (h4 : stopT s.data.toList t v.data.toList ≠ v.size) : Calls Tryd.prog 16 #[.string s, St.v t, .string v] w (fun e w' => e = .returned (.tuple #[.slice none 0 0, .bool false]) ∧ Below w.heap.size w w') := by
  have hlen : v.size ≤ 60 := by have := isWord_len h3; simpa using this
  have HK := hide h4
  have H := hide h
  have HST := hide h2
  have HW := hide h3
  clear h h2 h3 h4
  go_enter Tryd.func16, Tryd.ntmps16
  go_wp2_with fail
  refine (boWay_short s t v _ hs hv H.out HST.out HW.out HK.out).mono ?_
  rintro e w1 ⟨rfl, hb1⟩
  have q0 : Below w.heap.size w w1 := below_after (by go_grown) hb1 (by simp)
  clear hb1
  go_wp2
  go_returns
  exact ⟨rfl, q0⟩

set_option maxHeartbeats 3200000 in
theorem specTA_all (s : ByteArray) (t : St) (v : ByteArray) (w : World) (hs : s.size ≤ 1048576) (hv : v.size ≤ maxLen) (h : isBd s.data.toList = true) (h2 : stL s.data.toList t = true) (h3 : isWord v.data.toList = true) (h4 : stopT s.data.toList t v.data.toList = v.size) : Calls Tryd.prog 16 #[.string s, St.v t, .string v] w (fun e w' => ∃ vv, e = .returned (.tuple #[vv, .bool true]) ∧ w'.ownsRow w.heap.size 3 1 vv (v.size + 1) (ints (topsT t v.data.toList v.size)) ∧ Below w.heap.size w w') := by
  have HGD := hide (show goodB t.d = true from (Bool.and_eq_true_iff.1 h2).2)
  have hlen : v.size ≤ 60 := by have := isWord_len h3; simpa using this
  have HK := hide h4
  have H := hide h
  have HST := hide h2
  have HW := hide h3
  clear h h2 h3 h4
  obtain ⟨i0, hi, hz0, hz1, hz2⟩ := info_parts info_intI
  have HI := hide hi
  have HZ0 := hide hz0
  have HZ1 := hide hz1
  have HZ2 := hide hz2
  clear hi hz0 hz1 hz2
  go_enter Tryd.func16, Tryd.ntmps16
  go_wp2_with fail
  refine (boWay_all s t v _ hs hv H.out HST.out HW.out HK.out).mono ?_
  rintro e w1 ⟨gq, cq, rfl, hown, hb1⟩
  have hn : 0 < v.size + 1 := by omega
  have q0 : Below w.heap.size w w1 := below_after (by go_grown) hb1 (by simp)
  have O1 := own_mono hown (show w.heap.size ≤ _ from by simp)
  have hgq : gq < w1.heap.size := (hown.lt gq rfl).2
  clear hb1 hown
  have HO1 := hide O1
  clear O1
  go_wp2
  go_loopw [24, 10, 12] (fun i o _ wr => ∃ k : Nat, k ≤ v.size + 1 ∧ i = .int .i64 (k : Int) ∧ wr.ownsRow w1.heap.size 3 1 o k (ints ((topsT t v.data.toList v.size).take k)) ∧ wr.ownsRow w.heap.size 28 8 (.slice (some ⟨gq, 0, none⟩) (v.size + 1) cq) (v.size + 1) (cellsS (waysT t v.data.toList v.size)) ∧ Below w.heap.size w wr ∧ w1.heap.size ≤ wr.heap.size) (fun i _ _ _ => v.size + 1 - (intOf i).toNat)
  case atStart => exact ⟨0, Nat.zero_le _, rfl, World.ownsRow_nil _ _ _ _, HO1.out, q0, Nat.le_refl _⟩
  case round =>
    obtain ⟨k, hk, rfl, T, O, q, hsz⟩ := hrel
    clear HO1
    have hq0 := q0.size
    clear q0
    by_cases hlt : k < v.size + 1
    · obtain ⟨a0, a1, a2, a3, a4, a5, a6, a7⟩ := row_cells_at k O hlt (waysT_get t v.data.toList v.size k (by omega))
      have HT := hide (show (topsT t v.data.toList v.size).take (k + 1) = (topsT t v.data.toList v.size).take k ++ [(atT t v.data.toList k).d.t] from by rw [List.take_add_one, topsT_get t v.data.toList v.size k (by omega)]; rfl)
      generalize (topsT t v.data.toList v.size).take k = P at T HT
      generalize atT t v.data.toList k = u at a0 a1 a2 a3 a4 a5 a6 a7 HT
      have hneO := own_ne (n := v.size + 1) (c := cq) T hgq
      have hneT := fun g hg => (T.lt g hg).1
      have T2 := hide (T.alloc (.cells #[.int .i64 u.x, .int .i64 u.y, .int .i64 u.d.t, .int .i64 u.d.n, .int .i64 u.d.e, .int .i64 u.d.s, .int .i64 u.d.w, .int .i64 u.d.b] 28))
      have O2 := hide (O.alloc (.cells #[.int .i64 u.x, .int .i64 u.y, .int .i64 u.d.t, .int .i64 u.d.n, .int .i64 u.d.e, .int .i64 u.d.s, .int .i64 u.d.w, .int .i64 u.d.b] 28))
      have q2 := q.alloc q.size (.cells #[.int .i64 u.x, .int .i64 u.y, .int .i64 u.d.t, .int .i64 u.d.n, .int .i64 u.d.e, .int .i64 u.d.s, .int .i64 u.d.w, .int .i64 u.d.b] 28)
      have hk0 : (k : Int) < ((v.size + 1 : Nat) : Int) := by omega
      have hs2 : w1.heap.size ≤ (wr.alloc (.cells #[.int .i64 u.x, .int .i64 u.y, .int .i64 u.d.t, .int .i64 u.d.n, .int .i64 u.d.e, .int .i64 u.d.s, .int .i64 u.d.w, .int .i64 u.d.b] 28)).heap.size := by simp; omega
      obtain ⟨l1, ⟨c0, c1, c2, c3, c4, c5, c6, c7⟩, -⟩ := (IsS.new (w := wr) (s := u) (ty := 28)).all
      clear T O q
      go_upto_region 8 with (fail)
      clear a0 a1 a2 a3 a4 a5 a6 a7
      generalize hbk : wr.heap.size = bk at c0 c1 c2 c3 c4 c5 c6 c7 l1 ⊢
      generalize wr.alloc (.cells #[.int .i64 u.x, .int .i64 u.y, .int .i64 u.d.t, .int .i64 u.d.n, .int .i64 u.d.e, .int .i64 u.d.s, .int .i64 u.d.w, .int .i64 u.d.b] 28) = W2 at T2 O2 q2 hs2 c0 c1 c2 c3 c4 c5 c6 c7 l1 ⊢
      go_wp2_with (at_builtin; refine wpList_append_own_at _ rfl _ _ 34 rfl w1.heap.size 3 i0 (.int .i64 0) 1 8 Tryd.underlying34 HI.out HZ0.out HZ1.out HZ2.out rfl (by decide) _ _ _ rfl (T2.out.alloc _) ⟨W2.heap.size, 0, none⟩ 1 1 [.int .i64 u.d.t] rfl rfl ?c1 ?c2 ?c3 ?c4 ?c5 ?_)
      case c1 => exact cell_one_newR _ _ _
      case c2 => intro x hx; simp at hx; subst hx; rfl
      case c3 => unfold maxLen; omega
      case c4 => omega
      case c5 => simp; omega
      · intro v' w4 T4 hg4 _ _
        have O4 := (O2.out.alloc _).kept hg4 hneO
        have q4 : Below w.heap.size w w4 := (q2.alloc q2.size _).grown hg4 (by simp; omega) (fun g hg => by have := hneT g hg; omega)
        have hs4 : w1.heap.size ≤ w4.heap.size := by have := hg4.size; simp at this; omega
        have T5 := hide (show w4.ownsRow w1.heap.size 3 1 v' (k + 1) (ints ((topsT t v.data.toList v.size).take (k + 1))) from by
          rw [HT.out, ints_snoc]
          exact T4)
        have O5 := hide O4
        clear T4 O4 hg4 T2 O2 q2 c0 c1 c2 c3 c4 c5 c6 c7 l1 hneO hneT
        go_wp2
        go_roundw
        case rel => exact ⟨k + 1, by omega, by go_num, T5.out, O5.out, q4, hs4⟩
        case measure => simp [intOf] <;> omega
    · obtain rfl : k = v.size + 1 := by omega
      rw [List.take_of_length_le (by rw [topsT_len]; exact Nat.le_refl _)] at T
      have HT := hide (own_mono T hq0)
      clear O T
      go_wp2
      go_returns
      exact ⟨_, rfl, HT.out, q⟩

set_option maxHeartbeats 3200000 in
theorem implTA_bad (s : ByteArray) (t : St) (v : ByteArray) (w : World) (hs : s.size ≤ 1048576) (hv : v.size ≤ maxLen) (hg : Glob w) (h : isBd s.data.toList = false) : Calls Tryd.prog 17 #[.string s, St.v t, .string v] w (fun e w' => e = .returned (.tuple #[.slice none 0 0, .bool false]) ∧ Below w.heap.size w w') := by
  have HG := hide (show Glob (w.alloc (.cells #[.int .i64 t.x, .int .i64 t.y, .int .i64 t.d.t, .int .i64 t.d.n, .int .i64 t.d.e, .int .i64 t.d.s, .int .i64 t.d.w, .int .i64 t.d.b] 28)) from glob_to (w0 := w) ((Below.refl _ _).alloc (Nat.le_refl _) _) hg rfl)
  clear hg
  have H := hide h
  clear h
  go_enter Tryd.func17, Tryd.ntmps17
  go_wp2_with fail
  refine (sa_bad s t v _ hs hv HG.out H.out).mono ?_
  rintro e w1 ⟨rfl, hb1⟩
  have q0 : Below w.heap.size w w1 := below_after (by go_grown) hb1 (by simp)
  clear hb1
  go_wp2
  go_returns
  exact ⟨rfl, q0⟩

set_option maxHeartbeats 3200000 in
theorem implTA_off (s : ByteArray) (t : St) (v : ByteArray) (w : World) (hs : s.size ≤ 1048576) (hv : v.size ≤ maxLen) (hg : Glob w) (h : isBd s.data.toList = true) (h2 : stL s.data.toList t = false) : Calls Tryd.prog 17 #[.string s, St.v t, .string v] w (fun e w' => e = .returned (.tuple #[.slice none 0 0, .bool false]) ∧ Below w.heap.size w w') := by
  have HG := hide (show Glob (w.alloc (.cells #[.int .i64 t.x, .int .i64 t.y, .int .i64 t.d.t, .int .i64 t.d.n, .int .i64 t.d.e, .int .i64 t.d.s, .int .i64 t.d.w, .int .i64 t.d.b] 28)) from glob_to (w0 := w) ((Below.refl _ _).alloc (Nat.le_refl _) _) hg rfl)
  clear hg
  have H := hide h
  have HST := hide h2
  clear h h2
  go_enter Tryd.func17, Tryd.ntmps17
  go_wp2_with fail
  refine (sa_off s t v _ hs hv HG.out H.out HST.out).mono ?_
  rintro e w1 ⟨rfl, hb1⟩
  have q0 : Below w.heap.size w w1 := below_after (by go_grown) hb1 (by simp)
  clear hb1
  go_wp2
  go_returns
  exact ⟨rfl, q0⟩

set_option maxHeartbeats 3200000 in
theorem implTA_word (s : ByteArray) (t : St) (v : ByteArray) (w : World) (hs : s.size ≤ 1048576) (hv : v.size ≤ maxLen) (hg : Glob w) (h : isBd s.data.toList = true) (h2 : stL s.data.toList t = true) (h3 : isWord v.data.toList = false) : Calls Tryd.prog 17 #[.string s, St.v t, .string v] w (fun e w' => e = .returned (.tuple #[.slice none 0 0, .bool false]) ∧ Below w.heap.size w w') := by
  have HG := hide (show Glob (w.alloc (.cells #[.int .i64 t.x, .int .i64 t.y, .int .i64 t.d.t, .int .i64 t.d.n, .int .i64 t.d.e, .int .i64 t.d.s, .int .i64 t.d.w, .int .i64 t.d.b] 28)) from glob_to (w0 := w) ((Below.refl _ _).alloc (Nat.le_refl _) _) hg rfl)
  clear hg
  have H := hide h
  have HST := hide h2
  have HW := hide h3
  clear h h2 h3
  go_enter Tryd.func17, Tryd.ntmps17
  go_wp2_with fail
  refine (sa_word s t v _ hs hv HG.out H.out HST.out HW.out).mono ?_
  rintro e w1 ⟨rfl, hb1⟩
  have q0 : Below w.heap.size w w1 := below_after (by go_grown) hb1 (by simp)
  clear hb1
  go_wp2
  go_returns
  exact ⟨rfl, q0⟩

set_option maxHeartbeats 3200000 in
theorem implTA_short (s : ByteArray) (t : St) (v : ByteArray) (w : World) (hs : s.size ≤ 1048576) (hv : v.size ≤ maxLen) (hg : Glob w) (h : isBd s.data.toList = true) (h2 : stL s.data.toList t = true) (h3 : isWord v.data.toList = true) (h4 : stopT s.data.toList t v.data.toList ≠ v.size) : Calls Tryd.prog 17 #[.string s, St.v t, .string v] w (fun e w' => e = .returned (.tuple #[.slice none 0 0, .bool false]) ∧ Below w.heap.size w w') := by
  have HG := hide (show Glob (w.alloc (.cells #[.int .i64 t.x, .int .i64 t.y, .int .i64 t.d.t, .int .i64 t.d.n, .int .i64 t.d.e, .int .i64 t.d.s, .int .i64 t.d.w, .int .i64 t.d.b] 28)) from glob_to (w0 := w) ((Below.refl _ _).alloc (Nat.le_refl _) _) hg rfl)
  clear hg
  have hlen : v.size ≤ 60 := by have := isWord_len h3; simpa using this
  have HK := hide h4
  have H := hide h
  have HST := hide h2
  have HW := hide h3
  clear h h2 h3 h4
  go_enter Tryd.func17, Tryd.ntmps17
  go_wp2_with fail
  refine (sa_short s t v _ hs hv HG.out H.out HST.out HW.out HK.out).mono ?_
  rintro e w1 ⟨rfl, hb1⟩
  have q0 : Below w.heap.size w w1 := below_after (by go_grown) hb1 (by simp)
  clear hb1
  go_wp2
  go_returns
  exact ⟨rfl, q0⟩

set_option maxHeartbeats 3200000 in
theorem implTA_all (s : ByteArray) (t : St) (v : ByteArray) (w : World) (hs : s.size ≤ 1048576) (hv : v.size ≤ maxLen) (hg : Glob w) (h : isBd s.data.toList = true) (h2 : stL s.data.toList t = true) (h3 : isWord v.data.toList = true) (h4 : stopT s.data.toList t v.data.toList = v.size) : Calls Tryd.prog 17 #[.string s, St.v t, .string v] w (fun e w' => ∃ vv, e = .returned (.tuple #[vv, .bool true]) ∧ w'.ownsRow w.heap.size 3 1 vv (v.size + 1) (ints (topsT t v.data.toList v.size)) ∧ Below w.heap.size w w') := by
  have HG := hide (show Glob (w.alloc (.cells #[.int .i64 t.x, .int .i64 t.y, .int .i64 t.d.t, .int .i64 t.d.n, .int .i64 t.d.e, .int .i64 t.d.s, .int .i64 t.d.w, .int .i64 t.d.b] 28)) from glob_to (w0 := w) ((Below.refl _ _).alloc (Nat.le_refl _) _) hg rfl)
  clear hg
  have HGD := hide (show goodB t.d = true from (Bool.and_eq_true_iff.1 h2).2)
  have hlen : v.size ≤ 60 := by have := isWord_len h3; simpa using this
  have HK := hide h4
  have H := hide h
  have HST := hide h2
  have HW := hide h3
  clear h h2 h3 h4
  obtain ⟨i0, hi, hz0, hz1, hz2⟩ := info_parts info_intI
  have HI := hide hi
  have HZ0 := hide hz0
  have HZ1 := hide hz1
  have HZ2 := hide hz2
  clear hi hz0 hz1 hz2
  go_enter Tryd.func17, Tryd.ntmps17
  go_wp2_with fail
  refine (sa_all s t v _ hs hv HG.out H.out HST.out HW.out HK.out).mono ?_
  rintro e w1 ⟨gq, rfl, hown, hb1⟩
  have hn : 0 < v.size + 1 := by omega
  have q0 : Below w.heap.size w w1 := below_after (by go_grown) hb1 (by simp)
  have O1 := own_mono hown (show w.heap.size ≤ _ from by simp)
  have hgq : gq < w1.heap.size := (hown.lt gq rfl).2
  clear hb1 hown
  have HO1 := hide O1
  clear O1
  go_wp2_with (at_make; refine wpList_make_full _ rfl _ _ 34 rfl w1.heap.size 3 i0 (.int .i64 0) 1 Tryd.underlying34 HI.out HZ0.out HZ1.out .i64 .i64 _ _ (v.size + 1) rfl rfl (by omega) (by omega) (by rw [HZ2.out]; omega) (by unfold maxLen; omega) (Nat.le_refl _) ?_; intro w0 hown0 hgrow0)
  have O0 := hide (HO1.out.kept hgrow0 (.inr (by simp [Value.ownBlock])))
  have q1 : Below w.heap.size w w0 := q0.grown hgrow0 q0.size (fun k hk => by cases hk)
  have hs0 := hgrow0.size
  generalize (madeCells (Value.int .i64 0).cells ((v.size + 1) * 1)).toList = made at hown0
  have hml : made.length = v.size + 1 := by have := hown0.1; omega
  generalize hg0 : w1.heap.size = g0 at hgq hown0 hs0 ⊢
  have hq0 : w.heap.size ≤ g0 := by have := q0.size; omega
  have HW0 := hide hown0
  clear hgrow0 HO1 hown0 q0 hg0
  go_wp2
  go_loopw [27, 11, 12] (fun i _ _ wr => ∃ k : Nat, k ≤ v.size + 1 ∧ i = .int .i64 (k : Int) ∧ wr.ownsRow g0 3 1 (.slice (some ⟨g0, 0, none⟩) (v.size + 1) (v.size + 1)) (v.size + 1) (rowK made (topsT t v.data.toList v.size) k) ∧ wr.ownsRow w.heap.size 28 8 (.slice (some ⟨gq, 0, none⟩) (v.size + 1) (v.size + 1)) (v.size + 1) (cellsS (waysT t v.data.toList v.size)) ∧ Below w.heap.size w wr) (fun i _ _ _ => v.size + 1 - (intOf i).toNat)
  case atStart => exact ⟨0, Nat.zero_le _, rfl, HW0.out, O0.out, q1⟩
  case round =>
    obtain ⟨k, hk, rfl, T, O, q⟩ := hrel
    clear HW0 O0 q1
    by_cases hlt : k < v.size + 1
    · obtain ⟨a0, a1, a2, a3, a4, a5, a6, a7⟩ := row_cells_at k O hlt (waysT_get t v.data.toList v.size k (by omega))
      have HT := hide (rowK_set made (topsT t v.data.toList v.size) k (atT t v.data.toList k).d.t (by omega) (topsT_get t v.data.toList v.size k (by omega)))
      generalize rowK made (topsT t v.data.toList v.size) k = P at T HT
      generalize atT t v.data.toList k = u at a0 a1 a2 a3 a4 a5 a6 a7 HT
      have hbg : g0 < wr.heap.size := (T.lt g0 rfl).2
      have hk0 : (k : Int) < ((v.size + 1 : Nat) : Int) := by omega
      obtain ⟨l1, ⟨c0, c1, c2, c3, c4, c5, c6, c7⟩, -⟩ := (IsS.new (w := wr) (s := u) (ty := 28)).all
      obtain ⟨y, hy⟩ : ∃ y, P[k]? = some y := ⟨P[k]'(by have := T.1; omega), List.getElem?_eq_getElem (by have := T.1; omega)⟩
      have d0 := (T.cellAt k (by omega)).trans hy
      have df := own_free T k
      have T3 := hide ((own_put T k (by omega) (.int .i64 u.d.t)).alloc (.cells #[.int .i64 u.x, .int .i64 u.y, .int .i64 u.d.t, .int .i64 u.d.n, .int .i64 u.d.e, .int .i64 u.d.s, .int .i64 u.d.w, .int .i64 u.d.b] 28))
      have O3 := hide ((ownsRow_setCell_other O (a := ⟨g0, k, none⟩) (by simp [Value.ownBlock]; omega) (.int .i64 u.d.t)).alloc (.cells #[.int .i64 u.x, .int .i64 u.y, .int .i64 u.d.t, .int .i64 u.d.n, .int .i64 u.d.e, .int .i64 u.d.s, .int .i64 u.d.w, .int .i64 u.d.b] 28))
      have q3 := q.setCell (p := ⟨g0, k, none⟩) hq0 (.int .i64 u.d.t)
      have q4 := q3.alloc q3.size (.cells #[.int .i64 u.x, .int .i64 u.y, .int .i64 u.d.t, .int .i64 u.d.n, .int .i64 u.d.e, .int .i64 u.d.s, .int .i64 u.d.w, .int .i64 u.d.b] 28)
      clear T O q q3 hy
      go_wp2
      go_roundw
      case rel => exact ⟨k + 1, by omega, by go_num, by rw [← HT.out]; exact T3.out, O3.out, q4⟩
      case measure => simp [intOf] <;> omega
    · obtain rfl : k = v.size + 1 := by omega
      rw [rowK_done made _ (v.size + 1) hml (topsT_len _ _ _)] at T
      have HT := hide (own_mono T hq0)
      clear O T
      go_wp2
      go_returns
      exact ⟨_, rfl, HT.out, q⟩

set_option maxHeartbeats 3200000 in
theorem implST_bad (s : ByteArray) (t : St) (v : ByteArray) (w : World) (hs : s.size ≤ 1048576) (hv : v.size ≤ maxLen) (hg : Glob w) (h : isBd s.data.toList = false) : Calls Tryd.prog 22 #[.string s, St.v t, .string v] w (fun e w' => e = .returned (.tuple #[.int .i64 0, .bool false]) ∧ Below w.heap.size w w') := by
  have HG := hide (show Glob (w.alloc (.cells #[.int .i64 t.x, .int .i64 t.y, .int .i64 t.d.t, .int .i64 t.d.n, .int .i64 t.d.e, .int .i64 t.d.s, .int .i64 t.d.w, .int .i64 t.d.b] 28)) from glob_to (w0 := w) ((Below.refl _ _).alloc (Nat.le_refl _) _) hg rfl)
  clear hg
  have H := hide h
  clear h
  go_enter Tryd.func22, Tryd.ntmps22
  go_wp2_with fail
  refine (implTA_bad s t v _ hs hv HG.out H.out).mono ?_
  rintro e w1 ⟨rfl, hb1⟩
  have q0 : Below w.heap.size w w1 := below_after (by go_grown) hb1 (by simp)
  clear hb1
  go_wp2
  go_returns
  exact ⟨rfl, q0⟩

set_option maxHeartbeats 3200000 in
theorem implST_off (s : ByteArray) (t : St) (v : ByteArray) (w : World) (hs : s.size ≤ 1048576) (hv : v.size ≤ maxLen) (hg : Glob w) (h : isBd s.data.toList = true) (h2 : stL s.data.toList t = false) : Calls Tryd.prog 22 #[.string s, St.v t, .string v] w (fun e w' => e = .returned (.tuple #[.int .i64 0, .bool false]) ∧ Below w.heap.size w w') := by
  have HG := hide (show Glob (w.alloc (.cells #[.int .i64 t.x, .int .i64 t.y, .int .i64 t.d.t, .int .i64 t.d.n, .int .i64 t.d.e, .int .i64 t.d.s, .int .i64 t.d.w, .int .i64 t.d.b] 28)) from glob_to (w0 := w) ((Below.refl _ _).alloc (Nat.le_refl _) _) hg rfl)
  clear hg
  have H := hide h
  have HST := hide h2
  clear h h2
  go_enter Tryd.func22, Tryd.ntmps22
  go_wp2_with fail
  refine (implTA_off s t v _ hs hv HG.out H.out HST.out).mono ?_
  rintro e w1 ⟨rfl, hb1⟩
  have q0 : Below w.heap.size w w1 := below_after (by go_grown) hb1 (by simp)
  clear hb1
  go_wp2
  go_returns
  exact ⟨rfl, q0⟩

set_option maxHeartbeats 3200000 in
theorem implST_word (s : ByteArray) (t : St) (v : ByteArray) (w : World) (hs : s.size ≤ 1048576) (hv : v.size ≤ maxLen) (hg : Glob w) (h : isBd s.data.toList = true) (h2 : stL s.data.toList t = true) (h3 : isWord v.data.toList = false) : Calls Tryd.prog 22 #[.string s, St.v t, .string v] w (fun e w' => e = .returned (.tuple #[.int .i64 0, .bool false]) ∧ Below w.heap.size w w') := by
  have HG := hide (show Glob (w.alloc (.cells #[.int .i64 t.x, .int .i64 t.y, .int .i64 t.d.t, .int .i64 t.d.n, .int .i64 t.d.e, .int .i64 t.d.s, .int .i64 t.d.w, .int .i64 t.d.b] 28)) from glob_to (w0 := w) ((Below.refl _ _).alloc (Nat.le_refl _) _) hg rfl)
  clear hg
  have H := hide h
  have HST := hide h2
  have HW := hide h3
  clear h h2 h3
  go_enter Tryd.func22, Tryd.ntmps22
  go_wp2_with fail
  refine (implTA_word s t v _ hs hv HG.out H.out HST.out HW.out).mono ?_
  rintro e w1 ⟨rfl, hb1⟩
  have q0 : Below w.heap.size w w1 := below_after (by go_grown) hb1 (by simp)
  clear hb1
  go_wp2
  go_returns
  exact ⟨rfl, q0⟩

set_option maxHeartbeats 3200000 in
theorem implST_short (s : ByteArray) (t : St) (v : ByteArray) (w : World) (hs : s.size ≤ 1048576) (hv : v.size ≤ maxLen) (hg : Glob w) (h : isBd s.data.toList = true) (h2 : stL s.data.toList t = true) (h3 : isWord v.data.toList = true) (h4 : stopT s.data.toList t v.data.toList ≠ v.size) : Calls Tryd.prog 22 #[.string s, St.v t, .string v] w (fun e w' => e = .returned (.tuple #[.int .i64 0, .bool false]) ∧ Below w.heap.size w w') := by
  have HG := hide (show Glob (w.alloc (.cells #[.int .i64 t.x, .int .i64 t.y, .int .i64 t.d.t, .int .i64 t.d.n, .int .i64 t.d.e, .int .i64 t.d.s, .int .i64 t.d.w, .int .i64 t.d.b] 28)) from glob_to (w0 := w) ((Below.refl _ _).alloc (Nat.le_refl _) _) hg rfl)
  clear hg
  have hlen : v.size ≤ 60 := by have := isWord_len h3; simpa using this
  have HK := hide h4
  have H := hide h
  have HST := hide h2
  have HW := hide h3
  clear h h2 h3 h4
  go_enter Tryd.func22, Tryd.ntmps22
  go_wp2_with fail
  refine (implTA_short s t v _ hs hv HG.out H.out HST.out HW.out HK.out).mono ?_
  rintro e w1 ⟨rfl, hb1⟩
  have q0 : Below w.heap.size w w1 := below_after (by go_grown) hb1 (by simp)
  clear hb1
  go_wp2
  go_returns
  exact ⟨rfl, q0⟩

set_option maxHeartbeats 3200000 in
theorem implST_all (s : ByteArray) (t : St) (v : ByteArray) (w : World) (hs : s.size ≤ 1048576) (hv : v.size ≤ maxLen) (hg : Glob w) (h : isBd s.data.toList = true) (h2 : stL s.data.toList t = true) (h3 : isWord v.data.toList = true) (h4 : stopT s.data.toList t v.data.toList = v.size) : Calls Tryd.prog 22 #[.string s, St.v t, .string v] w (fun e w' => e = .returned (.tuple #[.int .i64 (sumT t v.data.toList (v.size + 1)), .bool true]) ∧ Below w.heap.size w w') := by
  have HG := hide (show Glob (w.alloc (.cells #[.int .i64 t.x, .int .i64 t.y, .int .i64 t.d.t, .int .i64 t.d.n, .int .i64 t.d.e, .int .i64 t.d.s, .int .i64 t.d.w, .int .i64 t.d.b] 28)) from glob_to (w0 := w) ((Below.refl _ _).alloc (Nat.le_refl _) _) hg rfl)
  clear hg
  have HGD := hide (show goodB t.d = true from (Bool.and_eq_true_iff.1 h2).2)
  have hlen : v.size ≤ 60 := by have := isWord_len h3; simpa using this
  have HK := hide h4
  have H := hide h
  have HST := hide h2
  have HW := hide h3
  clear h h2 h3 h4
  go_enter Tryd.func22, Tryd.ntmps22
  go_wp2_with fail
  refine (implTA_all s t v _ hs hv HG.out H.out HST.out HW.out HK.out).mono ?_
  rintro e w1 ⟨vv, rfl, hown, hb1⟩
  have q0 : Below w.heap.size w w1 := below_after (by go_grown) hb1 (by simp)
  obtain ⟨g, cap, rfl, -, -⟩ := own_form hown (by omega)
  have HO := hide hown
  clear hb1 hown
  go_wp2
  go_loop [24, 10, 12] (fun i x _ => ∃ k : Nat, k ≤ v.size + 1 ∧ i = .int .i64 (k : Int) ∧ x = .int .i64 (sumT t v.data.toList k)) (fun i _ _ => v.size + 1 - (intOf i).toNat)
  case atStart => exact ⟨0, Nat.zero_le _, rfl, rfl⟩
  case round =>
    obtain ⟨k, hk, rfl, rfl⟩ := hrel
    by_cases hlt : k < v.size + 1
    · have c0 := ints_cell HO.out k _ (topsT_get t v.data.toList v.size k (by omega))
      have hsum := sumT_near t v.data.toList HGD.out k
      have htop := goodB_at t v.data.toList k HGD.out
      have HS := hide (show sumT t v.data.toList (k + 1) = sumT t v.data.toList k + (atT t v.data.toList k).d.t from rfl)
      generalize sumT t v.data.toList k = S at hsum HS
      generalize (atT t v.data.toList k).d.t = u at c0 htop HS
      have hk0 : (k : Int) < ((v.size + 1 : Nat) : Int) := by omega
      have w1q : IntKind.i64.wrap (S + u) = S + u := IntWalk.i64_in _ (by omega)
      go_wp2
      go_round
      case rel => exact ⟨k + 1, by omega, by go_num, by rw [HS.out]⟩
      case measure => simp [intOf] <;> omega
    · obtain rfl : k = v.size + 1 := by omega
      generalize hS : sumT t v.data.toList (v.size + 1) = S
      have HS := hide hS
      clear hS
      go_wp2
      go_returns
      exact ⟨by rw [HS.out]; rfl, q0⟩
theorem specST_any (s : ByteArray) (t : St) (v : ByteArray) (w : World) (hs : s.size ≤ 1048576) (hv : v.size ≤ 1048576) : Calls Tryd.prog 21 #[.string s, St.v t, .string v] w (fun e w' => e = .returned (.tuple #[.int .i64 (soV s.data.toList t v.data.toList), .bool (raB s.data.toList t v.data.toList)]) ∧ Below w.heap.size w w') := by
  unfold soV
  have hl : v.data.toList.length = v.size := by simp
  cases h : isBd s.data.toList
  · have e : raB s.data.toList t v.data.toList = false := by unfold raB; rw [h]; rfl
    rw [e, if_neg (by decide)]
    exact specST_bad s t v w hs (bigLen hv) h
  · cases h2 : stL s.data.toList t
    · have e : raB s.data.toList t v.data.toList = false := by unfold raB; rw [h, h2]; rfl
      rw [e, if_neg (by decide)]
      exact specST_off s t v w hs (bigLen hv) h h2
    · cases h3 : isWord v.data.toList
      · have e : raB s.data.toList t v.data.toList = false := by unfold raB; rw [h, h2, h3]; rfl
        rw [e, if_neg (by decide)]
        exact specST_word s t v w hs (bigLen hv) h h2 h3
      · by_cases h4 : stopT s.data.toList t v.data.toList = v.size
        · have e : raB s.data.toList t v.data.toList = true := by unfold raB; rw [h, h2, h3, hl, h4]; simp
          rw [e, if_pos rfl, hl]
          exact specST_all s t v w hs (bigLen hv) h h2 h3 h4
        · have e : raB s.data.toList t v.data.toList = false := by unfold raB; rw [h, h2, h3, hl]; simp [h4]
          rw [e, if_neg (by decide)]
          exact specST_short s t v w hs (bigLen hv) h h2 h3 h4
theorem specTA_any (s : ByteArray) (t : St) (v : ByteArray) (w : World) (hs : s.size ≤ 1048576) (hv : v.size ≤ 1048576) : Calls Tryd.prog 16 #[.string s, St.v t, .string v] w (fun e w' => ∃ vv, e = .returned (.tuple #[vv, .bool (raB s.data.toList t v.data.toList)]) ∧ w'.ownsRow w.heap.size 3 1 vv (toV s.data.toList t v.data.toList).length (ints (toV s.data.toList t v.data.toList)) ∧ Below w.heap.size w w') := by
  unfold toV
  have hl : v.data.toList.length = v.size := by simp
  cases h : isBd s.data.toList
  · have e : raB s.data.toList t v.data.toList = false := by unfold raB; rw [h]; rfl
    rw [e, if_neg (by decide)]
    exact (specTA_bad s t v w hs (bigLen hv) h).mono fun e w' h => ⟨_, h.1, World.ownsRow_nil _ _ _ _, h.2⟩
  · cases h2 : stL s.data.toList t
    · have e : raB s.data.toList t v.data.toList = false := by unfold raB; rw [h, h2]; rfl
      rw [e, if_neg (by decide)]
      exact (specTA_off s t v w hs (bigLen hv) h h2).mono fun e w' h => ⟨_, h.1, World.ownsRow_nil _ _ _ _, h.2⟩
    · cases h3 : isWord v.data.toList
      · have e : raB s.data.toList t v.data.toList = false := by unfold raB; rw [h, h2, h3]; rfl
        rw [e, if_neg (by decide)]
        exact (specTA_word s t v w hs (bigLen hv) h h2 h3).mono fun e w' h => ⟨_, h.1, World.ownsRow_nil _ _ _ _, h.2⟩
      · by_cases h4 : stopT s.data.toList t v.data.toList = v.size
        · have e : raB s.data.toList t v.data.toList = true := by unfold raB; rw [h, h2, h3, hl, h4]; simp
          rw [e, if_pos rfl, hl]
          rw [topsT_len]; exact specTA_all s t v w hs (bigLen hv) h h2 h3 h4
        · have e : raB s.data.toList t v.data.toList = false := by unfold raB; rw [h, h2, h3, hl]; simp [h4]
          rw [e, if_neg (by decide)]
          exact (specTA_short s t v w hs (bigLen hv) h h2 h3 h4).mono fun e w' h => ⟨_, h.1, World.ownsRow_nil _ _ _ _, h.2⟩
theorem implST_any (s : ByteArray) (t : St) (v : ByteArray) (w : World) (hs : s.size ≤ 1048576) (hv : v.size ≤ 1048576) (hg : Glob w) : Calls Tryd.prog 22 #[.string s, St.v t, .string v] w (fun e w' => e = .returned (.tuple #[.int .i64 (soV s.data.toList t v.data.toList), .bool (raB s.data.toList t v.data.toList)]) ∧ Below w.heap.size w w') := by
  unfold soV
  have hl : v.data.toList.length = v.size := by simp
  cases h : isBd s.data.toList
  · have e : raB s.data.toList t v.data.toList = false := by unfold raB; rw [h]; rfl
    rw [e, if_neg (by decide)]
    exact implST_bad s t v w hs (bigLen hv) hg h
  · cases h2 : stL s.data.toList t
    · have e : raB s.data.toList t v.data.toList = false := by unfold raB; rw [h, h2]; rfl
      rw [e, if_neg (by decide)]
      exact implST_off s t v w hs (bigLen hv) hg h h2
    · cases h3 : isWord v.data.toList
      · have e : raB s.data.toList t v.data.toList = false := by unfold raB; rw [h, h2, h3]; rfl
        rw [e, if_neg (by decide)]
        exact implST_word s t v w hs (bigLen hv) hg h h2 h3
      · by_cases h4 : stopT s.data.toList t v.data.toList = v.size
        · have e : raB s.data.toList t v.data.toList = true := by unfold raB; rw [h, h2, h3, hl, h4]; simp
          rw [e, if_pos rfl, hl]
          exact implST_all s t v w hs (bigLen hv) hg h h2 h3 h4
        · have e : raB s.data.toList t v.data.toList = false := by unfold raB; rw [h, h2, h3, hl]; simp [h4]
          rw [e, if_neg (by decide)]
          exact implST_short s t v w hs (bigLen hv) hg h h2 h3 h4
theorem implTA_any (s : ByteArray) (t : St) (v : ByteArray) (w : World) (hs : s.size ≤ 1048576) (hv : v.size ≤ 1048576) (hg : Glob w) : Calls Tryd.prog 17 #[.string s, St.v t, .string v] w (fun e w' => ∃ vv, e = .returned (.tuple #[vv, .bool (raB s.data.toList t v.data.toList)]) ∧ w'.ownsRow w.heap.size 3 1 vv (toV s.data.toList t v.data.toList).length (ints (toV s.data.toList t v.data.toList)) ∧ Below w.heap.size w w') := by
  unfold toV
  have hl : v.data.toList.length = v.size := by simp
  cases h : isBd s.data.toList
  · have e : raB s.data.toList t v.data.toList = false := by unfold raB; rw [h]; rfl
    rw [e, if_neg (by decide)]
    exact (implTA_bad s t v w hs (bigLen hv) hg h).mono fun e w' h => ⟨_, h.1, World.ownsRow_nil _ _ _ _, h.2⟩
  · cases h2 : stL s.data.toList t
    · have e : raB s.data.toList t v.data.toList = false := by unfold raB; rw [h, h2]; rfl
      rw [e, if_neg (by decide)]
      exact (implTA_off s t v w hs (bigLen hv) hg h h2).mono fun e w' h => ⟨_, h.1, World.ownsRow_nil _ _ _ _, h.2⟩
    · cases h3 : isWord v.data.toList
      · have e : raB s.data.toList t v.data.toList = false := by unfold raB; rw [h, h2, h3]; rfl
        rw [e, if_neg (by decide)]
        exact (implTA_word s t v w hs (bigLen hv) hg h h2 h3).mono fun e w' h => ⟨_, h.1, World.ownsRow_nil _ _ _ _, h.2⟩
      · by_cases h4 : stopT s.data.toList t v.data.toList = v.size
        · have e : raB s.data.toList t v.data.toList = true := by unfold raB; rw [h, h2, h3, hl, h4]; simp
          rw [e, if_pos rfl, hl]
          rw [topsT_len]; exact implTA_all s t v w hs (bigLen hv) hg h h2 h3 h4
        · have e : raB s.data.toList t v.data.toList = false := by unfold raB; rw [h, h2, h3, hl]; simp [h4]
          rw [e, if_neg (by decide)]
          exact (implTA_short s t v w hs (bigLen hv) hg h h2 h3 h4).mono fun e w' h => ⟨_, h.1, World.ownsRow_nil _ _ _ _, h.2⟩

set_option maxHeartbeats 1600000 in
theorem walk_SumOfTops (v : ByteArray) (hv : v.size ≤ maxLen) (t : St) (htx : (Lit.int .i64 t.x).wf = true) (hty : (Lit.int .i64 t.y).wf = true) (u : ByteArray) (hu : u.size ≤ maxLen) (w : World) (hg : Glob w) : Calls Tryd.prog 6 #[.string v, St.v t, .string u] w fun e w' => e = .returned (.bool true) ∧ Below w.heap.size w w' := by
  have HGL := hide hg
  clear hg
  by_cases h0 : v.size ≤ 1048576
  · have HS0 := hide h0
    by_cases h1 : u.size ≤ 1048576
    · have HS1 := hide h1
      go_enter Tryd.func6, Tryd.ntmps6
      go_wp2_with fail
      refine (toState_any t _).mono ?_
      rintro e w1 ⟨rfl, hb1⟩
      have u1 := isS_to hb1 (IsS.new (w := w) (s := t) (ty := 25)) rfl
      have q1 : Below w.heap.size w w1 := below_after (by go_grown) hb1 (by simp)
      clear hb1
      go_wp2_with fail
      refine (specST_any v t u _ HS0.out HS1.out).mono ?_
      rintro e w2 ⟨rfl, hb2⟩
      have u2 := isS_to hb2 u1 rfl
      have q2 := below_to hb2 q1 q1.size rfl rfl rfl rfl
      clear hb2 u1 q1
      generalize hz0 : soV v.data.toList t u.data.toList = z0
      have HZ0 := hide hz0
      clear hz0
      generalize hz1 : raB v.data.toList t u.data.toList = z1
      have HZ1 := hide hz1
      clear hz1
      obtain ⟨l1, ⟨c0, c1, c2, c3, c4, c5, c6, c7⟩, -⟩ := u2.all
      go_wp2_with fail
      clear c0 c1 c2 c3 c4 c5 c6 c7 l1
      refine (toState_any t _).mono ?_
      rintro e w3 ⟨rfl, hb3⟩
      have q3 := below_to hb3 q2 q2.size rfl rfl rfl rfl
      have hg3 := hide (show Glob w3 from by
        have hl := HGL.out.lt
        obtain ⟨m, hm⟩ := HGL.out
        exact ⟨m, (q3.cell (p := ⟨0, 0, none⟩) hl).trans hm⟩)
      clear hb3 u2 q2
      go_wp2_with fail
      refine (implST_any v t u _ HS0.out HS1.out hg3.out).mono ?_
      rintro e w4 ⟨rfl, hb4⟩
      rw [HZ0.out, HZ1.out]
      have q4 := below_to hb4 q3 q3.size rfl rfl rfl rfl
      have e1 : (z1 != z1) = false := by simp
      go_wp2
      go_returns
      exact ⟨rfl, q4⟩
    · go_enter Tryd.func6, Tryd.ntmps6
      go_wp2
      go_returns
      exact ⟨rfl, by go_grown⟩
  · go_enter Tryd.func6, Tryd.ntmps6
    go_wp2
    go_returns
    exact ⟨rfl, by go_grown⟩
theorem TopsAlong_len (v : ByteArray) (t : St) (u : ByteArray) : (toV v.data.toList t u.data.toList).length ≤ 100000 := by
  unfold toV
  split
  · rename_i h
    unfold raB at h
    simp only [Bool.and_eq_true] at h
    have := isWord_len h.2.2.1
    rw [topsT_len]
    omega
  · exact Nat.zero_le _

set_option maxHeartbeats 3200000 in
theorem walk_TopsAlong (v : ByteArray) (hv : v.size ≤ maxLen) (t : St) (htx : (Lit.int .i64 t.x).wf = true) (hty : (Lit.int .i64 t.y).wf = true) (u : ByteArray) (hu : u.size ≤ maxLen) (w : World) (hg : Glob w) : Calls Tryd.prog 5 #[.string v, St.v t, .string u] w fun e w' => e = .returned (.bool true) ∧ Below w.heap.size w w' := by
  have HGL := hide hg
  clear hg
  by_cases h0 : v.size ≤ 1048576
  · have HS0 := hide h0
    by_cases h1 : u.size ≤ 1048576
    · have HS1 := hide h1
      have hlen := hide (show (toV v.data.toList t u.data.toList).length ≤ 100000 from TopsAlong_len v t u)
      go_enter Tryd.func5, Tryd.ntmps5
      go_wp2_with fail
      refine (toState_any t _).mono ?_
      rintro e w1 ⟨rfl, hb1⟩
      have u1 := isS_to hb1 (IsS.new (w := w) (s := t) (ty := 25)) rfl
      have q1 : Below w.heap.size w w1 := below_after (by go_grown) hb1 (by simp)
      clear hb1
      go_wp2_with fail
      refine (specTA_any v t u _ HS0.out HS1.out).mono ?_
      rintro e w2 ⟨v0, rfl, O2, hb2⟩
      have u2 := isS_to hb2 u1 rfl
      have q2 := below_to hb2 q1 q1.size rfl rfl rfl rfl
      clear hb2 u1
      have HIM := hide (fun wx (hx : Glob wx) => implTA_any v t u wx HS0.out HS1.out hx)
      generalize (toV v.data.toList t u.data.toList) = Z at hlen O2 HIM
      generalize raB v.data.toList t u.data.toList = ok at HIM ⊢
      obtain ⟨l1, ⟨c0, c1, c2, c3, c4, c5, c6, c7⟩, -⟩ := u2.all
      go_wp2_with fail
      clear c0 c1 c2 c3 c4 c5 c6 c7 l1
      refine (toState_any t _).mono ?_
      rintro e w3 ⟨rfl, hb3⟩
      have u3 := isS_to hb3 u2 rfl
      have q3 := below_to hb3 q2 q2.size rfl rfl rfl rfl
      have O3 := own_to hb3 O2 rfl
      have hg3 := hide (show Glob w3 from by
        have hl := HGL.out.lt
        obtain ⟨m, hm⟩ := HGL.out
        exact ⟨m, (q3.cell (p := ⟨0, 0, none⟩) hl).trans hm⟩)
      have hlt3 : ∀ g, v0.ownBlock = some g → g < w3.heap.size := fun g hg => (O3.lt g hg).2
      clear hb3 u2 O2 q2
      go_wp2_with fail
      refine (HIM.out _ hg3.out).mono ?_
      rintro e w4 ⟨v1, rfl, G4, hb4⟩
      have u4 := isS_to hb4 u3 rfl
      have q4 := below_to hb4 q3 q3.size rfl rfl rfl rfl
      have O4 := own_to hb4 O3 rfl
      have hw3 : w.heap.size < w3.heap.size := u3.lt
      clear hb4 u3 O3 hg3
      go_wp2_with fail
      refine (eqIntS_any v1 v0 Z.length w3.heap.size w1.heap.size Z w4 (by have := hlen.out; omega) G4 O4).mono ?_
      rintro e w5 ⟨rfl, hb5⟩
      have u5 := isS_to hb5 u4 rfl
      have q5 := below_to hb5 q4 q4.size rfl rfl rfl rfl
      have O5 := own_to hb5 O4 rfl
      have G5 := own_to hb5 G4 rfl
      clear hb5 u4 O4 G4 q4
      have e1 : (ok != ok) = false := by simp
      go_wp2_with fail
      refine (markIntS_any v1 Z.length w3.heap.size Z 1 w5 (by have := hlen.out; omega) (by omega) G5).mono ?_
      rintro e w6 ⟨rfl, G6, hb6⟩
      have u6 : IsS w6 w.heap.size t 25 := (hb6.block _ hw3).trans u5
      have q6 : Below w.heap.size w w6 := q5.trans (hb6.mono (by omega))
      have O6 := own_below hb6 O5 hlt3
      clear hb6 u5 O5 G5 q5
      generalize hN : ((Z.length : Nat) : Int) = N at *
      have hN0 : 0 ≤ N := by omega
      have HN := hide hN
      clear hN
      go_wp2_with fail
      refine (heldIntS_any v1 Z.length w3.heap.size 1 w6 (by have := hlen.out; omega) (by omega) G6).mono ?_
      rintro e w7 ⟨rfl, rfl⟩
      rw [HN.out]
      have n1 : ¬ (1 + N < 0) := by omega
      have n2 : ((1 + N) != (1 + N)) = false := by simp
      obtain ⟨l1, ⟨c0, c1, c2, c3, c4, c5, c6, c7⟩, -⟩ := u6.all
      go_wp2_with fail
      clear c0 c1 c2 c3 c4 c5 c6 c7 l1
      refine (toState_any t _).mono ?_
      rintro e w8 ⟨rfl, hb8⟩
      have q8 := below_to hb8 q6 q6.size rfl rfl rfl rfl
      have O8 := own_to hb8 O6 rfl
      have G8 := own_to hb8 G6 rfl
      have hg8 := hide (show Glob w8 from by
        have hl := HGL.out.lt
        obtain ⟨m, hm⟩ := HGL.out
        exact ⟨m, (q8.cell (p := ⟨0, 0, none⟩) hl).trans hm⟩)
      clear hb8 u6 O6 G6 q6
      go_wp2_with fail
      refine (HIM.out _ hg8.out).mono ?_
      rintro e w9 ⟨v2, rfl, H9, hb9⟩
      have q9 := below_to hb9 q8 q8.size rfl rfl rfl rfl
      have O9 := own_to hb9 O8 rfl
      have G9 := own_to hb9 G8 rfl
      clear hb9 O8 G8 hg8 q8
      go_wp2_with fail
      refine (eqIntS_any v2 v0 Z.length w8.heap.size w1.heap.size Z w9 (by have := hlen.out; omega) H9 O9).mono ?_
      rintro e w10 ⟨rfl, hb10⟩
      have q10 := below_to hb10 q9 q9.size rfl rfl rfl rfl
      have G10 := own_to hb10 G9 rfl
      clear hb10 O9 G9 H9 q9
      go_wp2_with fail
      refine (heldIntS_any v1 Z.length w3.heap.size 1 w10 (by have := hlen.out; omega) (by omega) G10).mono ?_
      rintro e w11 ⟨rfl, rfl⟩
      rw [HN.out]
      go_wp2
      go_returns
      exact ⟨rfl, q10⟩
    · go_enter Tryd.func5, Tryd.ntmps5
      go_wp2
      go_returns
      exact ⟨rfl, by go_grown⟩
  · go_enter Tryd.func5, Tryd.ntmps5
    go_wp2
    go_returns
    exact ⟨rfl, by go_grown⟩
end Go.Proofs.YtballmdcalfdnaaDoor
