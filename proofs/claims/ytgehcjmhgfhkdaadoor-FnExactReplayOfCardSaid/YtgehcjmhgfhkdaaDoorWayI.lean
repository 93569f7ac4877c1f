/- The contract of impl.wayUntilStop. -/
import Derived.Test.YtgehcjmhgfhkdaaDoorWays
import Derived.Test.YtgehcjmhgfhkdaaDoorRollSt
import Derived.Test.YtgehcjmhgfhkdaaDoorWalksA
import Derived.Laws.OwnMore
import Derived.WalkMore
namespace Go.Proofs.YtgehcjmhgfhkdaaDoor
set_option maxRecDepth 100000
set_option linter.all false
open Go.RowKit

theorem wpList_make_one {P : Program} (w : World) {ops : Array Oper} {rest : List Oper} {o : Oper} {a : Act} {Q : Exit → Act → World → Prop}
    (hg : o.guard = none) (l c : Operand) (t : TypeId) (hop : o.op = Op.makeSlice t l c)
    (base : Nat) (e : TypeId) (i : TypeInfo) (z : Value) (size : Nat) (h1 : P.underlying t = some (.slice e)) (h2 : P.info? e = some i) (h3 : i.zero = some z) (h4 : i.size = size)
    (kl kc : IntKind) (L C : Int) (n : Nat) (hl : a.eval l = .int kl L) (hc : a.eval c = .int kc C) (hL : L = 1) (hC : C = (n : Int)) (hn : 1 ≤ n) (b2 : i.bytes * n ≤ 281474976710656) (b3 : n ≤ maxLen) (b4 : base ≤ w.heap.size)
    (hK : ∀ w' xs, w'.ownsRow base e size (.slice (some ⟨w.heap.size, 0, none⟩) 1 n) 1 xs → w.grownBy w' none → wpList P ops Q rest (a.put o.dst (.slice (some ⟨w.heap.size, 0, none⟩) 1 n)) w') :
    wpList P ops Q (o :: rest) a w := by
  refine wpList_plain hg fun K hK' => ?_
  subst hL
  subst hC
  have hb' : (i.bytes : Int) * (n : Int) ≤ 281474976710656 := by
    have h : ((i.bytes * n : Nat) : Int) ≤ 281474976710656 := by omega
    rwa [Int.natCast_mul] at h
  have hrun := run_make (P := P) w t e i z h1 h2 h3 kl kc 1 n (by omega) (by omega) hb' (by unfold maxLen at b3; omega)
  rw [Int.toNat_natCast, h4, show (1 : Int).toNat = 1 from rfl] at hrun
  have hown : (w.alloc (.cells (madeCells z.cells (n * size)) e)).ownsRow base e size (.slice (some ⟨w.heap.size, 0, none⟩) 1 n) 1 ((madeCells z.cells (n * size)).toList.take (1 * size)) := by
    have h := World.ownsRow_made (e := e) w (madeCells z.cells (n * size)) n b4 b3 (size_madeCells _ _)
    obtain ⟨-, h⟩ := h
    have hsz := size_madeCells z.cells (n * size)
    have hle : 1 * size ≤ n * size := Nat.mul_le_mul_right _ hn
    rcases h with ⟨h0, _⟩ | ⟨g, cap, cur, hv, hb, hgg, _, hm, hcs, _⟩
    · cases h0
    · injection hv with hv1 hv2 hv3
      injection hv1 with hv1
      injection hv1 with hv1
      subst hv1
      subst hv3
      have hcur : cur = madeCells z.cells (n * size) := by
        have : (w.alloc (.cells (madeCells z.cells (n * size)) e)).heap[w.heap.size]? = some (.cells (madeCells z.cells (n * size)) e) := by
          show (w.heap.push _)[w.heap.size]? = _
          simp
        rw [this] at hgg
        injection hgg with hgg
        injection hgg with hgg
        exact hgg.symm
      subst hcur
      exact ⟨by rw [List.length_take, Array.length_toList, hsz]; omega, .inr ⟨w.heap.size, n, _, rfl, hb, hgg, hn, hm, hcs, rfl⟩⟩
  unfold Oper.wp
  simp [execOp, hop, hl, hc, hrun, Result.andThen]
  exact hK' _ _ (hK _ _ hown (World.grownBy_alloc w _ none))
theorem set8_list (xs : List Value) (h : xs.length = 8) (t : St) : ((((((((xs.set 0 (.int .i64 t.x)).set 1 (.int .i64 t.y)).set 2 (.int .i64 t.d.t)).set 3 (.int .i64 t.d.n)).set 4 (.int .i64 t.d.e)).set 5 (.int .i64 t.d.s)).set 6 (.int .i64 t.d.w)).set 7 (.int .i64 t.d.b)) = scells t := by
  match xs, h with
  | [_, _, _, _, _, _, _, _], _ => rfl
theorem own_store8 {w0 : World} {b B cap : Nat} {e : TypeId} {xs : List Value} {t : St} (h : w0.ownsRow b e 8 (.slice (some ⟨B, 0, none⟩) 1 cap) 1 xs) : (((((((((w0.setCell ⟨B, 0, none⟩ (.int .i64 t.x)).setCell ⟨B, 1, none⟩ (.int .i64 t.y)).setCell ⟨B, 2, none⟩ (.int .i64 t.d.t)).setCell ⟨B, 3, none⟩ (.int .i64 t.d.n)).setCell ⟨B, 4, none⟩ (.int .i64 t.d.e)).setCell ⟨B, 5, none⟩ (.int .i64 t.d.s)).setCell ⟨B, 6, none⟩ (.int .i64 t.d.w)).setCell ⟨B, 7, none⟩ (.int .i64 t.d.b))).ownsRow b e 8 (.slice (some ⟨B, 0, none⟩) 1 cap) 1 (scells t) := by
  have hl : xs.length = 8 := h.1
  rw [← set8_list xs hl t]
  exact ((((((((h.stored 0 _).1.stored 1 _).1.stored 2 _).1.stored 3 _).1.stored 4 _).1.stored 5 _).1.stored 6 _).1.stored 7 _).1
theorem row_cells {w : World} {b B k cap : Nat} {W : List St} {u : St} (h : w.ownsRow b 32 8 (.slice (some ⟨B, 0, none⟩) (k + 1) cap) (k + 1) (cellsS W)) (hu : W[k]? = some u) :
    w.cell? ⟨B, k * 8, none⟩ = some (.int .i64 u.x) ∧ w.cell? ⟨B, k * 8 + 1, none⟩ = some (.int .i64 u.y) ∧ w.cell? ⟨B, k * 8 + 2, none⟩ = some (.int .i64 u.d.t) ∧ w.cell? ⟨B, k * 8 + 3, none⟩ = some (.int .i64 u.d.n) ∧ w.cell? ⟨B, k * 8 + 4, none⟩ = some (.int .i64 u.d.e) ∧ w.cell? ⟨B, k * 8 + 5, none⟩ = some (.int .i64 u.d.s) ∧ w.cell? ⟨B, k * 8 + 6, none⟩ = some (.int .i64 u.d.w) ∧ w.cell? ⟨B, k * 8 + 7, none⟩ = some (.int .i64 u.d.b) := by
  have hh : ∀ j x, j < 8 → (scells u)[j]? = some x → w.cell? ⟨B, k * 8 + j, none⟩ = some x := fun j x hj hx => (h.cellAt (k * 8 + j) (by omega)).trans ((cellsS_get W k u hu j hj).trans hx)
  exact ⟨hh 0 _ (by omega) rfl, hh 1 _ (by omega) rfl, hh 2 _ (by omega) rfl, hh 3 _ (by omega) rfl, hh 4 _ (by omega) rfl, hh 5 _ (by omega) rfl, hh 6 _ (by omega) rfl, hh 7 _ (by omega) rfl⟩
theorem rollFn_cases (c : UInt8) (h : 0 ≤ dirIx c.toNat) : rollFn c = 129 ∨ rollFn c = 130 ∨ rollFn c = 131 ∨ rollFn c = 128 := by
  rcases dir_cases c h with rfl | rfl | rfl | rfl
  · exact .inl rfl
  · exact .inr (.inl rfl)
  · exact .inr (.inr (.inl rfl))
  · exact .inr (.inr (.inr rfl))
theorem way_cutA {w wr w2 : World} {s v : ByteArray} {B k : Nat} {r : St} {xs : List Value} (R : RowsAt wr (w.heap.size + 1 + 1) (rowsB s)) (O : wr.ownsRow (w.heap.size + 1 + 1 + 1) 32 8 (.slice (some ⟨B, 0, none⟩) (k + 1) (v.size + 1)) (k + 1) xs) (q : Below w.heap.size w wr)
    (hb : Below (wr.alloc (.cells #[.int .i64 0, .int .i64 0, .int .i64 0, .int .i64 0, .int .i64 0, .int .i64 0, .int .i64 0, .int .i64 0] 32)).drew.heap.size (wr.alloc (.cells #[.int .i64 0, .int .i64 0, .int .i64 0, .int .i64 0, .int .i64 0, .int .i64 0, .int .i64 0, .int .i64 0] 32)).drew w2) (N : IsS w2 wr.heap.size ⟨0, 0, ⟨0, 0, 0, 0, 0, 0⟩⟩ 32) : IsS (((((((((w2.setCell ⟨wr.heap.size, 0, none⟩ (.int .i64 r.x)).setCell ⟨wr.heap.size, 1, none⟩ (.int .i64 r.y)).setCell ⟨wr.heap.size, 2, none⟩ (.int .i64 r.d.t)).setCell ⟨wr.heap.size, 3, none⟩ (.int .i64 r.d.n)).setCell ⟨wr.heap.size, 4, none⟩ (.int .i64 r.d.e)).setCell ⟨wr.heap.size, 5, none⟩ (.int .i64 r.d.s)).setCell ⟨wr.heap.size, 6, none⟩ (.int .i64 r.d.w)).setCell ⟨wr.heap.size, 7, none⟩ (.int .i64 r.d.b))) wr.heap.size r 32 ∧ RowsAt ((((((((w2.setCell ⟨wr.heap.size, 0, none⟩ (.int .i64 r.x)).setCell ⟨wr.heap.size, 1, none⟩ (.int .i64 r.y)).setCell ⟨wr.heap.size, 2, none⟩ (.int .i64 r.d.t)).setCell ⟨wr.heap.size, 3, none⟩ (.int .i64 r.d.n)).setCell ⟨wr.heap.size, 4, none⟩ (.int .i64 r.d.e)).setCell ⟨wr.heap.size, 5, none⟩ (.int .i64 r.d.s)).setCell ⟨wr.heap.size, 6, none⟩ (.int .i64 r.d.w)).setCell ⟨wr.heap.size, 7, none⟩ (.int .i64 r.d.b)) (w.heap.size + 1 + 1) (rowsB s) ∧ ((((((((w2.setCell ⟨wr.heap.size, 0, none⟩ (.int .i64 r.x)).setCell ⟨wr.heap.size, 1, none⟩ (.int .i64 r.y)).setCell ⟨wr.heap.size, 2, none⟩ (.int .i64 r.d.t)).setCell ⟨wr.heap.size, 3, none⟩ (.int .i64 r.d.n)).setCell ⟨wr.heap.size, 4, none⟩ (.int .i64 r.d.e)).setCell ⟨wr.heap.size, 5, none⟩ (.int .i64 r.d.s)).setCell ⟨wr.heap.size, 6, none⟩ (.int .i64 r.d.w)).setCell ⟨wr.heap.size, 7, none⟩ (.int .i64 r.d.b)).ownsRow (w.heap.size + 1 + 1 + 1) 32 8 (.slice (some ⟨B, 0, none⟩) (k + 1) (v.size + 1)) (k + 1) xs ∧ Below w.heap.size w ((((((((w2.setCell ⟨wr.heap.size, 0, none⟩ (.int .i64 r.x)).setCell ⟨wr.heap.size, 1, none⟩ (.int .i64 r.y)).setCell ⟨wr.heap.size, 2, none⟩ (.int .i64 r.d.t)).setCell ⟨wr.heap.size, 3, none⟩ (.int .i64 r.d.n)).setCell ⟨wr.heap.size, 4, none⟩ (.int .i64 r.d.e)).setCell ⟨wr.heap.size, 5, none⟩ (.int .i64 r.d.s)).setCell ⟨wr.heap.size, 6, none⟩ (.int .i64 r.d.w)).setCell ⟨wr.heap.size, 7, none⟩ (.int .i64 r.d.b)) := by
  have q2 : Below w.heap.size w w2 := below_to hb (q.alloc q.size _) (by have := q.size; simp; omega) rfl rfl rfl rfl
  have hb8 : Below wr.heap.size wr (((((((((w2.setCell ⟨wr.heap.size, 0, none⟩ (.int .i64 r.x)).setCell ⟨wr.heap.size, 1, none⟩ (.int .i64 r.y)).setCell ⟨wr.heap.size, 2, none⟩ (.int .i64 r.d.t)).setCell ⟨wr.heap.size, 3, none⟩ (.int .i64 r.d.n)).setCell ⟨wr.heap.size, 4, none⟩ (.int .i64 r.d.e)).setCell ⟨wr.heap.size, 5, none⟩ (.int .i64 r.d.s)).setCell ⟨wr.heap.size, 6, none⟩ (.int .i64 r.d.w)).setCell ⟨wr.heap.size, 7, none⟩ (.int .i64 r.d.b))) := below_set8 (below_to hb ((Below.refl wr.heap.size wr).alloc (Nat.le_refl _) (.cells #[.int .i64 0, .int .i64 0, .int .i64 0, .int .i64 0, .int .i64 0, .int .i64 0, .int .i64 0, .int .i64 0] 32)) (by simp) rfl rfl rfl rfl) (Nat.le_refl _) r
  exact ⟨N.set8 r, rowsAt_to hb8 R rfl, own_to hb8 O rfl, below_set8 q2 q.size r⟩
theorem way_cutB {w wr w2 : World} {s v : ByteArray} {B k : Nat} {r : St} {xs : List Value} (R : RowsAt wr (w.heap.size + 1 + 1) (rowsB s)) (O : wr.ownsRow (w.heap.size + 1 + 1 + 1) 32 8 (.slice (some ⟨B, 0, none⟩) (k + 1) (v.size + 1)) (k + 1) xs) (q : Below w.heap.size w wr)
    (hb : Below wr.drew.heap.size wr.drew w2) : IsS (w2.alloc (.cells #[.int .i64 r.x, .int .i64 r.y, .int .i64 r.d.t, .int .i64 r.d.n, .int .i64 r.d.e, .int .i64 r.d.s, .int .i64 r.d.w, .int .i64 r.d.b] 32)) w2.heap.size r 32 ∧ RowsAt (w2.alloc (.cells #[.int .i64 r.x, .int .i64 r.y, .int .i64 r.d.t, .int .i64 r.d.n, .int .i64 r.d.e, .int .i64 r.d.s, .int .i64 r.d.w, .int .i64 r.d.b] 32)) (w.heap.size + 1 + 1) (rowsB s) ∧ (w2.alloc (.cells #[.int .i64 r.x, .int .i64 r.y, .int .i64 r.d.t, .int .i64 r.d.n, .int .i64 r.d.e, .int .i64 r.d.s, .int .i64 r.d.w, .int .i64 r.d.b] 32)).ownsRow (w.heap.size + 1 + 1 + 1) 32 8 (.slice (some ⟨B, 0, none⟩) (k + 1) (v.size + 1)) (k + 1) xs ∧ Below w.heap.size w (w2.alloc (.cells #[.int .i64 r.x, .int .i64 r.y, .int .i64 r.d.t, .int .i64 r.d.n, .int .i64 r.d.e, .int .i64 r.d.s, .int .i64 r.d.w, .int .i64 r.d.b] 32)) := by
  have q2 : Below w.heap.size w w2 := below_to hb q q.size rfl rfl rfl rfl
  exact ⟨IsS.new, rowsAt_to ((Below.refl _ _).alloc (Nat.le_refl _) _) (rowsAt_to hb R rfl) rfl, (own_to hb O rfl).alloc _, q2.alloc q2.size _⟩

set_option maxHeartbeats 16000000 in
theorem way_bad (s : ByteArray) (t : St) (v : ByteArray) (w : World) (hs : s.size ≤ 1048576) (hv : v.size ≤ maxLen) (hg : Glob w) (h : isBd s.data.toList = false) : Calls Tryd.prog 95 #[.string s, St.v t, .string v] w (fun e w' => e = .returned (.tuple #[.slice none 0 0, .bool false]) ∧ Below w.heap.size w w') := by
  have HG := hide (show Glob (w.alloc (.cells #[.int .i64 t.x, .int .i64 t.y, .int .i64 t.d.t, .int .i64 t.d.n, .int .i64 t.d.e, .int .i64 t.d.s, .int .i64 t.d.w, .int .i64 t.d.b] 32)) from glob_to (w0 := w) ((Below.refl _ _).alloc (Nat.le_refl _) _) hg rfl)
  have H := hide h
  clear h
  clear hg
  go_enter Tryd.func95, Tryd.ntmps95
  go_wp2_with fail
  go_step3
  go_wp2_with fail
  refine (rowsUnder_bad s t _ hs HG.out H.out).mono ?_
  rintro e w1 ⟨rfl, hb1⟩
  have q0 : Below w.heap.size w w1 := below_after (by go_grown) hb1 (by simp)
  clear hb1
  go_wp2
  rw [Exit.noGoto_ret]
  go_returns
  exact ⟨rfl, q0⟩

set_option maxHeartbeats 16000000 in
theorem way_off (s : ByteArray) (t : St) (v : ByteArray) (w : World) (hs : s.size ≤ 1048576) (hv : v.size ≤ maxLen) (hg : Glob w) (h : isBd s.data.toList = true) (h2 : stL s.data.toList t = false) : Calls Tryd.prog 95 #[.string s, St.v t, .string v] w (fun e w' => e = .returned (.tuple #[.slice none 0 0, .bool false]) ∧ Below w.heap.size w w') := by
  have HG := hide (show Glob (w.alloc (.cells #[.int .i64 t.x, .int .i64 t.y, .int .i64 t.d.t, .int .i64 t.d.n, .int .i64 t.d.e, .int .i64 t.d.s, .int .i64 t.d.w, .int .i64 t.d.b] 32)) from glob_to (w0 := w) ((Below.refl _ _).alloc (Nat.le_refl _) _) hg rfl)
  have H := hide h
  have HST := hide h2
  clear h h2
  clear hg
  go_enter Tryd.func95, Tryd.ntmps95
  go_wp2_with fail
  go_step3
  go_wp2_with fail
  refine (rowsUnder_off s t _ hs HG.out H.out HST.out).mono ?_
  rintro e w1 ⟨rfl, hb1⟩
  have q0 : Below w.heap.size w w1 := below_after (by go_grown) hb1 (by simp)
  clear hb1
  go_wp2
  rw [Exit.noGoto_ret]
  go_returns
  exact ⟨rfl, q0⟩

set_option maxHeartbeats 16000000 in
theorem way_word (s : ByteArray) (t : St) (v : ByteArray) (w : World) (hs : s.size ≤ 1048576) (hv : v.size ≤ maxLen) (hg : Glob w) (h : isBd s.data.toList = true) (h2 : stL s.data.toList t = true) (h3 : isWord v.data.toList = false) : Calls Tryd.prog 95 #[.string s, St.v t, .string v] w (fun e w' => e = .returned (.tuple #[.slice none 0 0, .bool false]) ∧ Below w.heap.size w w') := by
  have HG := hide (show Glob (w.alloc (.cells #[.int .i64 t.x, .int .i64 t.y, .int .i64 t.d.t, .int .i64 t.d.n, .int .i64 t.d.e, .int .i64 t.d.s, .int .i64 t.d.w, .int .i64 t.d.b] 32)) from glob_to (w0 := w) ((Below.refl _ _).alloc (Nat.le_refl _) _) hg rfl)
  have H := hide h
  have HST := hide h2
  have HW := hide h3
  clear h h2 h3
  clear hg
  go_enter Tryd.func95, Tryd.ntmps95
  go_wp2_with fail
  go_step3
  go_wp2_with fail
  refine (rowsUnder_on s t _ hs HG.out H.out HST.out).mono ?_
  rintro e w1 ⟨rfl, -, hb1⟩
  have q0 : Below w.heap.size w w1 := below_after (by go_grown) hb1 (by simp)
  clear hb1
  go_wp2_with fail
  refine (isRolls_any v _ hv).mono ?_
  rintro e w2 ⟨rfl, rfl⟩
  rw [HW.out]
  go_wp2
  rw [Exit.noGoto_ret]
  go_returns
  exact ⟨rfl, q0⟩

set_option maxHeartbeats 16000000 in
theorem way_on (s : ByteArray) (t : St) (v : ByteArray) (w : World) (hs : s.size ≤ 1048576) (hv : v.size ≤ maxLen) (hg : Glob w) (h : isBd s.data.toList = true) (h2 : stL s.data.toList t = true) (h3 : isWord v.data.toList = true) : Calls Tryd.prog 95 #[.string s, St.v t, .string v] w (fun e w' => ∃ gq, e = .returned (.tuple #[.slice (some ⟨gq, 0, none⟩) (stopT s.data.toList t v.data.toList + 1) (stopT s.data.toList t v.data.toList + 1), .bool true]) ∧ w'.ownsRow w.heap.size 32 8 (.slice (some ⟨gq, 0, none⟩) (stopT s.data.toList t v.data.toList + 1) (v.size + 1)) (stopT s.data.toList t v.data.toList + 1) (cellsS (waysT t v.data.toList (stopT s.data.toList t v.data.toList))) ∧ Below w.heap.size w w') := by
  have HG := hide (show Glob (w.alloc (.cells #[.int .i64 t.x, .int .i64 t.y, .int .i64 t.d.t, .int .i64 t.d.n, .int .i64 t.d.e, .int .i64 t.d.s, .int .i64 t.d.w, .int .i64 t.d.b] 32)) from glob_to (w0 := w) ((Below.refl _ _).alloc (Nat.le_refl _) _) hg rfl)
  have hlen : v.size ≤ 60 := by have := isWord_len h3; simpa using this
  have HFL := hide (show floorL s.data.toList t.x t.y = true from (Bool.and_eq_true_iff.1 h2).1)
  obtain ⟨i0, hi, hz0, hz1, hz2⟩ := info_parts info_state
  have HI := hide hi
  have HZ0 := hide hz0
  have HZ1 := hide hz1
  have HZ2 := hide hz2
  have H := hide h
  have HST := hide h2
  have HW := hide h3
  clear h h2 h3 hi hz0 hz1 hz2
  clear hg
  go_enter Tryd.func95, Tryd.ntmps95
  go_wp2_with fail
  go_step3
  go_wp2_with fail
  refine (rowsUnder_on s t _ hs HG.out H.out HST.out).mono ?_
  rintro e w1 ⟨rfl, ha, hb1⟩
  simp only [World.size_alloc] at ha
  have S1 := isS_to hb1 (IsS.new (w := w) (s := t) (ty := 32)) rfl
  have q1 : Below w.heap.size w w1 := below_after (by go_grown) hb1 (by simp)
  have HR0 := hide ha
  have hRB := ha.lt
  clear hb1 ha
  go_wp2_with fail
  refine (isRolls_any v _ hv).mono ?_
  rintro e w2 ⟨rfl, rfl⟩
  rw [HW.out]
  have y1 : IntKind.i64.wrap ((v.size : Int) + 1) = (v.size : Int) + 1 := IntWalk.i64_in _ (by omega)
  go_upto_region 5 with (at_make; refine wpList_make_one _ rfl _ _ 62 rfl (w.heap.size + 1 + 1 + 1) 32 i0 (.agg #[.int .i64 0, .int .i64 0, .int .i64 0, .int .i64 0, .int .i64 0, .int .i64 0, .int .i64 0, .int .i64 0]) 8 Tryd.underlying62 HI.out HZ0.out HZ1.out .i64 .i64 _ _ (v.size + 1) rfl rfl rfl (by omega) (by omega) (by rw [HZ2.out]; omega) (by unfold maxLen; omega) (by omega) ?_; intro w0 xs hown0 hgrow0)
  have hbm : Below w1.heap.size w1 w0 := (Below.refl _ _).grown hgrow0 (Nat.le_refl _) (fun k hk => by cases hk)
  have S0 := isS_to hbm S1 rfl
  have R0 := rowsAt_to hbm HR0.out rfl
  have q0 := below_to hbm q1 q1.size rfl rfl rfl rfl
  clear hgrow0 hbm S1 HR0 q1 y1
  generalize w1.heap.size = B at hown0 hRB ⊢
  have hBl := own_lt2 hown0
  have hl8 : xs.length = 8 := hown0.1
  obtain ⟨x0, x1, x2, x3, x4, x5, x6, x7, rfl⟩ : ∃ x0 x1 x2 x3 x4 x5 x6 x7, xs = [x0, x1, x2, x3, x4, x5, x6, x7] := by
    match xs, hl8 with
    | [x0, x1, x2, x3, x4, x5, x6, x7], _ => exact ⟨x0, x1, x2, x3, x4, x5, x6, x7, rfl⟩
  have k0 : w0.cell? ⟨B, 0, none⟩ = some x0 := hown0.cellAt 0 (by omega)
  have k1 : w0.cell? ⟨B, 1, none⟩ = some x1 := hown0.cellAt 1 (by omega)
  have k2 : w0.cell? ⟨B, 2, none⟩ = some x2 := hown0.cellAt 2 (by omega)
  have k3 : w0.cell? ⟨B, 3, none⟩ = some x3 := hown0.cellAt 3 (by omega)
  have k4 : w0.cell? ⟨B, 4, none⟩ = some x4 := hown0.cellAt 4 (by omega)
  have k5 : w0.cell? ⟨B, 5, none⟩ = some x5 := hown0.cellAt 5 (by omega)
  have k6 : w0.cell? ⟨B, 6, none⟩ = some x6 := hown0.cellAt 6 (by omega)
  have k7 : w0.cell? ⟨B, 7, none⟩ = some x7 := hown0.cellAt 7 (by omega)
  have z0 := hown0.frozenAt 0
  have z1 := hown0.frozenAt 1
  have z2 := hown0.frozenAt 2
  have z3 := hown0.frozenAt 3
  have z4 := hown0.frozenAt 4
  have z5 := hown0.frozenAt 5
  have z6 := hown0.frozenAt 6
  have z7 := hown0.frozenAt 7
  have HO0 := hide hown0
  clear hown0 hl8
  obtain ⟨l0, ⟨a0, a1, a2, a3, a4, a5, a6, a7⟩, -⟩ := S0.all
  go_upto_region 6 with (fail)
  have hb8 : Below B w0 (((((((((w0.setCell ⟨B, 0, none⟩ (.int .i64 t.x)).setCell ⟨B, 1, none⟩ (.int .i64 t.y)).setCell ⟨B, 2, none⟩ (.int .i64 t.d.t)).setCell ⟨B, 3, none⟩ (.int .i64 t.d.n)).setCell ⟨B, 4, none⟩ (.int .i64 t.d.e)).setCell ⟨B, 5, none⟩ (.int .i64 t.d.s)).setCell ⟨B, 6, none⟩ (.int .i64 t.d.w)).setCell ⟨B, 7, none⟩ (.int .i64 t.d.b))) := below_set8 (Below.refl _ _) (Nat.le_refl _) t
  have HO1 := hide (own_store8 (t := t) HO0.out)
  have R1 : RowsAt (((((((((w0.setCell ⟨B, 0, none⟩ (.int .i64 t.x)).setCell ⟨B, 1, none⟩ (.int .i64 t.y)).setCell ⟨B, 2, none⟩ (.int .i64 t.d.t)).setCell ⟨B, 3, none⟩ (.int .i64 t.d.n)).setCell ⟨B, 4, none⟩ (.int .i64 t.d.e)).setCell ⟨B, 5, none⟩ (.int .i64 t.d.s)).setCell ⟨B, 6, none⟩ (.int .i64 t.d.w)).setCell ⟨B, 7, none⟩ (.int .i64 t.d.b))) (w.heap.size + 1 + 1) (rowsB s) := (hb8.block _ (by omega)).trans R0
  have q1 := below_set8 q0 (show w.heap.size ≤ B from by omega) t
  clear hb8 HO0 R0 q0 S0 k0 k1 k2 k3 k4 k5 k6 k7 z0 z1 z2 z3 z4 z5 z6 z7 a0 a1 a2 a3 a4 a5 a6 a7 l0 hBl
  generalize ((((((((w0.setCell ⟨B, 0, none⟩ (.int .i64 t.x)).setCell ⟨B, 1, none⟩ (.int .i64 t.y)).setCell ⟨B, 2, none⟩ (.int .i64 t.d.t)).setCell ⟨B, 3, none⟩ (.int .i64 t.d.n)).setCell ⟨B, 4, none⟩ (.int .i64 t.d.e)).setCell ⟨B, 5, none⟩ (.int .i64 t.d.s)).setCell ⟨B, 6, none⟩ (.int .i64 t.d.w)).setCell ⟨B, 7, none⟩ (.int .i64 t.d.b)) = W1 at HO1 R1 q1 ⊢
  try go_step3
  go_wp2_with fail
  go_loopw [10, 35] (fun o i wr => ∃ k : Nat, k ≤ v.size ∧ i = .int .i64 (k : Int) ∧ o = .slice (some ⟨B, 0, none⟩) (k + 1) (v.size + 1) ∧ wr.ownsRow (w.heap.size + 1 + 1 + 1) 32 8 (.slice (some ⟨B, 0, none⟩) (k + 1) (v.size + 1)) (k + 1) (cellsS (waysT t v.data.toList k)) ∧ RowsAt wr (w.heap.size + 1 + 1) (rowsB s) ∧ floorL s.data.toList (atT t v.data.toList k).x (atT t v.data.toList k).y = true ∧ (∀ j c, j < k → v.data.toList[j]? = some c → canT s.data.toList (atT t v.data.toList j) (dirIx c.toNat) = true) ∧ Below w.heap.size w wr) (fun _ i _ => v.size - (intOf i).toNat)
  case atStart => exact ⟨0, Nat.zero_le _, rfl, rfl, HO1.out, R1, HFL.out, fun j c hj => absurd hj (by omega), q1⟩
  case round =>
    obtain ⟨k, hk, rfl, rfl, O, R, F, C, q⟩ := hrel
    clear HO1 R1 q1
    by_cases hlt : k < v.size
    · have hc : v.data.toList[k]? = some v[k] := by rw [List.getElem?_eq_getElem (by simpa using hlt)]; rfl
      have HS := hide (atT_succ t v.data.toList k v[k] hc)
      have HWS := hide (waysT_succ t v.data.toList k)
      have HDN := hide (isWord_dir HW.out (k := k) (by simpa using hlt))
      have HSTOP := hide (fun hcan : canT s.data.toList (atT t v.data.toList k) (dirIx v[k].toNat) = false => stop_at s.data.toList v.data.toList t k (by simpa using hk) C (fun c h => by rw [hc] at h; cases h; exact hcan))
      have HCC := hide (fun hcan : canT s.data.toList (atT t v.data.toList k) (dirIx v[k].toNat) = true => (show ∀ j c, j < k + 1 → v.data.toList[j]? = some c → canT s.data.toList (atT t v.data.toList j) (dirIx c.toNat) = true from fun j c hj hjc => by
        rcases Nat.lt_or_ge j k with h | h
        · exact C j c h hjc
        · obtain rfl : j = k := by omega
          rw [hc] at hjc
          cases hjc
          exact hcan))
      obtain ⟨hx, hy⟩ := floor_near H.out F
      have HXG := hide (waysT_get t v.data.toList k k (Nat.le_refl _))
      generalize hu : atT t v.data.toList k = u at F HS HSTOP HCC HXG hx hy
      have HFN := fun wx => rolledS_any v[k] u wx HDN.out hx hy
      have HFL2 := hide (fun (h : canT s.data.toList u (dirIx v[k].toNat) = true) => can_floor h)
      have HCX := hide (show canT s.data.toList u (dirIx v[k].toNat) = decide (((cellI (splitP s.data.toList) (rollT u (dirIx v[k].toNat)).x (rollT u (dirIx v[k].toNat)).y).toNat : Int) = 46) from rfl)
      generalize hr : rollT u (dirIx v[k].toNat) = r at HFN HS HFL2 HCX
      have HF0 := hide HFN
      generalize hb : canT s.data.toList u (dirIx v[k].toNat) = b at HSTOP HCC HFL2 HCX
      have HR := hide R
      have HO := hide O
      obtain ⟨a0, a1, a2, a3, a4, a5, a6, a7⟩ := row_cells O HXG.out
      have l0 := own_lt2 O
      clear HFN R O C hc hx hy F hu hr hb
      have hki : (k : Int) < (v.size : Int) := by omega
      have hk0 : (0 : Int) ≤ (k : Int) := by omega
      have hk1 : (k : Int) < (k : Int) + 1 := by omega
      have hk2 : (k : Int) < ((k + 1 : Nat) : Int) := by omega
      have hk3 : k < k + 1 := by omega
      have hk4 : (k : Int) ≤ (k : Int) + 1 := by omega
      go_upto_region 9 with (fail)
      go_cut [12] from 36 to 57 (fun p wx => ∃ bb, p = .pointer (some ⟨bb, 0, none⟩) ∧ IsS wx bb r 32 ∧ RowsAt wx (w.heap.size + 1 + 1) (rowsB s) ∧ wx.ownsRow (w.heap.size + 1 + 1 + 1) 32 8 (.slice (some ⟨B, 0, none⟩) (k + 1) (v.size + 1)) (k + 1) (cellsS (waysT t v.data.toList k)) ∧ Below w.heap.size w wx)
      case first =>
        go_region_held3 (fun w' => w'.cell? ⟨B, k * 8, none⟩ = some (.int .i64 u.x) ∧ w'.cell? ⟨B, k * 8 + 1, none⟩ = some (.int .i64 u.y) ∧ w'.cell? ⟨B, k * 8 + 2, none⟩ = some (.int .i64 u.d.t) ∧ w'.cell? ⟨B, k * 8 + 3, none⟩ = some (.int .i64 u.d.n) ∧ w'.cell? ⟨B, k * 8 + 4, none⟩ = some (.int .i64 u.d.e) ∧ w'.cell? ⟨B, k * 8 + 5, none⟩ = some (.int .i64 u.d.s) ∧ w'.cell? ⟨B, k * 8 + 6, none⟩ = some (.int .i64 u.d.w) ∧ w'.cell? ⟨B, k * 8 + 7, none⟩ = some (.int .i64 u.d.b)) (first | (refine ⟨?_, ?_, ?_, ?_, ?_, ?_, ?_, ?_⟩ <;> with_reducible assumption) | (refine ⟨?_, ?_, ?_, ?_, ?_, ?_, ?_, ?_⟩ <;> (rw [cell_set8 (by omega)]; with_reducible assumption)) | (refine ⟨?_, ?_, ?_, ?_, ?_, ?_, ?_, ?_⟩ <;> (refine (((Below.refl _ _).alloc (Nat.le_refl _) _).cell (by first | exact l0 | exact m0)).trans ?_; with_reducible assumption)) | (refine ⟨?_, ?_, ?_, ?_, ?_, ?_, ?_, ?_⟩ <;> assumption))
          (first
            | (go_at_call 110; (refine (HF0.out _).mono ?_); rintro e w2 ⟨rfl, hb2⟩; (first | (have hA : Below (wr.alloc (.cells #[.int .i64 0, .int .i64 0, .int .i64 0, .int .i64 0, .int .i64 0, .int .i64 0, .int .i64 0, .int .i64 0] 32)).drew.heap.size (wr.alloc (.cells #[.int .i64 0, .int .i64 0, .int .i64 0, .int .i64 0, .int .i64 0, .int .i64 0, .int .i64 0, .int .i64 0] 32)).drew w2 := (by with_reducible exact hb2); have NA := isS_to hA (IsS.new (w := wr) (s := ⟨0, 0, ⟨0, 0, 0, 0, 0, 0⟩⟩) (ty := 32)) rfl; obtain ⟨l2, ⟨c0, c1, c2, c3, c4, c5, c6, c7⟩, f0, f1, f2, f3, f4, f5, f6, f7⟩ := NA.all; have m0 := own_lt2 (own_to hA (HO.out.alloc (.cells #[.int .i64 0, .int .i64 0, .int .i64 0, .int .i64 0, .int .i64 0, .int .i64 0, .int .i64 0, .int .i64 0] 32)) rfl); obtain ⟨b0, b1, b2, b3, b4, b5, b6, b7⟩ := row_cells (own_to hA (HO.out.alloc (.cells #[.int .i64 0, .int .i64 0, .int .i64 0, .int .i64 0, .int .i64 0, .int .i64 0, .int .i64 0, .int .i64 0] 32)) rfl) HXG.out) | (have hB : Below wr.drew.heap.size wr.drew w2 := (by with_reducible exact hb2); have m0 := own_lt2 (own_to hB HO.out rfl); obtain ⟨b0, b1, b2, b3, b4, b5, b6, b7⟩ := row_cells (own_to hB HO.out rfl) HXG.out))))
        all_goals
          go_wp2_with fail
          go_meet
          refine ⟨_, rfl, ?_⟩
          first
            | (with_reducible exact (way_cutA (r := r) HR.out HO.out q hA NA))
            | (with_reducible exact (way_cutB (r := r) HR.out HO.out q hB))
      obtain ⟨bb, rfl, N2, R2, O2, q2⟩ := hcut
      have HR2 := hide R2
      have HO2 := hide O2
      have hBW := own_lt2 O2
      clear R2 O2 a0 a1 a2 a3 a4 a5 a6 a7 l0 q HF0 HR HO
      obtain ⟨l2, ⟨c0, c1, c2, c3, c4, c5, c6, c7⟩, -⟩ := N2.all
      go_wp2_with fail
      refine (cellAtL_any s _ r.x r.y _ hs H.out HR2.out).mono ?_
      rintro e w3 ⟨rfl, rfl⟩
      cases b
      · have e46 := eq46' HCX.out.symm
        generalize cellI (splitP s.data.toList) r.x r.y = c at e46 ⊢
        have HST := hide (HSTOP.out rfl)
        clear HSTOP HCC HFL2 HCX c0 c1 c2 c3 c4 c5 c6 c7
        go_wp2
        rw [Exit.noGoto_ret]
        go_returns
        exact ⟨B, by rw [HST.out]; rfl, by rw [HST.out]; exact own_mono HO2.out (by omega), q2⟩
      · have e46 := eq46' HCX.out.symm
        generalize cellI (splitP s.data.toList) r.x r.y = c at e46 ⊢
        have HF3 := hide (HFL2.out rfl)
        have HC3 := hide (HCC.out rfl)
        clear HSTOP HCC HFL2 HCX
        have hroom : k + 1 + 1 ≤ v.size + 1 := by omega
        go_wp2_with (first
          | (at_builtin; refine wpList_append_fits _ rfl _ _ 62 rfl (w.heap.size + 1 + 1 + 1) 32 i0 8 Tryd.underlying62 HI.out HZ1.out B (k + 1) (v.size + 1) _ rfl (HO2.out.alloc _) ⟨wc.heap.size, 0, none⟩ 1 1 (scells r) rfl rfl ?c1 ?c2 hroom ?_))
        case c1 => exact scells_cell IsS.new
        case c2 => exact scells_one _
        · intro w4 hown4 hg4
          have hbB := (Below.refl (w.heap.size + 1 + 1 + 1) _).grown hg4 (by simp; omega) (fun k hk => by cases hk; omega)
          have HR4 := hide (show RowsAt w4 (w.heap.size + 1 + 1) (rowsB s) from (hbB.block _ (by omega)).trans (rowsAt_to ((Below.refl _ _).alloc (Nat.le_refl _) _) HR2.out rfl))
          have q4 : Below w.heap.size w w4 := (q2.alloc q2.size _).grown hg4 (by have := q2.size; simp; omega) (fun k hk => by cases hk; omega)
          have HO4 := hide (show w4.ownsRow (w.heap.size + 1 + 1 + 1) 32 8 (.slice (some ⟨B, 0, none⟩) (k + 1 + 1) (v.size + 1)) (k + 1 + 1) (cellsS (waysT t v.data.toList (k + 1))) from by
            rw [HWS.out, cellsS_snoc, HS.out]
            exact hown4)
          clear hown4 hg4 hbB q2 c0 c1 c2 c3 c4 c5 c6 c7 l2 N2 HO2 HR2
          go_wp2
          go_roundw
          case rel => exact ⟨k + 1, by omega, by go_num, rfl, HO4.out, HR4.out, by rw [HS.out]; exact HF3.out, HC3.out, q4⟩
          case measure => simp [intOf] <;> omega
    · obtain rfl : k = v.size := by omega
      have HST := hide (stop_at s.data.toList v.data.toList t v.size (by simp) C (fun c h => by rw [List.getElem?_eq_none (by simp)] at h; cases h))
      have HO := hide O
      clear O
      go_wp2
      rw [Exit.noGoto_ret]
      go_returns
      exact ⟨B, by rw [HST.out]; rfl, by rw [HST.out]; exact own_mono HO.out (by omega), q⟩
end Go.Proofs.YtgehcjmhgfhkdaaDoor
