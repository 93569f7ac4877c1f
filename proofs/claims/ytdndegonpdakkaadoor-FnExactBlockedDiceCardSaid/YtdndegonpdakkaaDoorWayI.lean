/- The contract of impl.wayUntilStop. -/
import Derived.Test.YtdndegonpdakkaaDoorWays
import Derived.Test.YtdndegonpdakkaaDoorWalksA
import Derived.Laws.OwnMore
import Derived.WalkMore
namespace Go.Proofs.YtdndegonpdakkaaDoor
set_option maxRecDepth 100000
set_option linter.all false
open Go.RowKit

theorem wpList_make_one {P : Program} (w : World) {ops : Array Oper} {rest : List Oper} {o : Oper} {a : Act} {Q : Exit → Act → World → Prop}
    (hg : o.guard = none) (l c : Operand) (t : TypeId) (hop : o.op = Op.makeSlice t l c)
    (base : Nat) (e : TypeId) (i : TypeInfo) (z : Value) (size : Nat) (h1 : P.underlying t = some (.slice e)) (h2 : P.info? e = some i) (h3 : i.zero = some z) (h4 : i.size = size)
    (kl kc : IntKind) (L C : Int) (n : Nat) (hl : a.eval l = .int kl L) (hc : a.eval c = .int kc C) (hL : L = 1) (hC : C = (n : Int)) (hn : 1 ≤ n) (b2 : i.bytes * n ≤ 281474976710656) (b3 : n ≤ maxLen) (b4 : base ≤ w.heap.size)
    (hK : ∀ w' xs, w'.ownsRow base e size (.slice (some ⟨w.heap.size, 0, none⟩) 1 n) 1 xs → w.grownBy w' none → wpList P ops Q rest (a.put o.dst (.slice (some ⟨w.heap.size, 0, none⟩) 1 n)) w') :
    wpList P ops Q (o :: rest) a w := by
  refine wpList_plain hg fun K hK' => ?_
  subst hL
  subst hC
  have hb' : (i.bytes : Int) * (n : Int) ≤ 281474976710656 := by
    have h : ((i.bytes * n : Nat) : Int) ≤ 281474976710656 := by omega
    rwa [Int.natCast_mul] at h
  have hrun := run_make (P := P) w t e i z h1 h2 h3 kl kc 1 n (by omega) (by omega) hb' (by unfold maxLen at b3; omega)
  rw [Int.toNat_natCast, h4, show (1 : Int).toNat = 1 from rfl] at hrun
  have hown : (w.alloc (.cells (madeCells z.cells (n * size)) e)).ownsRow base e size (.slice (some ⟨w.heap.size, 0, none⟩) 1 n) 1 ((madeCells z.cells (n * size)).toList.take (1 * size)) := by
    have h := World.ownsRow_made (e := e) w (madeCells z.cells (n * size)) n b4 b3 (size_madeCells _ _)
    obtain ⟨-, h⟩ := h
    have hsz := size_madeCells z.cells (n * size)
    have hle : 1 * size ≤ n * size := Nat.mul_le_mul_right _ hn
    rcases h with ⟨h0, _⟩ | ⟨g, cap, cur, hv, hb, hgg, _, hm, hcs, _⟩
    · cases h0
    · injection hv with hv1 hv2 hv3
      injection hv1 with hv1
      injection hv1 with hv1
      subst hv1
      subst hv3
      have hcur : cur = madeCells z.cells (n * size) := by
        have : (w.alloc (.cells (madeCells z.cells (n * size)) e)).heap[w.heap.size]? = some (.cells (madeCells z.cells (n * size)) e) := by
          show (w.heap.push _)[w.heap.size]? = _
          simp
        rw [this] at hgg
        injection hgg with hgg
        injection hgg with hgg
        exact hgg.symm
      subst hcur
      exact ⟨by rw [List.length_take, Array.length_toList, hsz]; omega, .inr ⟨w.heap.size, n, _, rfl, hb, hgg, hn, hm, hcs, rfl⟩⟩
  unfold Oper.wp
  simp [execOp, hop, hl, hc, hrun, Result.andThen]
  exact hK' _ _ (hK _ _ hown (World.grownBy_alloc w _ none))
theorem set8_list (xs : List Value) (h : xs.length = 8) (t : St) : ((((((((xs.set 0 (.int .i64 t.x)).set 1 (.int .i64 t.y)).set 2 (.int .i64 t.d.t)).set 3 (.int .i64 t.d.n)).set 4 (.int .i64 t.d.e)).set 5 (.int .i64 t.d.s)).set 6 (.int .i64 t.d.w)).set 7 (.int .i64 t.d.b)) = scells t := by
  match xs, h with
  | [_, _, _, _, _, _, _, _], _ => rfl
theorem own_store8 {w0 : World} {b B cap : Nat} {e : TypeId} {xs : List Value} {t : St} (h : w0.ownsRow b e 8 (.slice (some ⟨B, 0, none⟩) 1 cap) 1 xs) : (((((((((w0.setCell ⟨B, 0, none⟩ (.int .i64 t.x)).setCell ⟨B, 1, none⟩ (.int .i64 t.y)).setCell ⟨B, 2, none⟩ (.int .i64 t.d.t)).setCell ⟨B, 3, none⟩ (.int .i64 t.d.n)).setCell ⟨B, 4, none⟩ (.int .i64 t.d.e)).setCell ⟨B, 5, none⟩ (.int .i64 t.d.s)).setCell ⟨B, 6, none⟩ (.int .i64 t.d.w)).setCell ⟨B, 7, none⟩ (.int .i64 t.d.b))).ownsRow b e 8 (.slice (some ⟨B, 0, none⟩) 1 cap) 1 (scells t) := by
  have hl : xs.length = 8 := h.1
  rw [← set8_list xs hl t]
  exact ((((((((h.stored 0 _).1.stored 1 _).1.stored 2 _).1.stored 3 _).1.stored 4 _).1.stored 5 _).1.stored 6 _).1.stored 7 _).1
theorem row_cells {w : World} {b B k cap : Nat} {W : List St} {u : St} (h : w.ownsRow b 57 8 (.slice (some ⟨B, 0, none⟩) (k + 1) cap) (k + 1) (cellsS W)) (hu : W[k]? = some u) :
    w.cell? ⟨B, k * 8, none⟩ = some (.int .i64 u.x) ∧ w.cell? ⟨B, k * 8 + 1, none⟩ = some (.int .i64 u.y) ∧ w.cell? ⟨B, k * 8 + 2, none⟩ = some (.int .i64 u.d.t) ∧ w.cell? ⟨B, k * 8 + 3, none⟩ = some (.int .i64 u.d.n) ∧ w.cell? ⟨B, k * 8 + 4, none⟩ = some (.int .i64 u.d.e) ∧ w.cell? ⟨B, k * 8 + 5, none⟩ = some (.int .i64 u.d.s) ∧ w.cell? ⟨B, k * 8 + 6, none⟩ = some (.int .i64 u.d.w) ∧ w.cell? ⟨B, k * 8 + 7, none⟩ = some (.int .i64 u.d.b) := by
  have hh : ∀ j x, j < 8 → (scells u)[j]? = some x → w.cell? ⟨B, k * 8 + j, none⟩ = some x := fun j x hj hx => (h.cellAt (k * 8 + j) (by omega)).trans ((cellsS_get W k u hu j hj).trans hx)
  exact ⟨hh 0 _ (by omega) rfl, hh 1 _ (by omega) rfl, hh 2 _ (by omega) rfl, hh 3 _ (by omega) rfl, hh 4 _ (by omega) rfl, hh 5 _ (by omega) rfl, hh 6 _ (by omega) rfl, hh 7 _ (by omega) rfl⟩
theorem rollFn_cases (c : UInt8) (h : 0 ≤ dirIx c.toNat) : rollFn c = 89 ∨ rollFn c = 90 ∨ rollFn c = 91 ∨ rollFn c = 88 := by
  rcases dir_cases c h with rfl | rfl | rfl | rfl
  · exact .inl rfl
  · exact .inr (.inl rfl)
  · exact .inr (.inr (.inl rfl))
  · exact .inr (.inr (.inr rfl))
theorem way_cutA {w wr w2 : World} {s v : ByteArray} {B k : Nat} {r : St} {xs : List Value} (R : RowsAt wr (w.heap.size + 1 + 1) (rowsB s)) (O : wr.ownsRow (w.heap.size + 1 + 1 + 1) 57 8 (.slice (some ⟨B, 0, none⟩) (k + 1) (v.size + 1)) (k + 1) xs) (q : Below w.heap.size w wr)
    (hb : Below (wr.alloc (.cells #[.int .i64 0, .int .i64 0, .int .i64 0, .int .i64 0, .int .i64 0, .int .i64 0, .int .i64 0, .int .i64 0] 57)).drew.heap.size (wr.alloc (.cells #[.int .i64 0, .int .i64 0, .int .i64 0, .int .i64 0, .int .i64 0, .int .i64 0, .int .i64 0, .int .i64 0] 57)).drew w2) (N : IsS w2 wr.heap.size ⟨0, 0, ⟨0, 0, 0, 0, 0, 0⟩⟩ 57) : IsS (((((((((w2.setCell ⟨wr.heap.size, 0, none⟩ (.int .i64 r.x)).setCell ⟨wr.heap.size, 1, none⟩ (.int .i64 r.y)).setCell ⟨wr.heap.size, 2, none⟩ (.int .i64 r.d.t)).setCell ⟨wr.heap.size, 3, none⟩ (.int .i64 r.d.n)).setCell ⟨wr.heap.size, 4, none⟩ (.int .i64 r.d.e)).setCell ⟨wr.heap.size, 5, none⟩ (.int .i64 r.d.s)).setCell ⟨wr.heap.size, 6, none⟩ (.int .i64 r.d.w)).setCell ⟨wr.heap.size, 7, none⟩ (.int .i64 r.d.b))) wr.heap.size r 57 ∧ RowsAt ((((((((w2.setCell ⟨wr.heap.size, 0, none⟩ (.int .i64 r.x)).setCell ⟨wr.heap.size, 1, none⟩ (.int .i64 r.y)).setCell ⟨wr.heap.size, 2, none⟩ (.int .i64 r.d.t)).setCell ⟨wr.heap.size, 3, none⟩ (.int .i64 r.d.n)).setCell ⟨wr.heap.size, 4, none⟩ (.int .i64 r.d.e)).setCell ⟨wr.heap.size, 5, none⟩ (.int .i64 r.d.s)).setCell ⟨wr.heap.size, 6, none⟩ (.int .i64 r.d.w)).setCell ⟨wr.heap.size, 7, none⟩ (.int .i64 r.d.b)) (w.heap.size + 1 + 1) (rowsB s) ∧ ((((((((w2.setCell ⟨wr.heap.size, 0, none⟩ (.int .i64 r.x)).setCell ⟨wr.heap.size, 1, none⟩ (.int .i64 r.y)).setCell ⟨wr.heap.size, 2, none⟩ (.int .i64 r.d.t)).setCell ⟨wr.heap.size, 3, none⟩ (.int .i64 r.d.n)).setCell ⟨wr.heap.size, 4, none⟩ (.int .i64 r.d.e)).setCell ⟨wr.heap.size, 5, none⟩ (.int .i64 r.d.s)).setCell ⟨wr.heap.size, 6, none⟩ (.int .i64 r.d.w)).setCell ⟨wr.heap.size, 7, none⟩ (.int .i64 r.d.b)).ownsRow (w.heap.size + 1 + 1 + 1) 57 8 (.slice (some ⟨B, 0, none⟩) (k + 1) (v.size + 1)) (k + 1) xs ∧ Below w.heap.size w ((((((((w2.setCell ⟨wr.heap.size, 0, none⟩ (.int .i64 r.x)).setCell ⟨wr.heap.size, 1, none⟩ (.int .i64 r.y)).setCell ⟨wr.heap.size, 2, none⟩ (.int .i64 r.d.t)).setCell ⟨wr.heap.size, 3, none⟩ (.int .i64 r.d.n)).setCell ⟨wr.heap.size, 4, none⟩ (.int .i64 r.d.e)).setCell ⟨wr.heap.size, 5, none⟩ (.int .i64 r.d.s)).setCell ⟨wr.heap.size, 6, none⟩ (.int .i64 r.d.w)).setCell ⟨wr.heap.size, 7, none⟩ (.int .i64 r.d.b)) := by
  have q2 : Below w.heap.size w w2 := below_to hb (q.alloc q.size _) (by have := q.size; simp; omega) rfl rfl rfl rfl
  have hb8 : Below wr.heap.size wr (((((((((w2.setCell ⟨wr.heap.size, 0, none⟩ (.int .i64 r.x)).setCell ⟨wr.heap.size, 1, none⟩ (.int .i64 r.y)).setCell ⟨wr.heap.size, 2, none⟩ (.int .i64 r.d.t)).setCell ⟨wr.heap.size, 3, none⟩ (.int .i64 r.d.n)).setCell ⟨wr.heap.size, 4, none⟩ (.int .i64 r.d.e)).setCell ⟨wr.heap.size, 5, none⟩ (.int .i64 r.d.s)).setCell ⟨wr.heap.size, 6, none⟩ (.int .i64 r.d.w)).setCell ⟨wr.heap.size, 7, none⟩ (.int .i64 r.d.b))) := below_set8 (below_to hb ((Below.refl wr.heap.size wr).alloc (Nat.le_refl _) (.cells #[.int .i64 0, .int .i64 0, .int .i64 0, .int .i64 0, .int .i64 0, .int .i64 0, .int .i64 0, .int .i64 0] 57)) (by simp) rfl rfl rfl rfl) (Nat.le_refl _) r
  exact ⟨N.set8 r, rowsAt_to hb8 R rfl, own_to hb8 O rfl, below_set8 q2 q.size r⟩
theorem way_cutB {w wr w2 : World} {s v : ByteArray} {B k : Nat} {r : St} {xs : List Value} (R : RowsAt wr (w.heap.size + 1 + 1) (rowsB s)) (O : wr.ownsRow (w.heap.size + 1 + 1 + 1) 57 8 (.slice (some ⟨B, 0, none⟩) (k + 1) (v.size + 1)) (k + 1) xs) (q : Below w.heap.size w wr)
    (hb : Below wr.drew.heap.size wr.drew w2) : IsS (w2.alloc (.cells #[.int .i64 r.x, .int .i64 r.y, .int .i64 r.d.t, .int .i64 r.d.n, .int .i64 r.d.e, .int .i64 r.d.s, .int .i64 r.d.w, .int .i64 r.d.b] 57)) w2.heap.size r 57 ∧ RowsAt (w2.alloc (.cells #[.int .i64 r.x, .int .i64 r.y, .int .i64 r.d.t, .int .i64 r.d.n, .int .i64 r.d.e, .int .i64 r.d.s, .int .i64 r.d.w, .int .i64 r.d.b] 57)) (w.heap.size + 1 + 1) (rowsB s) ∧ (w2.alloc (.cells #[.int .i64 r.x, .int .i64 r.y, .int .i64 r.d.t, .int .i64 r.d.n, .int .i64 r.d.e, .int .i64 r.d.s, .int .i64 r.d.w, .int .i64 r.d.b] 57)).ownsRow (w.heap.size + 1 + 1 + 1) 57 8 (.slice (some ⟨B, 0, none⟩) (k + 1) (v.size + 1)) (k + 1) xs ∧ Below w.heap.size w (w2.alloc (.cells #[.int .i64 r.x, .int .i64 r.y, .int .i64 r.d.t, .int .i64 r.d.n, .int .i64 r.d.e, .int .i64 r.d.s, .int .i64 r.d.w, .int .i64 r.d.b] 57)) := by
  have q2 : Below w.heap.size w w2 := below_to hb q q.size rfl rfl rfl rfl
  exact ⟨IsS.new, rowsAt_to ((Below.refl _ _).alloc (Nat.le_refl _) _) (rowsAt_to hb R rfl) rfl, (own_to hb O rfl).alloc _, q2.alloc q2.size _⟩

end Go.Proofs.YtdndegonpdakkaaDoor
