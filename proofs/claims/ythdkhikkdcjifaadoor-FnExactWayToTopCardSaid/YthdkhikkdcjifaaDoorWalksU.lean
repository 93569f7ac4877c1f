/- The walks of the law of CanRoll. -/
import Derived.Test.YthdkhikkdcjifaaDoorRolls
import Derived.Test.YthdkhikkdcjifaaDoorOwnK
import Derived.Laws.IdiomStrings
import Derived.Deep.CutRange
namespace Go.Proofs.YthdkhikkdcjifaaDoor
set_option maxRecDepth 100000
set_option linter.all false
open Go.RowKit

theorem diDirsU_any (w : World) : Calls Tryd.prog 80 #[] w fun e w' => e = .returned (.string ⟨#[110, 101, 115, 119]⟩) ∧ w = w' := by
  go_enter Tryd.func80, Tryd.ntmps80
  go_wp2
  go_ret
  exact ⟨rfl, rfl⟩
/-- The sign of a direction's number. -/
def dirN : Nat → UInt8
  | 0 => 110
  | 1 => 101
  | 2 => 115
  | _ => 119
theorem dixU : ∀ (j : Nat) (_ : j < 4) (wx : World), (Instr.index 9 (.string ⟨#[110, 101, 115, 119]⟩) (.int .i64 (j : Int))).run Tryd.prog wx = .ok (.int .u8 ((dirN j).toNat : Int)) wx
  | 0, _, _ => by kernel_rfl
  | 1, _, _ => by kernel_rfl
  | 2, _, _ => by kernel_rfl
  | 3, _, _ => by kernel_rfl
theorem dslU : ∀ (j : Nat) (_ : j < 4) (wx : World), (Instr.slice 9 (.string ⟨#[110, 101, 115, 119]⟩) (some (.int .i64 (j : Int))) (some (.int .i64 ((j : Int) + 1))) none).run Tryd.prog wx = .ok (.string ⟨#[dirN j]⟩) wx
  | 0, _, _ => by kernel_rfl
  | 1, _, _ => by kernel_rfl
  | 2, _, _ => by kernel_rfl
  | 3, _, _ => by kernel_rfl
theorem dirIx_N : ∀ (j : Nat) (_ : j < 4), dirIx (dirN j).toNat = (j : Int)
  | 0, _ => rfl
  | 1, _ => rfl
  | 2, _ => rfl
  | 3, _ => rfl
theorem info_u8U : (Tryd.prog.info? 5).map (fun i => (i.zero, i.size, i.bytes)) = some (some (.int .u8 0), 1, 1) := by kernel_rfl
theorem bytes_backU {w : World} {base g n cap : Nat} {l : List UInt8} (h : w.ownsRow base 5 1 (.slice (some ⟨g, 0, none⟩) n cap) n (bytesV l)) (hn : l.length = n) :
    (convert 57 9 (.slice (some ⟨g, 0, none⟩) n cap)).run Tryd.prog w = .ok (.string ⟨l.toArray⟩) w := by
  subst hn
  refine run_convert_bytes_back w _ _ 5 _ cap l Tryd.underlying57 Tryd.underlying5 Tryd.underlying9 (fun j hj => ?_)
  exact h.cells rfl j _ (by simp [bytesV, List.getElem?_eq_getElem hj])
theorem own_lt2 {w : World} {B C : Nat} {e : TypeId} {z n m cap : Nat} {xs : List Value} (h : w.ownsRow B e z (.slice (some ⟨C, 0, none⟩) n cap) m xs) : C < w.heap.size := by
  rcases h.2 with ⟨h0, _⟩ | ⟨g, cap', cur, hv, _, hg, _⟩
  · cases h0
  · injection hv with hv
    injection hv with hv
    injection hv with hv
    subst hv
    rcases Nat.lt_or_ge C w.heap.size with hlt | hge
    · exact hlt
    · rw [Array.getElem?_eq_none hge] at hg; cases hg
/-- A state on a board stands near. -/
theorem st_near {l : List UInt8} (h : isBd l = true) {s : St} (h2 : stL l s = true) : (-100000 ≤ s.x ∧ s.x ≤ 100000) ∧ (-100000 ≤ s.y ∧ s.y ≤ 100000) := by
  unfold stL floorL at h2
  cases hi : inL l s.x s.y
  · rw [cellI_out h hi] at h2
    exact absurd h2 (by simp)
  · obtain ⟨_, a, _, b, _⟩ := bd_facts h
    unfold inL at hi
    simp only [Bool.and_eq_true, decide_eq_true_eq] at hi
    omega
/-- The directions in which a state can be rolled. -/
def canW (l : List UInt8) (s : St) : Nat → List UInt8
  | 0 => []
  | k + 1 => if canT l s (k : Int) = true then canW l s k ++ [dirN k] else canW l s k
theorem canW_len (l : List UInt8) (s : St) : ∀ k, (canW l s k).length ≤ k
  | 0 => Nat.le_refl _
  | k + 1 => by
    have := canW_len l s k
    unfold canW
    split
    · simp; omega
    · omega

theorem rollFn_four : ∀ (k : Nat) (_ : k < 4), rollFn (dirN k) = 123 ∨ rollFn (dirN k) = 124 ∨ rollFn (dirN k) = 125 ∨ rollFn (dirN k) = 122
  | 0, _ => .inl rfl
  | 1, _ => .inr (.inl rfl)
  | 2, _ => .inr (.inr (.inl rfl))
  | 3, _ => .inr (.inr (.inr rfl))
theorem can_cutA {w wr w2 : World} {B n m : Nat} {t r : St} {rs : List ByteArray} {xs : List Value} (u : IsS wr w.heap.size t 30) (R : RowsAt wr (w.heap.size + 1 + 1) rs) (O : wr.ownsRow B 5 1 (.slice (some ⟨B, 0, none⟩) n 4) m xs) (q : Below w.heap.size w wr)
    (hb : Below (wr.alloc (.cells #[.int .i64 0, .int .i64 0, .int .i64 0, .int .i64 0, .int .i64 0, .int .i64 0, .int .i64 0, .int .i64 0] 30)).drew.heap.size (wr.alloc (.cells #[.int .i64 0, .int .i64 0, .int .i64 0, .int .i64 0, .int .i64 0, .int .i64 0, .int .i64 0, .int .i64 0] 30)).drew w2) (N : IsS w2 wr.heap.size ⟨0, 0, ⟨0, 0, 0, 0, 0, 0⟩⟩ 30) : IsS (((((((((w2.setCell ⟨wr.heap.size, 0, none⟩ (.int .i64 r.x)).setCell ⟨wr.heap.size, 1, none⟩ (.int .i64 r.y)).setCell ⟨wr.heap.size, 2, none⟩ (.int .i64 r.d.t)).setCell ⟨wr.heap.size, 3, none⟩ (.int .i64 r.d.n)).setCell ⟨wr.heap.size, 4, none⟩ (.int .i64 r.d.e)).setCell ⟨wr.heap.size, 5, none⟩ (.int .i64 r.d.s)).setCell ⟨wr.heap.size, 6, none⟩ (.int .i64 r.d.w)).setCell ⟨wr.heap.size, 7, none⟩ (.int .i64 r.d.b))) wr.heap.size r 30 ∧ IsS (((((((((w2.setCell ⟨wr.heap.size, 0, none⟩ (.int .i64 r.x)).setCell ⟨wr.heap.size, 1, none⟩ (.int .i64 r.y)).setCell ⟨wr.heap.size, 2, none⟩ (.int .i64 r.d.t)).setCell ⟨wr.heap.size, 3, none⟩ (.int .i64 r.d.n)).setCell ⟨wr.heap.size, 4, none⟩ (.int .i64 r.d.e)).setCell ⟨wr.heap.size, 5, none⟩ (.int .i64 r.d.s)).setCell ⟨wr.heap.size, 6, none⟩ (.int .i64 r.d.w)).setCell ⟨wr.heap.size, 7, none⟩ (.int .i64 r.d.b))) w.heap.size t 30 ∧ RowsAt (((((((((w2.setCell ⟨wr.heap.size, 0, none⟩ (.int .i64 r.x)).setCell ⟨wr.heap.size, 1, none⟩ (.int .i64 r.y)).setCell ⟨wr.heap.size, 2, none⟩ (.int .i64 r.d.t)).setCell ⟨wr.heap.size, 3, none⟩ (.int .i64 r.d.n)).setCell ⟨wr.heap.size, 4, none⟩ (.int .i64 r.d.e)).setCell ⟨wr.heap.size, 5, none⟩ (.int .i64 r.d.s)).setCell ⟨wr.heap.size, 6, none⟩ (.int .i64 r.d.w)).setCell ⟨wr.heap.size, 7, none⟩ (.int .i64 r.d.b))) (w.heap.size + 1 + 1) rs ∧ (((((((((w2.setCell ⟨wr.heap.size, 0, none⟩ (.int .i64 r.x)).setCell ⟨wr.heap.size, 1, none⟩ (.int .i64 r.y)).setCell ⟨wr.heap.size, 2, none⟩ (.int .i64 r.d.t)).setCell ⟨wr.heap.size, 3, none⟩ (.int .i64 r.d.n)).setCell ⟨wr.heap.size, 4, none⟩ (.int .i64 r.d.e)).setCell ⟨wr.heap.size, 5, none⟩ (.int .i64 r.d.s)).setCell ⟨wr.heap.size, 6, none⟩ (.int .i64 r.d.w)).setCell ⟨wr.heap.size, 7, none⟩ (.int .i64 r.d.b))).ownsRow B 5 1 (.slice (some ⟨B, 0, none⟩) n 4) m xs ∧ Below w.heap.size w (((((((((w2.setCell ⟨wr.heap.size, 0, none⟩ (.int .i64 r.x)).setCell ⟨wr.heap.size, 1, none⟩ (.int .i64 r.y)).setCell ⟨wr.heap.size, 2, none⟩ (.int .i64 r.d.t)).setCell ⟨wr.heap.size, 3, none⟩ (.int .i64 r.d.n)).setCell ⟨wr.heap.size, 4, none⟩ (.int .i64 r.d.e)).setCell ⟨wr.heap.size, 5, none⟩ (.int .i64 r.d.s)).setCell ⟨wr.heap.size, 6, none⟩ (.int .i64 r.d.w)).setCell ⟨wr.heap.size, 7, none⟩ (.int .i64 r.d.b))) := by
  have q2 : Below w.heap.size w w2 := below_to hb (q.alloc q.size _) (by have := q.size; simp; omega) rfl rfl rfl rfl
  have hb8 : Below wr.heap.size wr (((((((((w2.setCell ⟨wr.heap.size, 0, none⟩ (.int .i64 r.x)).setCell ⟨wr.heap.size, 1, none⟩ (.int .i64 r.y)).setCell ⟨wr.heap.size, 2, none⟩ (.int .i64 r.d.t)).setCell ⟨wr.heap.size, 3, none⟩ (.int .i64 r.d.n)).setCell ⟨wr.heap.size, 4, none⟩ (.int .i64 r.d.e)).setCell ⟨wr.heap.size, 5, none⟩ (.int .i64 r.d.s)).setCell ⟨wr.heap.size, 6, none⟩ (.int .i64 r.d.w)).setCell ⟨wr.heap.size, 7, none⟩ (.int .i64 r.d.b))) := below_set8 (below_to hb ((Below.refl wr.heap.size wr).alloc (Nat.le_refl _) (.cells #[.int .i64 0, .int .i64 0, .int .i64 0, .int .i64 0, .int .i64 0, .int .i64 0, .int .i64 0, .int .i64 0] 30)) (by simp) rfl rfl rfl rfl) (Nat.le_refl _) r
  exact ⟨N.set8 r, isS_to hb8 u rfl, rowsAt_to hb8 R rfl, own_to hb8 O rfl, below_set8 q2 q.size r⟩
theorem can_cutB {w wr w2 : World} {B n m : Nat} {t r : St} {rs : List ByteArray} {xs : List Value} (u : IsS wr w.heap.size t 30) (R : RowsAt wr (w.heap.size + 1 + 1) rs) (O : wr.ownsRow B 5 1 (.slice (some ⟨B, 0, none⟩) n 4) m xs) (q : Below w.heap.size w wr)
    (hb : Below wr.drew.heap.size wr.drew w2) : IsS (w2.alloc (.cells #[.int .i64 r.x, .int .i64 r.y, .int .i64 r.d.t, .int .i64 r.d.n, .int .i64 r.d.e, .int .i64 r.d.s, .int .i64 r.d.w, .int .i64 r.d.b] 30)) w2.heap.size r 30 ∧ IsS (w2.alloc (.cells #[.int .i64 r.x, .int .i64 r.y, .int .i64 r.d.t, .int .i64 r.d.n, .int .i64 r.d.e, .int .i64 r.d.s, .int .i64 r.d.w, .int .i64 r.d.b] 30)) w.heap.size t 30 ∧ RowsAt (w2.alloc (.cells #[.int .i64 r.x, .int .i64 r.y, .int .i64 r.d.t, .int .i64 r.d.n, .int .i64 r.d.e, .int .i64 r.d.s, .int .i64 r.d.w, .int .i64 r.d.b] 30)) (w.heap.size + 1 + 1) rs ∧ (w2.alloc (.cells #[.int .i64 r.x, .int .i64 r.y, .int .i64 r.d.t, .int .i64 r.d.n, .int .i64 r.d.e, .int .i64 r.d.s, .int .i64 r.d.w, .int .i64 r.d.b] 30)).ownsRow B 5 1 (.slice (some ⟨B, 0, none⟩) n 4) m xs ∧ Below w.heap.size w (w2.alloc (.cells #[.int .i64 r.x, .int .i64 r.y, .int .i64 r.d.t, .int .i64 r.d.n, .int .i64 r.d.e, .int .i64 r.d.s, .int .i64 r.d.w, .int .i64 r.d.b] 30)) := by
  have q2 : Below w.heap.size w w2 := below_to hb q q.size rfl rfl rfl rfl
  exact ⟨IsS.new, (isS_to hb u rfl).alloc _, rowsAt_to ((Below.refl _ _).alloc (Nat.le_refl _) _) (rowsAt_to hb R rfl) rfl, (own_to hb O rfl).alloc _, q2.alloc q2.size _⟩

end Go.Proofs.YthdkhikkdcjifaaDoor
