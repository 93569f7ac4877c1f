/- Six different faces: the plain model. -/
import Derived.Test.YtnncehifmaaeiaaDoorPure
import Derived.Lib.SlicesCompact
namespace Go.Proofs.YtnncehifmaaeiaaDoor
set_option maxRecDepth 100000
set_option linter.all false
open Go

def flD (d : D) : List Int := [d.t, d.n, d.e, d.s, d.w, d.b]
/-- Are all six faces different? -/
def sixB (d : D) : Bool := decide (flD d).Nodup
theorem six_of {l : List Int} (h : l.length = 6) : ∃ a b c d e f, l = [a, b, c, d, e, f] := by
  match l, h with
  | [a, b, c, d, e, f], _ => exact ⟨a, b, c, d, e, f, rfl⟩
theorem compact_six (a b c d e f : Int) (h : List.Pairwise (fun x y => x ≤ y) [a, b, c, d, e, f]) : (Lib.compact [a, b, c, d, e, f]).length = 6 ↔ [a, b, c, d, e, f].Nodup := by
  have h1 : (Lib.compact [a, b, c, d, e, f]).length = ((List.range 6).filter (Lib.keeps #[a, b, c, d, e, f])).length := by simp [Lib.compact, Lib.compactUpTo]
  have k0 : Lib.keeps #[a, b, c, d, e, f] 0 = true := by simp [Lib.keeps]
  have k1 : Lib.keeps #[a, b, c, d, e, f] 1 = decide (b ≠ a) := by simp [Lib.keeps]
  have k2 : Lib.keeps #[a, b, c, d, e, f] 2 = decide (c ≠ b) := by simp [Lib.keeps]
  have k3 : Lib.keeps #[a, b, c, d, e, f] 3 = decide (d ≠ c) := by simp [Lib.keeps]
  have k4 : Lib.keeps #[a, b, c, d, e, f] 4 = decide (e ≠ d) := by simp [Lib.keeps]
  have k5 : Lib.keeps #[a, b, c, d, e, f] 5 = decide (f ≠ e) := by simp [Lib.keeps]
  have hr : List.range 6 = [0, 1, 2, 3, 4, 5] := rfl
  rw [h1, hr]
  simp only [List.pairwise_cons, List.mem_cons, List.not_mem_nil, or_false, forall_eq_or_imp, forall_eq, and_true, List.Pairwise.nil, false_implies, implies_true] at h
  simp only [List.filter_cons, k0, k1, k2, k3, k4, k5, List.filter_nil, if_true, decide_eq_true_eq, List.nodup_cons, List.mem_cons, List.not_mem_nil, or_false, not_or, not_false_eq_true, List.nodup_nil, and_true]
  constructor
  · intro hl
    (repeat' split at hl) <;> first | omega | (simp at hl)
  · intro hn
    rw [if_pos (show b ≠ a by omega), if_pos (show c ≠ b by omega), if_pos (show d ≠ c by omega), if_pos (show e ≠ d by omega), if_pos (show f ≠ e by omega)]
    rfl
/-- What the program makes of it: sort, take equal neighbours together, count. -/
def srtD (d : D) : List Int := (flD d).mergeSort fun x y => decide (x ≤ y)
theorem srtD_len (d : D) : (srtD d).length = 6 := by unfold srtD; rw [List.length_mergeSort]; rfl
theorem six_sorted (d : D) : ((Lib.compact (srtD d)).length = 6 ↔ sixB d = true) := by
  have hp : List.Pairwise (fun x y => x ≤ y) (srtD d) := by
    have := List.pairwise_mergeSort (le := fun x y : Int => decide (x ≤ y)) (fun a b c h1 h2 => by simp at h1 h2 ⊢; omega) (fun a b => by simp; omega) (flD d)
    exact this.imp (fun h => by simpa using h)
  have hperm : (srtD d).Perm (flD d) := List.mergeSort_perm _ _
  obtain ⟨x0, x1, x2, x3, x4, x5, hx⟩ := six_of (srtD_len d)
  rw [hx] at hp hperm ⊢
  rw [compact_six x0 x1 x2 x3 x4 x5 hp, hperm.nodup_iff]
  unfold sixB
  simp
theorem flD_map (f : Int → Int) (p : D) : flD (mapD f p) = (flD p).map f := rfl
theorem ways_perm : ∀ p ∈ ways, (flD p).Perm (flD unitD) := by decide +kernel
theorem sixB_orbit {d x : D} (h : x ∈ orbit d) : sixB x = sixB d := by
  unfold orbit at h
  obtain ⟨p, hp, rfl⟩ := List.mem_map.1 h
  have h1 : (flD (pick d p)).Perm (flD d) := by
    have := (ways_perm p hp).map d.at
    exact this
  unfold sixB
  rw [decide_eq_decide]
  exact h1.nodup_iff
end Go.Proofs.YtnncehifmaaeiaaDoor
