/- Dice in a row, one after the other; the words that directions make. (The program's search: XSwD.) -/
import Derived.Test.YthdkhikkdcjifaaDoorDie
import Derived.Test.YthdkhikkdcjifaaDoorMaps
import Derived.Test.YthdkhikkdcjifaaDoorState
import Derived.StillTailTactics
import Derived.Maps.AppendAt
import Derived.Deep.RegionWith
import Derived.Deep.DeepCutAuto
namespace Go.Proofs.YthdkhikkdcjifaaDoor
set_option maxRecDepth 100000
set_option linter.all false
open Go.RowKit Go.Maps

def dcells (d : D) : List Value := [.int .i64 d.t, .int .i64 d.n, .int .i64 d.e, .int .i64 d.s, .int .i64 d.w, .int .i64 d.b]
def cellsL (L : Found) : List Value := L.flatMap fun p => dcells p.1
theorem cellsL_len (L : Found) : (cellsL L).length = L.length * 6 := by
  induction L with
  | nil => rfl
  | cons a L ih =>
    simp only [cellsL, List.flatMap_cons, List.length_append] at ih ⊢
    rw [ih]
    simp [dcells]
    omega
theorem cellsL_snoc (L : Found) (p : D × List UInt8) : cellsL (L ++ [p]) = cellsL L ++ dcells p.1 := by simp [cellsL]
theorem cellsL_get : ∀ (L : Found) (n : Nat) (p : D × List UInt8), L[n]? = some p → ∀ j, j < 6 → (cellsL L)[n * 6 + j]? = (dcells p.1)[j]?
  | [], _, _, h, _, _ => by simp at h
  | a :: L, 0, p, h, j, hj => by
    simp at h
    subst h
    simp only [cellsL, List.flatMap_cons]
    rw [List.getElem?_append_left (by simp [dcells]; omega)]
    simp
  | a :: L, n + 1, p, h, j, hj => by
    have := cellsL_get L n p (by simpa using h) j hj
    rw [← this]
    simp only [cellsL, List.flatMap_cons]
    rw [List.getElem?_append_right (by simp [dcells]; omega)]
    congr 1
    simp [dcells]
    omega

/-- What holds of the world at the head of each round: the map and the queue are the list of what has been found. -/
structure Inv (w wr : World) (v : Value) (L : Found) : Prop where
  map : MapIs wr (w.heap.size + 1) L
  row : wr.ownsRow w.heap.size 28 6 v L.length (cellsL L)
  below : Below w.heap.size w wr

theorem Inv.slice {w wr : World} {v : Value} {L : Found} (h : Inv w wr v L) (hp : 0 < L.length) : ∃ g cap, v = .slice (some ⟨g, 0, none⟩) L.length cap ∧ w.heap.size ≤ g ∧ L.length ≤ cap ∧ cap ≤ maxLen := by
  rcases h.row.2 with ⟨_, h0⟩ | ⟨g, cap, cur, hv, hg, _, hc, hm, _⟩
  · omega
  · exact ⟨g, cap, hv, hg, hc, hm⟩
theorem Inv.cell {w wr : World} {g cap n : Nat} {L : Found} (h : Inv w wr (.slice (some ⟨g, 0, none⟩) L.length cap) L) {p : D × List UInt8} (hn : L[n]? = some p) :
    wr.cell? ⟨g, n * 6, none⟩ = some (.int .i64 p.1.t) ∧ wr.cell? ⟨g, n * 6 + 1, none⟩ = some (.int .i64 p.1.n) ∧ wr.cell? ⟨g, n * 6 + 2, none⟩ = some (.int .i64 p.1.e) ∧
    wr.cell? ⟨g, n * 6 + 3, none⟩ = some (.int .i64 p.1.s) ∧ wr.cell? ⟨g, n * 6 + 4, none⟩ = some (.int .i64 p.1.w) ∧ wr.cell? ⟨g, n * 6 + 5, none⟩ = some (.int .i64 p.1.b) := by
  have hc := h.row.cells (g := g) rfl
  have hh : ∀ j u, j < 6 → (dcells p.1)[j]? = some u → wr.cell? ⟨g, n * 6 + j, none⟩ = some u := by
    intro j u hj hu
    have h1 := hc (n * 6 + j) u ((cellsL_get L n p hn j hj).trans hu)
    have e : (⟨g, 0, none⟩ : Addr).add (n * 6 + j) = ⟨g, n * 6 + j, none⟩ := by
      unfold Addr.add
      split
      · rename_i h0
        simp
      · simp
    rw [e] at h1
    exact h1
  exact ⟨hh 0 _ (by omega) rfl, hh 1 _ (by omega) rfl, hh 2 _ (by omega) rfl, hh 3 _ (by omega) rfl, hh 4 _ (by omega) rfl, hh 5 _ (by omega) rfl⟩

theorem dir_index : ∀ (j : Nat) (hj : j < 4) (wx : World), (Instr.index 9 (.string ⟨#[110, 101, 115, 119]⟩) (.int .i64 (j : Int))).run Tryd.prog wx = .ok (.int .u8 ((fourDirs[j]'hj).toNat : Int)) wx
  | 0, _, _ => by kernel_rfl
  | 1, _, _ => by kernel_rfl
  | 2, _, _ => by kernel_rfl
  | 3, _, _ => by kernel_rfl
theorem dir_slice : ∀ (j : Nat) (hj : j < 4) (wx : World), (Instr.slice 9 (.string ⟨#[110, 101, 115, 119]⟩) (some (.int .i64 (j : Int))) (some (.int .i64 ((j : Int) + 1))) none).run Tryd.prog wx = .ok (.string ⟨#[fourDirs[j]'hj]⟩) wx
  | 0, _, _ => by kernel_rfl
  | 1, _, _ => by kernel_rfl
  | 2, _, _ => by kernel_rfl
  | 3, _, _ => by kernel_rfl
theorem add_str (a b : List UInt8) (h : a.length + b.length ≤ 1000) (wx : World) : (binOp .add 9 (.string ⟨a.toArray⟩) (.string ⟨b.toArray⟩)).run Tryd.prog wx = .ok (.string ⟨(a ++ b).toArray⟩) wx := by
  have e : (⟨(a ++ b).toArray⟩ : ByteArray) = ⟨a.toArray⟩ ++ ⟨b.toArray⟩ := by
    apply ByteArray.ext
    simp
  rw [e]
  have h' : a.length + b.length ≤ 9223372036854775807 := by omega
  simp [go_sem, h']

theorem info_die : (Tryd.prog.info? 28).map (fun i => (i.zero, i.size, i.bytes)) = some (some (.agg #[.int .i64 0, .int .i64 0, .int .i64 0, .int .i64 0, .int .i64 0, .int .i64 0]), 6, 48) := by kernel_rfl
theorem dcells_one (x : D) : ∀ u ∈ dcells x, u.oneCell' = true := by
  intro u hu
  simp only [dcells, List.mem_cons, List.not_mem_nil, or_false] at hu
  rcases hu with rfl | rfl | rfl | rfl | rfl | rfl <;> rfl
theorem dcells_cell {w : World} {b : Nat} {x : D} {ty : TypeId} (h : IsD w b x ty) : ∀ (j : Nat) (u : Value), (dcells x)[j]? = some u → w.cell? ((⟨b, 0, none⟩ : Addr).add j) = some u := by
  intro j u hu
  obtain ⟨⟨c0, c1, c2, c3, c4, c5⟩, -⟩ := h.cells
  match j, hu with
  | 0, hu => simp [dcells] at hu; subst hu; simpa [Addr.add] using c0
  | 1, hu => simp [dcells] at hu; subst hu; simpa [Addr.add] using c1
  | 2, hu => simp [dcells] at hu; subst hu; simpa [Addr.add] using c2
  | 3, hu => simp [dcells] at hu; subst hu; simpa [Addr.add] using c3
  | 4, hu => simp [dcells] at hu; subst hu; simpa [Addr.add] using c4
  | 5, hu => simp [dcells] at hu; subst hu; simpa [Addr.add] using c5
  | j + 6, hu => simp [dcells] at hu

theorem Inv.kept {w wr w1 : World} {v : Value} {L : Found} (h : Inv w wr v L) (x : World) (e : x.heap = wr.heap) (e1 : x.os = wr.os) (e2 : x.tape = wr.tape) (e3 : x.output = wr.output) (hb : Below x.heap.size x w1) : Inv w w1 v L := by
  have gb : wr.grownBy w1 none := ⟨hb.os.trans e1, hb.tape.trans e2, hb.output.trans e3, by rw [← e]; exact hb.size, fun k hk _ => by rw [hb.block k (by rw [e]; exact hk), e]⟩
  have q : Below w.heap.size w wr := h.below
  refine ⟨h.map.kept gb (by simp), ?_, ?_⟩
  · refine h.row.kept gb ?_
    cases hv : v.ownBlock
    · exact .inl rfl
    · exact .inr (by simp)
  · exact q.grown gb q.size (fun k hk => by cases hk)

end Go.Proofs.YthdkhikkdcjifaaDoor
