/- The walks of the laws of BackWord and TurnRolls. -/
import Derived.Test.YtkknjokacinlaaaDoorWalksK
import Derived.Laws.IdiomStrings
namespace Go.Proofs.YtkknjokacinlaaaDoor
set_option maxRecDepth 100000
set_option linter.all false
open Go.RowKit

theorem diDirsL_any (w : World) : Calls Tryd.prog 34 #[] w fun e w' => e = .returned (.string ⟨#[110, 101, 115, 119]⟩) ∧ w = w' := by
  go_enter Tryd.func34, Tryd.ntmps34
  go_wp2
  go_ret
  exact ⟨rfl, rfl⟩
theorem dsl0 (wx : World) : (Instr.slice 9 (.string ⟨#[110, 101, 115, 119]⟩) (some (.int .i64 0)) (some (.int .i64 1)) none).run Tryd.prog wx = .ok (.string ⟨#[110]⟩) wx := by kernel_rfl
theorem dsl1 (wx : World) : (Instr.slice 9 (.string ⟨#[110, 101, 115, 119]⟩) (some (.int .i64 1)) (some (.int .i64 2)) none).run Tryd.prog wx = .ok (.string ⟨#[101]⟩) wx := by kernel_rfl
theorem dsl2 (wx : World) : (Instr.slice 9 (.string ⟨#[110, 101, 115, 119]⟩) (some (.int .i64 2)) (some (.int .i64 3)) none).run Tryd.prog wx = .ok (.string ⟨#[115]⟩) wx := by kernel_rfl
theorem dsl3 (wx : World) : (Instr.slice 9 (.string ⟨#[110, 101, 115, 119]⟩) (some (.int .i64 3)) (some (.int .i64 4)) none).run Tryd.prog wx = .ok (.string ⟨#[119]⟩) wx := by kernel_rfl
theorem idx_lit (c : UInt8) (n : Int) (h : dirIx c.toNat = n) (w : World) : Calls Tryd.prog 43 #[.string ⟨#[110, 101, 115, 119]⟩, .int .u8 c.toNat] w fun e w' => e = .returned (.int .i64 n) ∧ w = w' := by
  rw [← h]
  exact indexNesw_any c w
theorem info_u8 : (Tryd.prog.info? 5).map (fun i => (i.zero, i.size, i.bytes)) = some (some (.int .u8 0), 1, 1) := by kernel_rfl
/-- 'string(b)' of a row of bytes that the call owns. -/
theorem bytes_back {w : World} {base g n cap : Nat} {l : List UInt8} (h : w.ownsRow base 5 1 (.slice (some ⟨g, 0, none⟩) n cap) n (bytesV l)) (hn : l.length = n) :
    (convert 37 9 (.slice (some ⟨g, 0, none⟩) n cap)).run Tryd.prog w = .ok (.string ⟨l.toArray⟩) w := by
  subst hn
  refine run_convert_bytes_back w _ _ 5 _ cap l Tryd.underlying37 Tryd.underlying5 Tryd.underlying9 (fun j hj => ?_)
  exact h.cells rfl j _ (by simp [bytesV, List.getElem?_eq_getElem hj])

theorem opposite_any (c : UInt8) (w : World) (hc : 0 ≤ dirIx c.toNat) : Calls Tryd.prog 42 #[.int .u8 (c.toNat : Int)] w fun e w' => e = .returned (.int .u8 ((oppC c).toNat : Int)) ∧ w = w' := by
  rcases dir_cases c hc with rfl | rfl | rfl | rfl <;> clear hc
  all_goals
    go_enter Tryd.func42, Tryd.ntmps42
    go_wp2
    go_returns
    exact ⟨rfl, rfl⟩

/-- What the program's undone word rests on in the round. -/
def BackI (w wr : World) (v : Value) (n : Nat) (l : List UInt8) : Prop := v = .slice (some ⟨w.heap.size, 0, none⟩) l.length n ∧ wr.ownsRow w.heap.size 5 1 (.slice (some ⟨w.heap.size, 0, none⟩) l.length n) l.length (bytesV l) ∧ Below w.heap.size w wr

/-- What both say. -/
def bkS (l : List UInt8) : ByteArray := if isWord l = true then ⟨(backW l).toArray⟩ else ⟨#[]⟩
/-- What the program's turned word rests on in the round: k bytes turned, the rest as they were. -/
def TurnI (w wr : World) (v : Value) (cap k : Nat) (l : List UInt8) : Prop := v = .slice (some ⟨w.heap.size, 0, none⟩) l.length cap ∧ (∃ cs : Array Value, wr.heap[w.heap.size]? = some (.cells cs 5 (cs.size, cs.size + 1)) ∧ ∀ j (hj : j < l.length), cs[j]? = some (.int .u8 ((if j < k then turnC l[j] else l[j]).toNat : Int))) ∧ Below w.heap.size w wr
theorem TurnI.cell {w wr : World} {v : Value} {cap k j : Nat} {l : List UInt8} (h : TurnI w wr v cap k l) (hj : j < l.length) : wr.cell? ⟨w.heap.size, j, none⟩ = some (.int .u8 ((if j < k then turnC (l[j]'hj) else l[j]'hj).toNat : Int)) ∧ wr.frozen? ⟨w.heap.size, j, none⟩ = false := by
  obtain ⟨_, ⟨cs, h1, h2⟩, _⟩ := h
  have hc := h2 j hj
  have hlt : j < cs.size := (Array.getElem?_eq_some_iff.1 hc).1
  constructor
  · simp [World.cell?, h1, hc]
  · simp [World.frozen?, h1]; omega
theorem TurnI.step {w wr : World} {v : Value} {cap k : Nat} {l : List UInt8} (h : TurnI w wr v cap k l) (hk : k < l.length) : TurnI w (wr.setCell ⟨w.heap.size, k, none⟩ (.int .u8 ((turnC (l[k]'hk)).toNat : Int))) v cap (k + 1) l := by
  obtain ⟨h0, ⟨cs, h1, h2⟩, h3⟩ := h
  have hks : k < cs.size := (Array.getElem?_eq_some_iff.1 (h2 k hk)).1
  refine ⟨h0, ⟨cs.set k (.int .u8 ((turnC (l[k]'hk)).toNat : Int)) hks, ?_, ?_⟩, h3.setCell (Nat.le_refl _) _⟩
  · have := cells_set h1 k hks (.int .u8 ((turnC (l[k]'hk)).toNat : Int))
    simpa using this
  · intro j hj
    rw [Array.getElem?_set]
    by_cases e : k = j
    · subst e
      rw [if_pos rfl, if_pos (by omega)]
    · rw [if_neg e, h2 j hj]
      by_cases hjk : j < k
      · rw [if_pos hjk, if_pos (by omega)]
      · rw [if_neg hjk, if_neg (by omega)]
theorem TurnI.done {w wr : World} {v : Value} {cap : Nat} {l : List UInt8} (h : TurnI w wr v cap l.length l) : (convert 37 9 (.slice (some ⟨w.heap.size, 0, none⟩) l.length cap)).run Tryd.prog wr = .ok (.string ⟨(turnW l).toArray⟩) wr := by
  have := run_convert_bytes_back (P := Tryd.prog) wr 37 9 5 ⟨w.heap.size, 0, none⟩ cap (turnW l) Tryd.underlying37 Tryd.underlying5 Tryd.underlying9 (fun j hj => by
    have hj' : j < l.length := by rwa [turnW_len] at hj
    have := (h.cell hj').1
    rw [if_pos hj'] at this
    rw [show ((⟨w.heap.size, 0, none⟩ : Addr).add j) = ⟨w.heap.size, j, none⟩ from by unfold Addr.add; split <;> simp_all, this]
    simp [turnW])
  rwa [turnW_len] at this

/-- What both say. -/
def tuS (l : List UInt8) : ByteArray := if isWord l = true then ⟨(turnW l).toArray⟩ else ⟨#[]⟩
end Go.Proofs.YtkknjokacinlaaaDoor
