/- A byte against a number. Bytes in a row of a text's conversion; the program's and the model's labels: isLabel, prDigit, labelOf, floorText. -/
import Derived.Test.YthdkhikkdcjifaaDoorBase
import Derived.Test.YthdkhikkdcjifaaDoorBoard
import Derived.Laws.IdiomStrings
namespace Go.Proofs.YthdkhikkdcjifaaDoor
set_option maxRecDepth 100000
set_option linter.all false
open Go.RowKit

theorem byte_eq {c : UInt8} {n : Int} (h : (c.toNat : Int) = n) : (((c.toNat : Nat) : Int) == n) = true ∧ (((c.toNat : Nat) : Int) != n) = false := by
  rw [h]; simp
theorem byte_ne {c : UInt8} {n : Int} (h : ¬ (c.toNat : Int) = n) : (((c.toNat : Nat) : Int) == n) = false ∧ (((c.toNat : Nat) : Int) != n) = true := by
  constructor
  · exact beq_eq_false_iff_ne.2 h
  · exact bne_iff_ne.2 h
theorem u8_eq (a b : UInt8) : (a == b) = decide ((a.toNat : Int) = (b.toNat : Int)) := by
  rw [Bool.eq_iff_iff]
  simp [← UInt8.toNat_inj]
  omega
theorem okC_int (c : UInt8) : okC c = (decide ((c.toNat : Int) = 46) || decide ((c.toNat : Int) = 35)) := by
  unfold okC
  rw [u8_eq, u8_eq]
  rfl

end Go.Proofs.YthdkhikkdcjifaaDoor
namespace Go.Proofs.YthdkhikkdcjifaaDoor
set_option maxRecDepth 100000
set_option linter.all false
open Go.RowKit

/-- Block g begins with the bytes L, none of which is frozen. -/
def BufAt (w : World) (g : Nat) (L : List UInt8) : Prop := ∃ (C : Array Value) (lo hi : Nat), w.heap[g]? = some (.cells C 5 (lo, hi)) ∧ L.length ≤ lo ∧ ∀ (j : Nat) (c : UInt8), L[j]? = some c → C[j]? = some (.int .u8 (c.toNat : Int))
theorem BufAt.lt {w : World} {g : Nat} {L : List UInt8} (h : BufAt w g L) : g < w.heap.size := by
  obtain ⟨C, lo, hi, h, _⟩ := h
  rcases Nat.lt_or_ge g w.heap.size with h' | h'
  · exact h'
  · simp [Array.getElem?_eq_none h'] at h
theorem bufAt_to {w w0 w1 : World} {g : Nat} {L : List UInt8} (hb : Below w0.heap.size w0 w1) (h : BufAt w g L) (e : w0.heap = w.heap) : BufAt w1 g L := by
  have hl := h.lt
  obtain ⟨C, lo, hi, h1, h2⟩ := h
  refine ⟨C, lo, hi, ?_, h2⟩
  rw [hb.block g (by rw [e]; exact hl), e]
  exact h1
theorem BufAt.cell {w : World} {g : Nat} {L : List UInt8} (h : BufAt w g L) {j : Nat} {c : UInt8} (hc : L[j]? = some c) : w.cell? ⟨g, j, none⟩ = some (.int .u8 (c.toNat : Int)) ∧ w.frozen? ⟨g, j, none⟩ = false := by
  obtain ⟨C, lo, hi, h1, h2, h3⟩ := h
  have hj := (List.getElem?_eq_some_iff.1 hc).1
  constructor
  · simp [World.cell?, h1, h3 j c hc]
  · have : decide (lo ≤ j) = false := decide_eq_false (by omega)
    simp [World.frozen?, h1, this]
theorem BufAt.other {w : World} {g : Nat} {L : List UInt8} (h : BufAt w g L) {p : Addr} (hp : g ≠ p.block) (u : Value) : BufAt (w.setCell p u) g L := by
  obtain ⟨C, lo, hi, h1, h2⟩ := h
  exact ⟨C, lo, hi, (Below.heap_setCell w p u g hp).trans h1, h2⟩
theorem BufAt.alloc {w : World} {g : Nat} {L : List UInt8} (h : BufAt w g L) (o : Obj) : BufAt (w.alloc o) g L := by
  have hl := h.lt
  obtain ⟨C, lo, hi, h1, h2⟩ := h
  exact ⟨C, lo, hi, (Below.heap_alloc w o g hl).trans h1, h2⟩
theorem BufAt.kept {w w1 : World} {g : Nat} {L : List UInt8} {row : Option Nat} (h : BufAt w g L) (hg : w.grownBy w1 row) (hne : some g ≠ row) : BufAt w1 g L := by
  have hl := h.lt
  obtain ⟨C, lo, hi, h1, h2⟩ := h
  exact ⟨C, lo, hi, (hg.block g hl hne).trans h1, h2⟩
/-- A byte is written. -/
theorem BufAt.put {w : World} {g : Nat} {L : List UInt8} (h : BufAt w g L) {j : Nat} (hj : j < L.length) (c : UInt8) : BufAt (w.setCell ⟨g, j, none⟩ (.int .u8 (c.toNat : Int))) g (L.set j c) := by
  obtain ⟨C, lo, hi, h1, h2, h3⟩ := h
  have hC : j < C.size := by
    have := h3 j _ (List.getElem?_eq_getElem hj)
    rcases Nat.lt_or_ge j C.size with h' | h'
    · exact h'
    · simp [Array.getElem?_eq_none h'] at this
  refine ⟨C.set j (.int .u8 (c.toNat : Int)) hC, lo, hi, cells_set h1 j hC _, by simpa using h2, fun i x hx => ?_⟩
  rw [Array.getElem?_set hC]
  rw [List.getElem?_set] at hx
  by_cases hij : j = i
  · subst hij
    rw [if_pos rfl] at hx ⊢
    rw [if_pos hj] at hx
    rw [Option.some.inj hx]
  · rw [if_neg hij] at hx ⊢
    exact h3 i x hx
/-- '[]byte(s)' of a text that comes in: a new block. -/
theorem bytes_new (s : ByteArray) (w : World) : ∃ (cap : Nat) (W1 : World), (convert 9 57 (.string s)).run Tryd.prog w = .ok (.slice (some ⟨w.heap.size, 0, none⟩) s.size cap) W1 ∧ s.size ≤ cap ∧ BufAt W1 w.heap.size s.data.toList ∧ Below w.heap.size w W1 ∧ W1.heap.size = w.heap.size + 1 := by
  refine ⟨_, _, run_bytes_of_string w _ _ 5 s Tryd.underlying9 Tryd.underlying57 Tryd.underlying5, ?_, ⟨bytesRow s (grownCap w s.size 0 5), (bytesRow s (grownCap w s.size 0 5)).size, (bytesRow s (grownCap w s.size 0 5)).size + 1, ?_, ?_, ?_⟩, ?_, ?_⟩
  · exact grownCap_ge w _ _ _
  · show (w.heap.push _)[w.heap.size]? = _
    simp
  · simp [bytesRow]
  · intro j c hc
    have hj : j < s.data.size := by simpa using (List.getElem?_eq_some_iff.1 hc).1
    rw [bytesRow_at s _ j hj]
    have := (List.getElem?_eq_some_iff.1 hc).2
    simp at this
    rw [this]
  · exact ((Below.refl _ w).drew).alloc (Nat.le_refl _) _
  · show (w.heap.push _).size = _
    simp
/-- 'string(b)' of a row that begins with these bytes. -/
theorem bytes_out {w : World} {g n cap : Nat} {L : List UInt8} (h : BufAt w g L) (hn : L.length = n) : (convert 57 9 (.slice (some ⟨g, 0, none⟩) n cap)).run Tryd.prog w = .ok (.string ⟨L.toArray⟩) w := by
  subst hn
  refine run_convert_bytes_back w _ _ 5 _ cap L Tryd.underlying57 Tryd.underlying5 Tryd.underlying9 (fun j hj => ?_)
  have : (⟨g, 0, none⟩ : Addr).add j = ⟨g, j, none⟩ := by
    unfold Addr.add
    split <;> simp_all
  rw [this]
  exact (h.cell (List.getElem?_eq_getElem hj)).1

/-! ### Labels -/
/-- The first k signs without labels, the others as they are. -/
def mixL (L : List UInt8) (k : Nat) : List UInt8 := unlab (L.take k) ++ L.drop k
theorem mixL_zero (L : List UInt8) : mixL L 0 = L := by simp [mixL, unlab]
theorem mixL_end (L : List UInt8) : mixL L L.length = unlab L := by simp [mixL]
theorem mixL_len (L : List UInt8) (k : Nat) : (mixL L k).length = L.length := by simp [mixL, unlab]; omega
theorem mixL_at {L : List UInt8} {k : Nat} {c : UInt8} (h : L[k]? = some c) : (mixL L k)[k]? = some c := by
  have hk := (List.getElem?_eq_some_iff.1 h).1
  unfold mixL
  rw [List.getElem?_append_right (by simp [unlab]; omega)]
  simp [unlab, Nat.min_eq_left (Nat.le_of_lt hk), h]
theorem mixL_set {L : List UInt8} {k : Nat} {c : UInt8} (h : L[k]? = some c) : (mixL L k).set k (unl c) = mixL L (k + 1) := by
  obtain ⟨hk, hc⟩ := List.getElem?_eq_some_iff.1 h
  have hl : (unlab (L.take k)).length = k := by simp [unlab]; omega
  unfold mixL
  rw [List.set_append_right k _ (by omega), hl, Nat.sub_self, List.drop_eq_getElem_cons hk, hc, List.take_add_one, h]
  simp [unlab]
theorem mixL_keep {L : List UInt8} {k : Nat} {c : UInt8} (h : L[k]? = some c) (hn : isDig c = false) : mixL L k = mixL L (k + 1) := by
  rw [← mixL_set h, unl_no hn]
  have h2 := mixL_at h
  obtain ⟨h3, h4⟩ := List.getElem?_eq_some_iff.1 h2
  rw [← h4, List.set_getElem_self]

end Go.Proofs.YthdkhikkdcjifaaDoor
