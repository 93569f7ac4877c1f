/- The contract of the model's reading of labelled boards: spec.prRead. Condition: at most 1048576 bytes. -/
import Derived.Test.YtmlfkcmmjmdhmaaDoorCells
import Derived.Test.YtmlfkcmmjmdhmaaDoorBuf
namespace Go.Proofs.YtmlfkcmmjmdhmaaDoor
set_option maxRecDepth 100000
set_option linter.all false
open Go.RowKit

theorem results_cell_tmp2 {fn : Func} {p u v : Tmp} {ty : TypeId} (h : fn.results = #[.cell p ty, .tmp u, .tmp v]) (tmps : Array Value) (P : Program) (w : World) :
    (results fn tmps).run P w =
      ((asAddr (tmps.getD p undef)).run P w).andThen fun a w₁ => ((loadVar ty a).run P w₁).andThen fun x w₂ => .ok (.tuple #[x, tmps.getD u undef, tmps.getD v undef]) w₂ := by
  simp only [results, h]
  simp [Sem.run_bind, Result.andThen]
theorem ret_grid3 {fn : Func} {p u q : Tmp} {tmps : Array Value} {w : World} {b : Nat} {x y : Int} {v l : Value} {ok : Bool} (h : fn.results = #[.cell p 43, .tmp u, .tmp q]) (hp : tmps.getD p undef = .pointer (some ⟨b, 0, none⟩)) (hu : tmps.getD u undef = l) (hq : tmps.getD q undef = .bool ok) (hd : IsG w b x y v) :
    (results fn tmps).run Tryd.prog w = .ok (.tuple #[.agg #[.int .i64 x, .int .i64 y, v], l, .bool ok]) w := by
  rw [results_cell_tmp2 h, hp, hu, hq]
  show ((loadVar 43 ⟨b, 0, none⟩).run Tryd.prog w).andThen _ = _
  rw [hd.load]
  rfl
theorem grid_ne_bytes {w : World} {b g : Nat} {x y : Int} {v : Value} {L : List UInt8} (h : IsG w b x y v) (hb : BytesAt w g L) : g ≠ b := by
  rintro rfl
  obtain ⟨cur, h1, _⟩ := hb
  unfold IsG at h
  rw [h1] at h
  injection h with h
  injection h with _ h2
  exact absurd h2 (by decide)
theorem BytesAt.other {w : World} {g : Nat} {L : List UInt8} (h : BytesAt w g L) {p : Addr} (hp : g ≠ p.block) (u : Value) : BytesAt (w.setCell p u) g L := by
  obtain ⟨cur, h1, h2⟩ := h
  exact ⟨cur, (Below.heap_setCell w p u g hp).trans h1, h2⟩
theorem BytesAt.other3 {w : World} {g b : Nat} {L : List UInt8} (h : BytesAt w g L) (hp : g ≠ b) (u0 u1 u2 : Value) : BytesAt (((w.setCell ⟨b, 0, none⟩ u0).setCell ⟨b, 1, none⟩ u1).setCell ⟨b, 2, none⟩ u2) g L := ((h.other hp _).other hp _).other hp _
theorem BytesAt.allocP {w : World} {g : Nat} {L : List UInt8} (h : BytesAt w g L) (o : Obj) : BytesAt (w.alloc o) g L := by
  have hl := h.lt
  obtain ⟨cur, h1, h2⟩ := h
  exact ⟨cur, (Below.heap_alloc w o g hl).trans h1, h2⟩

theorem own_capP {w : World} {base : Nat} {e : TypeId} {size : Nat} {g n cap : Nat} {xs : List Value} (h : w.ownsRow base e size (.slice (some ⟨g, 0, none⟩) n cap) n xs) : n ≤ cap := by
  rcases h.2 with ⟨h0, _⟩ | ⟨g', cap', cur, hv, hb, hg, hc, _⟩
  · cases h0
  · injection hv with h1 h3 h4
    subst h4
    exact hc
theorem boRead_yesC (s : ByteArray) (w : World) (hs : s.size ≤ 1048576) (h : isBd s.data.toList = true) : Calls Tryd.prog 17 #[.string s] w fun e w' => ∃ W H n g cap, GridOk s.data.toList W H n ∧ e = .returned (.tuple #[gridV W H n g cap, .bool true]) ∧ BytesAt w' g (splitP s.data.toList).flatten ∧ n ≤ cap ∧ Below w.heap.size w w' :=
  (boRead_any s w hs).mono fun e w' hp => by
    rcases hp with ⟨_, v, h1, h2, h3⟩ | ⟨hn, _⟩
    · obtain ⟨g, cap, rfl, _, _⟩ := own_form h2 (flat_pos h)
      exact ⟨_, _, _, g, cap, ⟨h, rfl, rfl, rfl⟩, h1, bytesAt_own h2, own_capP h2, h3⟩
    · rw [h] at hn; cases hn

/-- The labels of the first k signs. -/
def labL (L : List UInt8) (k : Nat) : List UInt8 := (L.take k).filter (fun c => !(c == 47))
theorem labL_le (L : List UInt8) (k : Nat) : (labL L k).length ≤ k := by
  have h1 := List.length_filter_le (fun c : UInt8 => !(c == 47)) (L.take k)
  have h2 := List.length_take_le k L
  exact Nat.le_trans h1 h2
theorem labL_skip {L : List UInt8} {k : Nat} (h : L[k]? = some 47) : labL L (k + 1) = labL L k := by
  unfold labL
  rw [List.take_add_one, h, List.filter_append]
  simp
theorem labL_add {L : List UInt8} {k : Nat} {c : UInt8} (h : L[k]? = some c) (hc : ¬ (c.toNat : Int) = 47) : labL L (k + 1) = labL L k ++ [c] := by
  unfold labL
  have : ¬ c = 47 := fun e => hc (by rw [e]; rfl)
  rw [List.take_add_one, h, List.filter_append]
  simp [this]
theorem labL_end (L : List UInt8) : labL L L.length = (splitP L).flatten := by
  rw [flat_filter]
  simp [labL]
theorem dig_not47 {c : UInt8} (h : isDig c = true) : ¬ (c.toNat : Int) = 47 := by
  unfold isDig at h
  rw [decide_eq_true_eq] at h
  omega

/-- What holds at each head of the reading's loop. -/
def PrI (w wr : World) (L : List UInt8) (k : Nat) (v : Value) : Prop :=
  IsG wr w.heap.size 0 0 (.slice none 0 0) ∧ BufAt wr (w.heap.size + 1) (mixL L k) ∧ wr.ownsRow (w.heap.size + 2) 5 1 v (labL L k).length (bytesV (labL L k)) ∧ Below w.heap.size w wr

theorem lab_len {l : List UInt8} (h : isLab l = true) : l.length ≤ 42 := by
  have := isBd_len h
  rwa [unlab_len] at this
end Go.Proofs.YtmlfkcmmjmdhmaaDoor
