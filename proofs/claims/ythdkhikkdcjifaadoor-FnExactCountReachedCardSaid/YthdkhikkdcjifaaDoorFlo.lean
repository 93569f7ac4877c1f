/- The closure of onFloor (as in MovesF, for seats without movesOf); what the search over a board's floor keeps to. -/
import Derived.Test.YthdkhikkdcjifaaDoorAsk
import Derived.Test.YthdkhikkdcjifaaDoorWays
import Derived.Test.YthdkhikkdcjifaaDoorSeL
namespace Go.Proofs.YthdkhikkdcjifaaDoor
set_option maxRecDepth 100000
set_option linter.all false
open Go.RowKit

/-- The closure of onFloor: block b holds the rows. -/
def CloF (w : World) (b h : Nat) (bs : ByteArray) : Prop := b < w.heap.size ∧ w.cell? ⟨b, 0, none⟩ = some (.slice (some ⟨h, 0, none⟩) (rowsB bs).length (rowsB bs).length) ∧ RowsAt w h (rowsB bs)
theorem cloF_to {w w0 w1 : World} {b h : Nat} {bs : ByteArray} (hb : Below w0.heap.size w0 w1) (hl : CloF w b h bs) (e : w0.heap = w.heap) : CloF w1 b h bs := by
  obtain ⟨h1, h2, h3⟩ := hl
  have hs := hb.size
  refine ⟨by rw [e] at hs; omega, ?_, (hb.block h (by rw [e]; exact h3.lt)).trans (by rw [e]; exact h3)⟩
  rw [hb.cell (p := ⟨b, 0, none⟩) (by rw [e]; exact h1)]
  have h5 : w0.heap[(⟨b, 0, none⟩ : Addr).block]? = w.heap[(⟨b, 0, none⟩ : Addr).block]? := by rw [e]
  rw [World.cell?_of_block h5]
  exact h2
theorem cloF_lt {w : World} {b h : Nat} {bs : ByteArray} (hl : CloF w b h bs) : b < w.heap.size ∧ h < w.heap.size := ⟨hl.1, hl.2.2.lt⟩
theorem cloF_block {B : Nat} {w w1 : World} {b h : Nat} {bs : ByteArray} (hlt : b < B ∧ h < B) (hb : Below B w w1) (hl : CloF w b h bs) : CloF w1 b h bs := by
  obtain ⟨h1, h2, h3⟩ := hl
  have hs := hb.size
  exact ⟨by omega, (hb.cell (p := ⟨b, 0, none⟩) hlt.1).trans h2, (hb.block h hlt.2).trans h3⟩
/-- Is a state on the floor? -/
def flAt (l : List UInt8) (s : St) : Bool := floorL l s.x s.y
theorem byte_eqF {c : UInt8} {n : Int} (h : (c.toNat : Int) = n) : (((c.toNat : Nat) : Int) == n) = true ∧ (((c.toNat : Nat) : Int) != n) = false := by
  subst h
  simp
theorem byte_neF {c : UInt8} {n : Int} (h : ¬ (c.toNat : Int) = n) : (((c.toNat : Nat) : Int) == n) = false ∧ (((c.toNat : Nat) : Int) != n) = true := by
  simp [h]
set_option maxHeartbeats 800000 in
theorem floorOn1_any (bs : ByteArray) (h b : Nat) (hbz : bs.size ≤ 1048576) (hbd : isBd bs.data.toList = true) (s : St) (w : World) (hc : CloF w b h bs) :
    Calls Tryd.prog 102 #[St.v s, .pointer (some ⟨b, 0, none⟩)] w fun e w' => e = .returned (.bool (flAt bs.data.toList s)) ∧ Below w.heap.size w w' := by
  have q0 : Below w.heap.size w (w.alloc (.cells #[.int .i64 s.x, .int .i64 s.y, .int .i64 s.d.t, .int .i64 s.d.n, .int .i64 s.d.e, .int .i64 s.d.s, .int .i64 s.d.w, .int .i64 s.d.b] 30)) := by go_grown
  have hc1 := cloF_to q0 hc rfl
  have HR := hide hc1.2.2
  have c9 := hc1.2.1
  have HM := hide (fun wx (hx : RowsAt wx h (rowsB bs)) => cellAtL_any bs h s.x s.y wx hbz hbd hx)
  have S0 := IsS.new (w := w) (s := s) (ty := 30)
  obtain ⟨l0, ⟨a0, a1, a2, a3, a4, a5, a6, a7⟩, -⟩ := S0.all
  obtain ⟨c, hcc⟩ : ∃ c, c = cellI (splitP bs.data.toList) s.x s.y := ⟨_, rfl⟩
  have HF := hide (show flAt bs.data.toList s = decide ((c.toNat : Int) = 46) from by unfold flAt floorL; rw [← hcc])
  rw [← hcc] at HM
  rw [HF.out]
  clear hc hc1 hcc HF
  by_cases h46 : (c.toNat : Int) = 46
  · obtain ⟨r1, r2⟩ := byte_eqF h46
    have HD := hide (decide_eq_true h46)
    clear h46
    go_enter Tryd.func102, Tryd.ntmps102
    go_wp2_with (go_at_call 103; (refine (HM.out _ HR.out).mono ?_); rintro e w1 ⟨rfl, rfl⟩)
    go_returns
    exact ⟨by rw [HD.out]; rfl, q0⟩
  · obtain ⟨r1, r2⟩ := byte_neF h46
    have HD := hide (decide_eq_false h46)
    clear h46
    go_enter Tryd.func102, Tryd.ntmps102
    go_wp2_with (go_at_call 103; (refine (HM.out _ HR.out).mono ?_); rintro e w1 ⟨rfl, rfl⟩)
    go_returns
    exact ⟨by rw [HD.out]; rfl, q0⟩
theorem onFloor_any (bs : ByteArray) (h : Nat) (w : World) (hl : RowsAt w h (rowsB bs)) :
    Calls Tryd.prog 76 #[.slice (some ⟨h, 0, none⟩) (rowsB bs).length (rowsB bs).length] w fun e w' => ∃ b, e = .returned (.func (.func 102) #[] #[.pointer (some ⟨b, 0, none⟩)]) ∧ CloF w' b h bs ∧ Below w.heap.size w w' := by
  have hmf : ∀ (fn : Fn) (first cap : Array Value) (w : World), (Instr.makeFunc fn first cap).run Tryd.prog w = .ok (.func fn first cap) w := fun _ _ _ _ => rfl
  have HC := hide (show CloF (w.alloc (.cells #[.slice (some ⟨h, 0, none⟩) (rowsB bs).length (rowsB bs).length] 104)) w.heap.size h bs from ⟨by simp, by rw [World.cell?_alloc_mark]; rfl, rowsAt_to (w0 := w) ((Below.refl _ _).alloc (Nat.le_refl _) _) hl rfl⟩)
  clear hl
  generalize (rowsB bs).length = n at HC ⊢
  go_enter Tryd.func76, Tryd.ntmps76
  go_wp2
  go_returns
  exact ⟨_, rfl, HC.out, by go_grown⟩

/-- A search that stays small. -/
structure FitOk (fit : St → Bool) (s0 : St) : Prop where
  home : fit s0 = true
  len : ∀ n j, j ≤ 4 → (stepsW fit n (runW fit s0 n) j).length ≤ 900
  oks : ∀ n j, j ≤ 4 → ∀ q ∈ stepsW fit n (runW fit s0 n) j, okS q.s ∧ ∀ J, okS (rlS q.s J)
  cnt : ∀ q ∈ wyL fit s0, q.ws.length < 2 ^ 64
theorem steps_ok (fit : St → Bool) (s0 : St) (n : Nat) : ∀ j, j ≤ 4 → ∃ k' j', OkW fit s0 k' j' (stepsW fit n (runW fit s0 n) j) := by
  intro j hj
  cases hp : (runW fit s0 n)[n]? with
  | none =>
    rw [stepsW_none hp]
    exact ⟨n, 0, runW_ok fit s0 n⟩
  | some p => exact ⟨n, j, ((runW_ok fit s0 n).steps hp j hj).1⟩
theorem fl_grid {l : List UInt8} (hb : isBd l = true) {s : St} (h : flAt l s = true) : (s.x, s.y) ∈ gridC (width l) (splitP l).length := by
  unfold flAt floorL at h
  refine mem_grid ?_
  cases hi : inL l s.x s.y
  · rw [cellI_out hb hi] at h
    exact absurd h (by simp)
  · unfold inL at hi
    simp only [Bool.and_eq_true, decide_eq_true_eq] at hi
    show 0 ≤ s.x ∧ s.x < _ ∧ 0 ≤ s.y ∧ s.y < _
    omega
theorem grid_mem {W H : Nat} {c : Cl} (h : c ∈ gridC W H) : 0 ≤ c.1 ∧ c.1 < W ∧ 0 ≤ c.2 ∧ c.2 < H := by
  unfold gridC at h
  obtain ⟨i, hi, h⟩ := List.mem_flatMap.1 h
  obtain ⟨j, hj, rfl⟩ := List.mem_map.1 h
  have := List.mem_range.1 hi
  have := List.mem_range.1 hj
  show (0 : Int) ≤ (i : Int) ∧ (i : Int) < W ∧ (0 : Int) ≤ (j : Int) ∧ (j : Int) < H
  omega
theorem fitOk_board {l : List UInt8} (hb : isBd l = true) {s0 : St} (hs : flAt l s0 = true) (hd : goodB s0.d = true) : FitOk (flAt l) s0 := by
  have hbd := hb
  unfold isBd at hbd
  simp only [Bool.and_eq_true, decide_eq_true_eq] at hbd
  obtain ⟨⟨b1, b2, b3, b4⟩, -⟩ := hbd
  have h0 : s0 ∈ boxS (width l) (splitP l).length s0.d := mem_boxS.2 ⟨fl_grid hb hs, orbit_self _⟩
  have hS := box_shut (d := s0.d) (fun s (h : flAt l s = true) => fl_grid hb h)
  refine ⟨hs, ?_, ?_, ?_⟩
  · intro n j hj
    obtain ⟨k', j', hk⟩ := steps_ok (flAt l) s0 n j hj
    have := hk.len h0 hS
    rw [boxS_len] at this
    have : width l * (splitP l).length * 24 ≤ 36 * 24 := Nat.mul_le_mul_right _ b4
    omega
  · intro n j hj q hq
    obtain ⟨k', j', hk⟩ := steps_ok (flAt l) s0 n j hj
    obtain ⟨hc, ho⟩ := mem_boxS.1 (hk.inn h0 hS q hq)
    have hg := grid_mem hc
    have hx : (0 : Int) ≤ q.s.x ∧ q.s.x < 7 ∧ (0 : Int) ≤ q.s.y ∧ q.s.y < 7 := by
      have h1 : 0 ≤ q.s.x ∧ q.s.x < (width l : Int) ∧ 0 ≤ q.s.y ∧ q.s.y < ((splitP l).length : Int) := hg
      omega
    refine ⟨⟨by omega, by omega, orbit_good hd ho⟩, fun J => ?_⟩
    have hcell := rlS_cell q.s J
    have hx' : (rlS q.s J).x = (mvC J (q.s.x, q.s.y)).1 := by rw [← hcell]
    have hy' : (rlS q.s J).y = (mvC J (q.s.x, q.s.y)).2 := by rw [← hcell]
    refine ⟨?_, ?_, ?_⟩
    · rw [hx']
      rcases four J with rfl | rfl | rfl | rfl <;> simp [mvC] <;> omega
    · rw [hy']
      rcases four J with rfl | rfl | rfl | rfl <;> simp [mvC] <;> omega
    · rw [rlS_die]
      exact orbit_good hd (rollK_orbit ho J)
  · refine wyL_count (W := width l) (H := (splitP l).length) (fl := fun c => floorL l c.1 c.2) b2 b3 b4 (fun s => rfl) hs (fun s h => ?_)
    have := grid_mem (fl_grid hb h)
    exact this
end Go.Proofs.YthdkhikkdcjifaaDoor
