/- The walk of TurnBox's law. -/
import Derived.Test.YtoojoghgbmpbpaaDoorBxAsk
import Derived.Test.YtoojoghgbmpbpaaDoorOpenBox
namespace Go.Proofs.YtoojoghgbmpbpaaDoor
set_option maxRecDepth 100000
set_option linter.all false
open Go.RowKit

def swp (p : Int) : Int := if p = 1 then 2 else if p = 2 then 1 else p
/-- The box on the ground turned by a quarter. -/
def turnX (l : List UInt8) (b : Bx) : Bx := ⟨((splitP l).length : Int) - 1 - lastY b, b.x, swp b.p⟩
def tbOk (l : List UInt8) (b : Bx) : Bool := isGd l && goodX (splitP l) b
def tbV (l : List UInt8) (b : Bx) : Bx := if tbOk l b = true then turnX l b else zeroX
theorem lwY_good {l : List UInt8} (h : isGd l = true) {b : Bx} (hb : goodX (splitP l) b = true) : lwY b = lastY b := by
  have hf := good_facts h hb
  unfold lwY lastY clin
  split
  · rw [IntWalk.i64_in (b.y + 2) (by omega), IntWalk.i64_in _ (by omega)]; omega
  · rw [IntWalk.i64_in (b.y + 1) (by omega), IntWalk.i64_in _ (by omega)]; omega
theorem rows_lenG (s : ByteArray) : (rowsB s).length = (splitP s.data.toList).length := by rw [← rowsB_data, List.length_map]
set_option maxHeartbeats 1600000 in
theorem implTurn0 (s : ByteArray) (x y : Int) (w : World) (hs : s.size ≤ 1048576) (hg : Glob w) (h : isGd s.data.toList = true) (hb : goodX (splitP s.data.toList) ⟨x, y, 0⟩ = true) : Calls Tryd.prog 32 #[.string s, Bx.v ⟨x, y, 0⟩] w fun e w' => e = .returned (.tuple #[Bx.v ⟨((splitP s.data.toList).length : Int) - 1 - (y), x, 0⟩, .bool true]) ∧ Below w.heap.size w w' := by
  have hf := good_facts h hb
  have hlw := lwY_good h hb
  rw [show lastY ⟨x, y, 0⟩ = y from rfl] at hlw hf
  simp only at hf
  have hrl := rows_lenG s
  have hbd := bd_facts (gd_bd h)
  rw [rows_ungl] at hbd
  rw [← hrl] at hbd hf ⊢
  obtain ⟨N, hN⟩ : ∃ N, N = (rowsB s).length := ⟨_, rfl⟩
  rw [← hN] at hbd hf ⊢
  have HN := hide hN
  have w1q : IntKind.i64.wrap ((N : Int) - 1) = (N : Int) - 1 := IntWalk.i64_in _ (by omega)
  have w2q : IntKind.i64.wrap ((N : Int) - 1 - (y)) = (N : Int) - 1 - (y) := IntWalk.i64_in _ (by omega)
  have q0 : Below w.heap.size w ((w.alloc (.cells #[.int .i64 x, .int .i64 y, .int .i64 0] 27)).alloc (.cells #[.int .i64 0, .int .i64 0, .int .i64 0] 27)) := by go_grown
  have HG := hide (show Glob ((w.alloc (.cells #[.int .i64 x, .int .i64 y, .int .i64 0] 27)).alloc (.cells #[.int .i64 0, .int .i64 0, .int .i64 0] 27)) from glob_to (w0 := w) q0 hg rfl)
  have X0 : IsX ((w.alloc (.cells #[.int .i64 x, .int .i64 y, .int .i64 0] 27)).alloc (.cells #[.int .i64 0, .int .i64 0, .int .i64 0] 27)) w.heap.size ⟨x, y, 0⟩ 27 := (IsX.new (q := ⟨x, y, 0⟩)).alloc _
  have R0 : IsX ((w.alloc (.cells #[.int .i64 x, .int .i64 y, .int .i64 0] 27)).alloc (.cells #[.int .i64 0, .int .i64 0, .int .i64 0] 27)) (w.heap.size + 1) ⟨0, 0, 0⟩ 27 := IsX.new2 (q := ⟨0, 0, 0⟩)
  have H := hide h
  have HBX := hide hb
  have HLW := hide hlw
  clear h hb hg hf hbd hlw hrl hN
  go_enter Tryd.func32, Tryd.ntmps32
  go_wp2_with fail
  generalize (w.alloc (.cells #[.int .i64 x, .int .i64 y, .int .i64 0] 27)).alloc (.cells #[.int .i64 0, .int .i64 0, .int .i64 0] 27) = W0 at q0 HG X0 R0 ⊢
  refine (groundUnder_on s ⟨x, y, 0⟩ _ hs HG.out H.out HBX.out).mono ?_
  rintro e w1 ⟨rfl, _, hb1⟩
  have X1 := isX_to hb1 X0 rfl
  have R1 := isX_to hb1 R0 rfl
  have q1 := below_to hb1 q0 q0.size rfl rfl rfl rfl
  clear hb1 X0 R0 q0 HG
  rw [← HN.out]
  go_wp2_with fail
  obtain ⟨l0, ⟨c0, c1, c2⟩, -⟩ := X1.all
  have X1a := X1.alloc (.cells #[.int .i64 0, .int .i64 0, .int .i64 0] 27)
  have R1a := R1.alloc (.cells #[.int .i64 0, .int .i64 0, .int .i64 0] 27)
  have T1a : IsX (w1.alloc (.cells #[.int .i64 0, .int .i64 0, .int .i64 0] 27)) w1.heap.size ⟨0, 0, 0⟩ 27 := IsX.new (q := ⟨0, 0, 0⟩)
  have q1a := q1.alloc q1.size (.cells #[.int .i64 0, .int .i64 0, .int .i64 0] 27)
  have hw1 := q1.size
  have F0 := fun wq : World => field_x (lwX ⟨x, y, 0⟩) (y) wq
  have F1 := fun wq : World => field_y (lwX ⟨x, y, 0⟩) (y) wq
  go_region_held3 (fun w' => w'.cell? ⟨w.heap.size, 0, none⟩ = some (.int .i64 x) ∧ w'.cell? ⟨w.heap.size, 1, none⟩ = some (.int .i64 y) ∧ w'.cell? ⟨w.heap.size, 2, none⟩ = some (.int .i64 0)) (first | (refine ⟨?_, ?_, ?_⟩ <;> assumption) | (refine ⟨?_, ?_, ?_⟩ <;> (rw [cell_set3X (by omega)]; assumption)) | go_keep)
    (first
      | (go_at_call 52; (with_reducible refine (lastCell_any ⟨x, y, 0⟩ (w1.alloc (.cells #[.int .i64 0, .int .i64 0, .int .i64 0] 27)).drew).mono ?_); rintro e w2 ⟨rfl, hb2⟩; rw [HLW.out]; have X2 := isX_to hb2 X1a rfl; have R2 := isX_to hb2 R1a rfl; have T2 := isX_to hb2 T1a rfl; have Q2 := below_to hb2 q1a q1a.size rfl rfl rfl rfl; obtain ⟨m0, ⟨e0, e1, e2⟩, -⟩ := X2.all; obtain ⟨m1, ⟨t0, t1, t2⟩, g0, g1, g2⟩ := T2.all; clear hb2)
      | (go_at_call 52; (with_reducible refine (lastCell_any ⟨x, y, 0⟩ w1.drew).mono ?_); rintro e w2 ⟨rfl, hb2⟩; rw [HLW.out]; have X2 := isX_to hb2 X1 rfl; have R2 := isX_to hb2 R1 rfl; have Q2 := below_to hb2 q1 q1.size rfl rfl rfl rfl; obtain ⟨m0, ⟨e0, e1, e2⟩, -⟩ := X2.all; clear hb2))
  · have q3 := Q2.alloc Q2.size (.cells #[.int .i64 ((N : Int) - 1 - (y)), .int .i64 x, .int .i64 0] 27)
    have X3 := X2.alloc (.cells #[.int .i64 ((N : Int) - 1 - (y)), .int .i64 x, .int .i64 0] 27)
    have R3 := R2.alloc (.cells #[.int .i64 ((N : Int) - 1 - (y)), .int .i64 x, .int .i64 0] 27)
    have T3 : IsX (w2.alloc (.cells #[.int .i64 ((N : Int) - 1 - (y)), .int .i64 x, .int .i64 0] 27)) w2.heap.size ⟨(N : Int) - 1 - (y), x, 0⟩ 27 := IsX.new (q := ⟨(N : Int) - 1 - (y), x, 0⟩)
    have ht : w.heap.size + 1 < w2.heap.size := R2.lt
    clear X2 R2 Q2
    generalize w2.alloc (.cells #[.int .i64 ((N : Int) - 1 - (y)), .int .i64 x, .int .i64 0] 27) = W5 at X3 R3 T3 q3 ⊢
    generalize w2.heap.size = t at T3 ht ⊢
    obtain ⟨-, ⟨c0, c1, c2⟩, -⟩ := X3.all
    obtain ⟨-, ⟨t0, t1, t2⟩, g0, g1, g2⟩ := T3.all
    obtain ⟨hr, ⟨r0, r1, r2⟩, k0, k1, k2⟩ := R3.all
    clear X3 T3
    go_wp2
    refine bodyPost_ret (ret_box2 Tryd.results32 rfl rfl (R3.set3 ⟨(N : Int) - 1 - (y), x, 0⟩)) rfl ⟨rfl, ?_⟩
    exact below_setX q3 (by omega) ⟨(N : Int) - 1 - (y), x, 0⟩
  · have ht : w.heap.size + 1 < w1.heap.size := R1.lt
    have q3 := below_setX Q2 (show w.heap.size ≤ w1.heap.size by omega) ⟨(N : Int) - 1 - (y), x, 0⟩
    have X3 := ((X2.other (p := ⟨w1.heap.size, 0, none⟩) (by show w.heap.size ≠ w1.heap.size; omega) (.int .i64 ((N : Int) - 1 - (y)))).other (p := ⟨w1.heap.size, 1, none⟩) (by show w.heap.size ≠ w1.heap.size; omega) (.int .i64 x)).other (p := ⟨w1.heap.size, 2, none⟩) (by show w.heap.size ≠ w1.heap.size; omega) (.int .i64 0)
    have R3 := ((R2.other (p := ⟨w1.heap.size, 0, none⟩) (by show w.heap.size + 1 ≠ w1.heap.size; omega) (.int .i64 ((N : Int) - 1 - (y)))).other (p := ⟨w1.heap.size, 1, none⟩) (by show w.heap.size + 1 ≠ w1.heap.size; omega) (.int .i64 x)).other (p := ⟨w1.heap.size, 2, none⟩) (by show w.heap.size + 1 ≠ w1.heap.size; omega) (.int .i64 0)
    have T3 := T2.set3 ⟨(N : Int) - 1 - (y), x, 0⟩
    clear X2 R2 T2 Q2
    simp only at q3 X3 R3 T3
    generalize ((w2.setCell ⟨w1.heap.size, 0, none⟩ (.int .i64 ((N : Int) - 1 - (y)))).setCell ⟨w1.heap.size, 1, none⟩ (.int .i64 x)).setCell ⟨w1.heap.size, 2, none⟩ (.int .i64 0) = W5 at X3 R3 T3 q3 ⊢
    clear X1a R1a T1a q1a hw1 X1 R1 q1
    generalize w1.heap.size = t at T3 ht ⊢
    obtain ⟨-, ⟨c0, c1, c2⟩, -⟩ := X3.all
    obtain ⟨-, ⟨t0, t1, t2⟩, g0, g1, g2⟩ := T3.all
    obtain ⟨hr, ⟨r0, r1, r2⟩, k0, k1, k2⟩ := R3.all
    clear X3 T3
    go_wp2
    refine bodyPost_ret (ret_box2 Tryd.results32 rfl rfl (R3.set3 ⟨(N : Int) - 1 - (y), x, 0⟩)) rfl ⟨rfl, ?_⟩
    exact below_setX q3 (by omega) ⟨(N : Int) - 1 - (y), x, 0⟩
set_option maxHeartbeats 1600000 in
theorem implTurn1 (s : ByteArray) (x y : Int) (w : World) (hs : s.size ≤ 1048576) (hg : Glob w) (h : isGd s.data.toList = true) (hb : goodX (splitP s.data.toList) ⟨x, y, 1⟩ = true) : Calls Tryd.prog 32 #[.string s, Bx.v ⟨x, y, 1⟩] w fun e w' => e = .returned (.tuple #[Bx.v ⟨((splitP s.data.toList).length : Int) - 1 - (y), x, 2⟩, .bool true]) ∧ Below w.heap.size w w' := by
  have hf := good_facts h hb
  have hlw := lwY_good h hb
  rw [show lastY ⟨x, y, 1⟩ = y from rfl] at hlw hf
  simp only at hf
  have hrl := rows_lenG s
  have hbd := bd_facts (gd_bd h)
  rw [rows_ungl] at hbd
  rw [← hrl] at hbd hf ⊢
  obtain ⟨N, hN⟩ : ∃ N, N = (rowsB s).length := ⟨_, rfl⟩
  rw [← hN] at hbd hf ⊢
  have HN := hide hN
  have w1q : IntKind.i64.wrap ((N : Int) - 1) = (N : Int) - 1 := IntWalk.i64_in _ (by omega)
  have w2q : IntKind.i64.wrap ((N : Int) - 1 - (y)) = (N : Int) - 1 - (y) := IntWalk.i64_in _ (by omega)
  have q0 : Below w.heap.size w ((w.alloc (.cells #[.int .i64 x, .int .i64 y, .int .i64 1] 27)).alloc (.cells #[.int .i64 0, .int .i64 0, .int .i64 0] 27)) := by go_grown
  have HG := hide (show Glob ((w.alloc (.cells #[.int .i64 x, .int .i64 y, .int .i64 1] 27)).alloc (.cells #[.int .i64 0, .int .i64 0, .int .i64 0] 27)) from glob_to (w0 := w) q0 hg rfl)
  have X0 : IsX ((w.alloc (.cells #[.int .i64 x, .int .i64 y, .int .i64 1] 27)).alloc (.cells #[.int .i64 0, .int .i64 0, .int .i64 0] 27)) w.heap.size ⟨x, y, 1⟩ 27 := (IsX.new (q := ⟨x, y, 1⟩)).alloc _
  have R0 : IsX ((w.alloc (.cells #[.int .i64 x, .int .i64 y, .int .i64 1] 27)).alloc (.cells #[.int .i64 0, .int .i64 0, .int .i64 0] 27)) (w.heap.size + 1) ⟨0, 0, 0⟩ 27 := IsX.new2 (q := ⟨0, 0, 0⟩)
  have H := hide h
  have HBX := hide hb
  have HLW := hide hlw
  clear h hb hg hf hbd hlw hrl hN
  go_enter Tryd.func32, Tryd.ntmps32
  go_wp2_with fail
  generalize (w.alloc (.cells #[.int .i64 x, .int .i64 y, .int .i64 1] 27)).alloc (.cells #[.int .i64 0, .int .i64 0, .int .i64 0] 27) = W0 at q0 HG X0 R0 ⊢
  refine (groundUnder_on s ⟨x, y, 1⟩ _ hs HG.out H.out HBX.out).mono ?_
  rintro e w1 ⟨rfl, _, hb1⟩
  have X1 := isX_to hb1 X0 rfl
  have R1 := isX_to hb1 R0 rfl
  have q1 := below_to hb1 q0 q0.size rfl rfl rfl rfl
  clear hb1 X0 R0 q0 HG
  rw [← HN.out]
  go_wp2_with fail
  obtain ⟨l0, ⟨c0, c1, c2⟩, -⟩ := X1.all
  have X1a := X1.alloc (.cells #[.int .i64 0, .int .i64 0, .int .i64 0] 27)
  have R1a := R1.alloc (.cells #[.int .i64 0, .int .i64 0, .int .i64 0] 27)
  have T1a : IsX (w1.alloc (.cells #[.int .i64 0, .int .i64 0, .int .i64 0] 27)) w1.heap.size ⟨0, 0, 0⟩ 27 := IsX.new (q := ⟨0, 0, 0⟩)
  have q1a := q1.alloc q1.size (.cells #[.int .i64 0, .int .i64 0, .int .i64 0] 27)
  have hw1 := q1.size
  have F0 := fun wq : World => field_x (lwX ⟨x, y, 1⟩) (y) wq
  have F1 := fun wq : World => field_y (lwX ⟨x, y, 1⟩) (y) wq
  go_region_held3 (fun w' => w'.cell? ⟨w.heap.size, 0, none⟩ = some (.int .i64 x) ∧ w'.cell? ⟨w.heap.size, 1, none⟩ = some (.int .i64 y) ∧ w'.cell? ⟨w.heap.size, 2, none⟩ = some (.int .i64 1)) (first | (refine ⟨?_, ?_, ?_⟩ <;> assumption) | (refine ⟨?_, ?_, ?_⟩ <;> (rw [cell_set3X (by omega)]; assumption)) | go_keep)
    (first
      | (go_at_call 52; (with_reducible refine (lastCell_any ⟨x, y, 1⟩ (w1.alloc (.cells #[.int .i64 0, .int .i64 0, .int .i64 0] 27)).drew).mono ?_); rintro e w2 ⟨rfl, hb2⟩; rw [HLW.out]; have X2 := isX_to hb2 X1a rfl; have R2 := isX_to hb2 R1a rfl; have T2 := isX_to hb2 T1a rfl; have Q2 := below_to hb2 q1a q1a.size rfl rfl rfl rfl; obtain ⟨m0, ⟨e0, e1, e2⟩, -⟩ := X2.all; obtain ⟨m1, ⟨t0, t1, t2⟩, g0, g1, g2⟩ := T2.all; clear hb2)
      | (go_at_call 52; (with_reducible refine (lastCell_any ⟨x, y, 1⟩ w1.drew).mono ?_); rintro e w2 ⟨rfl, hb2⟩; rw [HLW.out]; have X2 := isX_to hb2 X1 rfl; have R2 := isX_to hb2 R1 rfl; have Q2 := below_to hb2 q1 q1.size rfl rfl rfl rfl; obtain ⟨m0, ⟨e0, e1, e2⟩, -⟩ := X2.all; clear hb2))
  · have q3 := Q2.alloc Q2.size (.cells #[.int .i64 ((N : Int) - 1 - (y)), .int .i64 x, .int .i64 1] 27)
    have X3 := X2.alloc (.cells #[.int .i64 ((N : Int) - 1 - (y)), .int .i64 x, .int .i64 1] 27)
    have R3 := R2.alloc (.cells #[.int .i64 ((N : Int) - 1 - (y)), .int .i64 x, .int .i64 1] 27)
    have T3 : IsX (w2.alloc (.cells #[.int .i64 ((N : Int) - 1 - (y)), .int .i64 x, .int .i64 1] 27)) w2.heap.size ⟨(N : Int) - 1 - (y), x, 1⟩ 27 := IsX.new (q := ⟨(N : Int) - 1 - (y), x, 1⟩)
    have ht : w.heap.size + 1 < w2.heap.size := R2.lt
    clear X2 R2 Q2
    generalize w2.alloc (.cells #[.int .i64 ((N : Int) - 1 - (y)), .int .i64 x, .int .i64 1] 27) = W5 at X3 R3 T3 q3 ⊢
    generalize w2.heap.size = t at T3 ht ⊢
    obtain ⟨-, ⟨c0, c1, c2⟩, -⟩ := X3.all
    obtain ⟨-, ⟨t0, t1, t2⟩, g0, g1, g2⟩ := T3.all
    obtain ⟨hr, ⟨r0, r1, r2⟩, k0, k1, k2⟩ := R3.all
    clear X3 T3
    go_wp2
    refine bodyPost_ret (ret_box2 Tryd.results32 rfl rfl ((R3.other (p := ⟨t, 2, none⟩) (by show w.heap.size + 1 ≠ t; omega) (.int .i64 2)).set3 ⟨(N : Int) - 1 - (y), x, 2⟩)) rfl ⟨rfl, ?_⟩
    exact below_setX (q3.setCell (by show w.heap.size ≤ t; omega) _) (by omega) ⟨(N : Int) - 1 - (y), x, 2⟩
  · have ht : w.heap.size + 1 < w1.heap.size := R1.lt
    have q3 := below_setX Q2 (show w.heap.size ≤ w1.heap.size by omega) ⟨(N : Int) - 1 - (y), x, 1⟩
    have X3 := ((X2.other (p := ⟨w1.heap.size, 0, none⟩) (by show w.heap.size ≠ w1.heap.size; omega) (.int .i64 ((N : Int) - 1 - (y)))).other (p := ⟨w1.heap.size, 1, none⟩) (by show w.heap.size ≠ w1.heap.size; omega) (.int .i64 x)).other (p := ⟨w1.heap.size, 2, none⟩) (by show w.heap.size ≠ w1.heap.size; omega) (.int .i64 1)
    have R3 := ((R2.other (p := ⟨w1.heap.size, 0, none⟩) (by show w.heap.size + 1 ≠ w1.heap.size; omega) (.int .i64 ((N : Int) - 1 - (y)))).other (p := ⟨w1.heap.size, 1, none⟩) (by show w.heap.size + 1 ≠ w1.heap.size; omega) (.int .i64 x)).other (p := ⟨w1.heap.size, 2, none⟩) (by show w.heap.size + 1 ≠ w1.heap.size; omega) (.int .i64 1)
    have T3 := T2.set3 ⟨(N : Int) - 1 - (y), x, 1⟩
    clear X2 R2 T2 Q2
    simp only at q3 X3 R3 T3
    generalize ((w2.setCell ⟨w1.heap.size, 0, none⟩ (.int .i64 ((N : Int) - 1 - (y)))).setCell ⟨w1.heap.size, 1, none⟩ (.int .i64 x)).setCell ⟨w1.heap.size, 2, none⟩ (.int .i64 1) = W5 at X3 R3 T3 q3 ⊢
    clear X1a R1a T1a q1a hw1 X1 R1 q1
    generalize w1.heap.size = t at T3 ht ⊢
    obtain ⟨-, ⟨c0, c1, c2⟩, -⟩ := X3.all
    obtain ⟨-, ⟨t0, t1, t2⟩, g0, g1, g2⟩ := T3.all
    obtain ⟨hr, ⟨r0, r1, r2⟩, k0, k1, k2⟩ := R3.all
    clear X3 T3
    go_wp2
    refine bodyPost_ret (ret_box2 Tryd.results32 rfl rfl ((R3.other (p := ⟨t, 2, none⟩) (by show w.heap.size + 1 ≠ t; omega) (.int .i64 2)).set3 ⟨(N : Int) - 1 - (y), x, 2⟩)) rfl ⟨rfl, ?_⟩
    exact below_setX (q3.setCell (by show w.heap.size ≤ t; omega) _) (by omega) ⟨(N : Int) - 1 - (y), x, 2⟩
set_option maxHeartbeats 1600000 in
theorem implTurn2 (s : ByteArray) (x y : Int) (w : World) (hs : s.size ≤ 1048576) (hg : Glob w) (h : isGd s.data.toList = true) (hb : goodX (splitP s.data.toList) ⟨x, y, 2⟩ = true) : Calls Tryd.prog 32 #[.string s, Bx.v ⟨x, y, 2⟩] w fun e w' => e = .returned (.tuple #[Bx.v ⟨((splitP s.data.toList).length : Int) - 1 - (y + 1), x, 1⟩, .bool true]) ∧ Below w.heap.size w w' := by
  have hf := good_facts h hb
  have hlw := lwY_good h hb
  rw [show lastY ⟨x, y, 2⟩ = y + 1 from rfl] at hlw hf
  simp only at hf
  have hrl := rows_lenG s
  have hbd := bd_facts (gd_bd h)
  rw [rows_ungl] at hbd
  rw [← hrl] at hbd hf ⊢
  obtain ⟨N, hN⟩ : ∃ N, N = (rowsB s).length := ⟨_, rfl⟩
  rw [← hN] at hbd hf ⊢
  have HN := hide hN
  have w1q : IntKind.i64.wrap ((N : Int) - 1) = (N : Int) - 1 := IntWalk.i64_in _ (by omega)
  have w2q : IntKind.i64.wrap ((N : Int) - 1 - (y + 1)) = (N : Int) - 1 - (y + 1) := IntWalk.i64_in _ (by omega)
  have q0 : Below w.heap.size w ((w.alloc (.cells #[.int .i64 x, .int .i64 y, .int .i64 2] 27)).alloc (.cells #[.int .i64 0, .int .i64 0, .int .i64 0] 27)) := by go_grown
  have HG := hide (show Glob ((w.alloc (.cells #[.int .i64 x, .int .i64 y, .int .i64 2] 27)).alloc (.cells #[.int .i64 0, .int .i64 0, .int .i64 0] 27)) from glob_to (w0 := w) q0 hg rfl)
  have X0 : IsX ((w.alloc (.cells #[.int .i64 x, .int .i64 y, .int .i64 2] 27)).alloc (.cells #[.int .i64 0, .int .i64 0, .int .i64 0] 27)) w.heap.size ⟨x, y, 2⟩ 27 := (IsX.new (q := ⟨x, y, 2⟩)).alloc _
  have R0 : IsX ((w.alloc (.cells #[.int .i64 x, .int .i64 y, .int .i64 2] 27)).alloc (.cells #[.int .i64 0, .int .i64 0, .int .i64 0] 27)) (w.heap.size + 1) ⟨0, 0, 0⟩ 27 := IsX.new2 (q := ⟨0, 0, 0⟩)
  have H := hide h
  have HBX := hide hb
  have HLW := hide hlw
  clear h hb hg hf hbd hlw hrl hN
  go_enter Tryd.func32, Tryd.ntmps32
  go_wp2_with fail
  generalize (w.alloc (.cells #[.int .i64 x, .int .i64 y, .int .i64 2] 27)).alloc (.cells #[.int .i64 0, .int .i64 0, .int .i64 0] 27) = W0 at q0 HG X0 R0 ⊢
  refine (groundUnder_on s ⟨x, y, 2⟩ _ hs HG.out H.out HBX.out).mono ?_
  rintro e w1 ⟨rfl, _, hb1⟩
  have X1 := isX_to hb1 X0 rfl
  have R1 := isX_to hb1 R0 rfl
  have q1 := below_to hb1 q0 q0.size rfl rfl rfl rfl
  clear hb1 X0 R0 q0 HG
  rw [← HN.out]
  go_wp2_with fail
  obtain ⟨l0, ⟨c0, c1, c2⟩, -⟩ := X1.all
  have X1a := X1.alloc (.cells #[.int .i64 0, .int .i64 0, .int .i64 0] 27)
  have R1a := R1.alloc (.cells #[.int .i64 0, .int .i64 0, .int .i64 0] 27)
  have T1a : IsX (w1.alloc (.cells #[.int .i64 0, .int .i64 0, .int .i64 0] 27)) w1.heap.size ⟨0, 0, 0⟩ 27 := IsX.new (q := ⟨0, 0, 0⟩)
  have q1a := q1.alloc q1.size (.cells #[.int .i64 0, .int .i64 0, .int .i64 0] 27)
  have hw1 := q1.size
  have F0 := fun wq : World => field_x (lwX ⟨x, y, 2⟩) (y + 1) wq
  have F1 := fun wq : World => field_y (lwX ⟨x, y, 2⟩) (y + 1) wq
  go_region_held3 (fun w' => w'.cell? ⟨w.heap.size, 0, none⟩ = some (.int .i64 x) ∧ w'.cell? ⟨w.heap.size, 1, none⟩ = some (.int .i64 y) ∧ w'.cell? ⟨w.heap.size, 2, none⟩ = some (.int .i64 2)) (first | (refine ⟨?_, ?_, ?_⟩ <;> assumption) | (refine ⟨?_, ?_, ?_⟩ <;> (rw [cell_set3X (by omega)]; assumption)) | go_keep)
    (first
      | (go_at_call 52; (with_reducible refine (lastCell_any ⟨x, y, 2⟩ (w1.alloc (.cells #[.int .i64 0, .int .i64 0, .int .i64 0] 27)).drew).mono ?_); rintro e w2 ⟨rfl, hb2⟩; rw [HLW.out]; have X2 := isX_to hb2 X1a rfl; have R2 := isX_to hb2 R1a rfl; have T2 := isX_to hb2 T1a rfl; have Q2 := below_to hb2 q1a q1a.size rfl rfl rfl rfl; obtain ⟨m0, ⟨e0, e1, e2⟩, -⟩ := X2.all; obtain ⟨m1, ⟨t0, t1, t2⟩, g0, g1, g2⟩ := T2.all; clear hb2)
      | (go_at_call 52; (with_reducible refine (lastCell_any ⟨x, y, 2⟩ w1.drew).mono ?_); rintro e w2 ⟨rfl, hb2⟩; rw [HLW.out]; have X2 := isX_to hb2 X1 rfl; have R2 := isX_to hb2 R1 rfl; have Q2 := below_to hb2 q1 q1.size rfl rfl rfl rfl; obtain ⟨m0, ⟨e0, e1, e2⟩, -⟩ := X2.all; clear hb2))
  · have q3 := Q2.alloc Q2.size (.cells #[.int .i64 ((N : Int) - 1 - (y + 1)), .int .i64 x, .int .i64 2] 27)
    have X3 := X2.alloc (.cells #[.int .i64 ((N : Int) - 1 - (y + 1)), .int .i64 x, .int .i64 2] 27)
    have R3 := R2.alloc (.cells #[.int .i64 ((N : Int) - 1 - (y + 1)), .int .i64 x, .int .i64 2] 27)
    have T3 : IsX (w2.alloc (.cells #[.int .i64 ((N : Int) - 1 - (y + 1)), .int .i64 x, .int .i64 2] 27)) w2.heap.size ⟨(N : Int) - 1 - (y + 1), x, 2⟩ 27 := IsX.new (q := ⟨(N : Int) - 1 - (y + 1), x, 2⟩)
    have ht : w.heap.size + 1 < w2.heap.size := R2.lt
    clear X2 R2 Q2
    generalize w2.alloc (.cells #[.int .i64 ((N : Int) - 1 - (y + 1)), .int .i64 x, .int .i64 2] 27) = W5 at X3 R3 T3 q3 ⊢
    generalize w2.heap.size = t at T3 ht ⊢
    obtain ⟨-, ⟨c0, c1, c2⟩, -⟩ := X3.all
    obtain ⟨-, ⟨t0, t1, t2⟩, g0, g1, g2⟩ := T3.all
    obtain ⟨hr, ⟨r0, r1, r2⟩, k0, k1, k2⟩ := R3.all
    clear X3 T3
    go_wp2
    refine bodyPost_ret (ret_box2 Tryd.results32 rfl rfl ((R3.other (p := ⟨t, 2, none⟩) (by show w.heap.size + 1 ≠ t; omega) (.int .i64 1)).set3 ⟨(N : Int) - 1 - (y + 1), x, 1⟩)) rfl ⟨rfl, ?_⟩
    exact below_setX (q3.setCell (by show w.heap.size ≤ t; omega) _) (by omega) ⟨(N : Int) - 1 - (y + 1), x, 1⟩
  · have ht : w.heap.size + 1 < w1.heap.size := R1.lt
    have q3 := below_setX Q2 (show w.heap.size ≤ w1.heap.size by omega) ⟨(N : Int) - 1 - (y + 1), x, 2⟩
    have X3 := ((X2.other (p := ⟨w1.heap.size, 0, none⟩) (by show w.heap.size ≠ w1.heap.size; omega) (.int .i64 ((N : Int) - 1 - (y + 1)))).other (p := ⟨w1.heap.size, 1, none⟩) (by show w.heap.size ≠ w1.heap.size; omega) (.int .i64 x)).other (p := ⟨w1.heap.size, 2, none⟩) (by show w.heap.size ≠ w1.heap.size; omega) (.int .i64 2)
    have R3 := ((R2.other (p := ⟨w1.heap.size, 0, none⟩) (by show w.heap.size + 1 ≠ w1.heap.size; omega) (.int .i64 ((N : Int) - 1 - (y + 1)))).other (p := ⟨w1.heap.size, 1, none⟩) (by show w.heap.size + 1 ≠ w1.heap.size; omega) (.int .i64 x)).other (p := ⟨w1.heap.size, 2, none⟩) (by show w.heap.size + 1 ≠ w1.heap.size; omega) (.int .i64 2)
    have T3 := T2.set3 ⟨(N : Int) - 1 - (y + 1), x, 2⟩
    clear X2 R2 T2 Q2
    simp only at q3 X3 R3 T3
    generalize ((w2.setCell ⟨w1.heap.size, 0, none⟩ (.int .i64 ((N : Int) - 1 - (y + 1)))).setCell ⟨w1.heap.size, 1, none⟩ (.int .i64 x)).setCell ⟨w1.heap.size, 2, none⟩ (.int .i64 2) = W5 at X3 R3 T3 q3 ⊢
    clear X1a R1a T1a q1a hw1 X1 R1 q1
    generalize w1.heap.size = t at T3 ht ⊢
    obtain ⟨-, ⟨c0, c1, c2⟩, -⟩ := X3.all
    obtain ⟨-, ⟨t0, t1, t2⟩, g0, g1, g2⟩ := T3.all
    obtain ⟨hr, ⟨r0, r1, r2⟩, k0, k1, k2⟩ := R3.all
    clear X3 T3
    go_wp2
    refine bodyPost_ret (ret_box2 Tryd.results32 rfl rfl ((R3.other (p := ⟨t, 2, none⟩) (by show w.heap.size + 1 ≠ t; omega) (.int .i64 1)).set3 ⟨(N : Int) - 1 - (y + 1), x, 1⟩)) rfl ⟨rfl, ?_⟩
    exact below_setX (q3.setCell (by show w.heap.size ≤ t; omega) _) (by omega) ⟨(N : Int) - 1 - (y + 1), x, 1⟩
end Go.Proofs.YtoojoghgbmpbpaaDoor
