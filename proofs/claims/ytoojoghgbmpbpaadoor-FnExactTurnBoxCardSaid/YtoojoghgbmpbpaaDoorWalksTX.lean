/- The walk of TurnBox's law. -/
import Derived.Test.YtoojoghgbmpbpaaDoorTurnXI
namespace Go.Proofs.YtoojoghgbmpbpaaDoor
set_option maxRecDepth 100000
set_option linter.all false
open Go.RowKit

set_option maxHeartbeats 1600000 in
theorem specTurn0 (s : ByteArray) (x y : Int) (R : Int) (hR : R = ((splitP s.data.toList).length : Int) - 1 - (y)) (w : World) (hs : s.size ≤ 1048576) (h : isGd s.data.toList = true) (hb : goodX (splitP s.data.toList) ⟨x, y, 0⟩ = true) : Calls Tryd.prog 31 #[.string s, Bx.v ⟨x, y, 0⟩] w fun e w' => e = .returned (.tuple #[Bx.v ⟨R, x, 0⟩, .bool true]) ∧ Below w.heap.size w w' := by
  have hf := good_facts h hb
  rw [show lastY ⟨x, y, 0⟩ = y from rfl] at hf
  simp only at hf
  have hbd := bd_facts (gd_bd h)
  rw [rows_ungl] at hbd
  have q0 : Below w.heap.size w ((w.alloc (.cells #[.int .i64 x, .int .i64 y, .int .i64 0] 27)).alloc (.cells #[.int .i64 0, .int .i64 0, .int .i64 0] 27)) := by go_grown
  have X0 : IsX ((w.alloc (.cells #[.int .i64 x, .int .i64 y, .int .i64 0] 27)).alloc (.cells #[.int .i64 0, .int .i64 0, .int .i64 0] 27)) w.heap.size ⟨x, y, 0⟩ 27 := (IsX.new (q := ⟨x, y, 0⟩)).alloc _
  have R0 : IsX ((w.alloc (.cells #[.int .i64 x, .int .i64 y, .int .i64 0] 27)).alloc (.cells #[.int .i64 0, .int .i64 0, .int .i64 0] 27)) (w.heap.size + 1) ⟨0, 0, 0⟩ 27 := IsX.new2 (q := ⟨0, 0, 0⟩)
  have H := hide h
  have HBX := hide hb
  have HF := hide hf
  have HBD := hide hbd
  have HR := hide hR
  clear h hb hf hbd hR
  go_enter Tryd.func31, Tryd.ntmps31
  go_wp2_with fail
  generalize (w.alloc (.cells #[.int .i64 x, .int .i64 y, .int .i64 0] 27)).alloc (.cells #[.int .i64 0, .int .i64 0, .int .i64 0] 27) = W0 at q0 X0 R0 ⊢
  refine (bxAsked_in s ⟨x, y, 0⟩ _ hs H.out).mono ?_
  rintro e w1 ⟨W, Hh, n, g, cap, hG, rfl, _, hb1⟩
  rw [HBX.out]
  have X1 := isX_to hb1 X0 rfl
  have R1 := isX_to hb1 R0 rfl
  have q1 := below_to hb1 q0 q0.size rfl rfl rfl rfl
  have hR := HR.out
  have hf := HF.out
  have hbd := HBD.out
  rw [hG.2.2.1] at hR hf hbd
  have w1q : wrap64 ((Hh : Int) - 1) = (Hh : Int) - 1 := IntWalk.wrap64_in _ (by omega)
  have w2q : wrap64 ((Hh : Int) - 1 - y) = R := by rw [IntWalk.wrap64_in _ (by omega)]; omega
  clear hb1 X0 R0 q0 hG hR hf hbd
  have hz := q1.size
  have qs := below_setX q1 (show w.heap.size ≤ w.heap.size + 1 by omega) ⟨R, x, 0⟩
  have qs2 := qs.alloc qs.size (.cells #[.int .i64 (W : Int), .int .i64 (Hh : Int), .slice (some ⟨g, 0, none⟩) n cap] 44)
  have q2 := qs2.alloc qs2.size (.cells #[.int .i64 R, .int .i64 x, .int .i64 0] 27)
  have R2 := ((R1.set3 ⟨R, x, 0⟩).alloc (.cells #[.int .i64 (W : Int), .int .i64 (Hh : Int), .slice (some ⟨g, 0, none⟩) n cap] 44)).alloc (.cells #[.int .i64 R, .int .i64 x, .int .i64 0] 27)
  obtain ⟨l0, ⟨c0, c1, c2⟩, -⟩ := X1.all
  obtain ⟨l1, ⟨r0, r1, r2⟩, k0, k1, k2⟩ := R1.all
  clear X1 R1 q1 qs qs2
  go_wp2
  exact bodyPost_ret (ret_box2 Tryd.results31 rfl rfl R2) rfl ⟨rfl, q2⟩
set_option maxHeartbeats 1600000 in
theorem specTurn1 (s : ByteArray) (x y : Int) (R : Int) (hR : R = ((splitP s.data.toList).length : Int) - 1 - (y)) (w : World) (hs : s.size ≤ 1048576) (h : isGd s.data.toList = true) (hb : goodX (splitP s.data.toList) ⟨x, y, 1⟩ = true) : Calls Tryd.prog 31 #[.string s, Bx.v ⟨x, y, 1⟩] w fun e w' => e = .returned (.tuple #[Bx.v ⟨R, x, 2⟩, .bool true]) ∧ Below w.heap.size w w' := by
  have hf := good_facts h hb
  rw [show lastY ⟨x, y, 1⟩ = y from rfl] at hf
  simp only at hf
  have hbd := bd_facts (gd_bd h)
  rw [rows_ungl] at hbd
  have q0 : Below w.heap.size w ((w.alloc (.cells #[.int .i64 x, .int .i64 y, .int .i64 1] 27)).alloc (.cells #[.int .i64 0, .int .i64 0, .int .i64 0] 27)) := by go_grown
  have X0 : IsX ((w.alloc (.cells #[.int .i64 x, .int .i64 y, .int .i64 1] 27)).alloc (.cells #[.int .i64 0, .int .i64 0, .int .i64 0] 27)) w.heap.size ⟨x, y, 1⟩ 27 := (IsX.new (q := ⟨x, y, 1⟩)).alloc _
  have R0 : IsX ((w.alloc (.cells #[.int .i64 x, .int .i64 y, .int .i64 1] 27)).alloc (.cells #[.int .i64 0, .int .i64 0, .int .i64 0] 27)) (w.heap.size + 1) ⟨0, 0, 0⟩ 27 := IsX.new2 (q := ⟨0, 0, 0⟩)
  have H := hide h
  have HBX := hide hb
  have HF := hide hf
  have HBD := hide hbd
  have HR := hide hR
  clear h hb hf hbd hR
  go_enter Tryd.func31, Tryd.ntmps31
  go_wp2_with fail
  generalize (w.alloc (.cells #[.int .i64 x, .int .i64 y, .int .i64 1] 27)).alloc (.cells #[.int .i64 0, .int .i64 0, .int .i64 0] 27) = W0 at q0 X0 R0 ⊢
  refine (bxAsked_in s ⟨x, y, 1⟩ _ hs H.out).mono ?_
  rintro e w1 ⟨W, Hh, n, g, cap, hG, rfl, _, hb1⟩
  rw [HBX.out]
  have X1 := isX_to hb1 X0 rfl
  have R1 := isX_to hb1 R0 rfl
  have q1 := below_to hb1 q0 q0.size rfl rfl rfl rfl
  have hR := HR.out
  have hf := HF.out
  have hbd := HBD.out
  rw [hG.2.2.1] at hR hf hbd
  have w1q : wrap64 ((Hh : Int) - 1) = (Hh : Int) - 1 := IntWalk.wrap64_in _ (by omega)
  have w2q : wrap64 ((Hh : Int) - 1 - y) = R := by rw [IntWalk.wrap64_in _ (by omega)]; omega
  clear hb1 X0 R0 q0 hG hR hf hbd
  have hz := q1.size
  have qs := below_setX q1 (show w.heap.size ≤ w.heap.size + 1 by omega) ⟨R, x, 2⟩
  have qs2 := qs.alloc qs.size (.cells #[.int .i64 (W : Int), .int .i64 (Hh : Int), .slice (some ⟨g, 0, none⟩) n cap] 44)
  have q2 := qs2.alloc qs2.size (.cells #[.int .i64 R, .int .i64 x, .int .i64 2] 27)
  have R2 := ((R1.set3 ⟨R, x, 2⟩).alloc (.cells #[.int .i64 (W : Int), .int .i64 (Hh : Int), .slice (some ⟨g, 0, none⟩) n cap] 44)).alloc (.cells #[.int .i64 R, .int .i64 x, .int .i64 2] 27)
  obtain ⟨l0, ⟨c0, c1, c2⟩, -⟩ := X1.all
  obtain ⟨l1, ⟨r0, r1, r2⟩, k0, k1, k2⟩ := R1.all
  clear X1 R1 q1 qs qs2
  go_wp2
  exact bodyPost_ret (ret_box2 Tryd.results31 rfl rfl R2) rfl ⟨rfl, q2⟩
set_option maxHeartbeats 1600000 in
theorem specTurn2 (s : ByteArray) (x y : Int) (R : Int) (hR : R = ((splitP s.data.toList).length : Int) - 1 - (y + 1)) (w : World) (hs : s.size ≤ 1048576) (h : isGd s.data.toList = true) (hb : goodX (splitP s.data.toList) ⟨x, y, 2⟩ = true) : Calls Tryd.prog 31 #[.string s, Bx.v ⟨x, y, 2⟩] w fun e w' => e = .returned (.tuple #[Bx.v ⟨R, x, 1⟩, .bool true]) ∧ Below w.heap.size w w' := by
  have hf := good_facts h hb
  rw [show lastY ⟨x, y, 2⟩ = y + 1 from rfl] at hf
  simp only at hf
  have hbd := bd_facts (gd_bd h)
  rw [rows_ungl] at hbd
  have q0 : Below w.heap.size w ((w.alloc (.cells #[.int .i64 x, .int .i64 y, .int .i64 2] 27)).alloc (.cells #[.int .i64 0, .int .i64 0, .int .i64 0] 27)) := by go_grown
  have X0 : IsX ((w.alloc (.cells #[.int .i64 x, .int .i64 y, .int .i64 2] 27)).alloc (.cells #[.int .i64 0, .int .i64 0, .int .i64 0] 27)) w.heap.size ⟨x, y, 2⟩ 27 := (IsX.new (q := ⟨x, y, 2⟩)).alloc _
  have R0 : IsX ((w.alloc (.cells #[.int .i64 x, .int .i64 y, .int .i64 2] 27)).alloc (.cells #[.int .i64 0, .int .i64 0, .int .i64 0] 27)) (w.heap.size + 1) ⟨0, 0, 0⟩ 27 := IsX.new2 (q := ⟨0, 0, 0⟩)
  have H := hide h
  have HBX := hide hb
  have HF := hide hf
  have HBD := hide hbd
  have HR := hide hR
  clear h hb hf hbd hR
  go_enter Tryd.func31, Tryd.ntmps31
  go_wp2_with fail
  generalize (w.alloc (.cells #[.int .i64 x, .int .i64 y, .int .i64 2] 27)).alloc (.cells #[.int .i64 0, .int .i64 0, .int .i64 0] 27) = W0 at q0 X0 R0 ⊢
  refine (bxAsked_in s ⟨x, y, 2⟩ _ hs H.out).mono ?_
  rintro e w1 ⟨W, Hh, n, g, cap, hG, rfl, _, hb1⟩
  rw [HBX.out]
  have X1 := isX_to hb1 X0 rfl
  have R1 := isX_to hb1 R0 rfl
  have q1 := below_to hb1 q0 q0.size rfl rfl rfl rfl
  have hR := HR.out
  have hf := HF.out
  have hbd := HBD.out
  rw [hG.2.2.1] at hR hf hbd
  have w1q : wrap64 ((Hh : Int) - 1) = (Hh : Int) - 1 := IntWalk.wrap64_in _ (by omega)
  have w2q : wrap64 ((Hh : Int) - 1 - y) = (Hh : Int) - 1 - y := IntWalk.wrap64_in _ (by omega)
  have w3q : wrap64 ((Hh : Int) - 1 - y - 1) = R := by rw [IntWalk.wrap64_in _ (by omega)]; omega
  clear hb1 X0 R0 q0 hG hR hf hbd
  have hz := q1.size
  have qs := below_setX q1 (show w.heap.size ≤ w.heap.size + 1 by omega) ⟨R, x, 1⟩
  have qs2 := qs.alloc qs.size (.cells #[.int .i64 (W : Int), .int .i64 (Hh : Int), .slice (some ⟨g, 0, none⟩) n cap] 44)
  have q2 := qs2.alloc qs2.size (.cells #[.int .i64 R, .int .i64 x, .int .i64 1] 27)
  have R2 := ((R1.set3 ⟨R, x, 1⟩).alloc (.cells #[.int .i64 (W : Int), .int .i64 (Hh : Int), .slice (some ⟨g, 0, none⟩) n cap] 44)).alloc (.cells #[.int .i64 R, .int .i64 x, .int .i64 1] 27)
  obtain ⟨l0, ⟨c0, c1, c2⟩, -⟩ := X1.all
  obtain ⟨l1, ⟨r0, r1, r2⟩, k0, k1, k2⟩ := R1.all
  clear X1 R1 q1 qs qs2
  go_wp2
  exact bodyPost_ret (ret_box2 Tryd.results31 rfl rfl R2) rfl ⟨rfl, q2⟩

theorem tb_cases {l : List UInt8} (h : isGd l = true) {b : Bx} (hb : goodX (splitP l) b = true) : b.p = 0 ∨ b.p = 1 ∨ b.p = 2 := by
  have := good_facts h hb
  omega
/-- The two that fail. -/
theorem specTurn_no (s : ByteArray) (b : Bx) (w : World) (hs : s.size ≤ 1048576) (h : tbOk s.data.toList b = false) : Calls Tryd.prog 31 #[.string s, Bx.v b] w fun e w' => e = .returned (.tuple #[Bx.v zeroX, .bool false]) ∧ Below w.heap.size w w' := by
  have q0 : Below w.heap.size w ((w.alloc (.cells #[.int .i64 b.x, .int .i64 b.y, .int .i64 b.p] 27)).alloc (.cells #[.int .i64 0, .int .i64 0, .int .i64 0] 27)) := by go_grown
  have R0 : IsX ((w.alloc (.cells #[.int .i64 b.x, .int .i64 b.y, .int .i64 b.p] 27)).alloc (.cells #[.int .i64 0, .int .i64 0, .int .i64 0] 27)) (w.heap.size + 1) ⟨0, 0, 0⟩ 27 := IsX.new2 (q := ⟨0, 0, 0⟩)
  cases hgd : isGd s.data.toList
  · have H := hide hgd
    clear h hgd
    go_enter Tryd.func31, Tryd.ntmps31
    go_wp2_with fail
    generalize (w.alloc (.cells #[.int .i64 b.x, .int .i64 b.y, .int .i64 b.p] 27)).alloc (.cells #[.int .i64 0, .int .i64 0, .int .i64 0] 27) = W0 at q0 R0 ⊢
    refine (bxAsked_bad s b _ hs H.out).mono ?_
    rintro e w1 ⟨rfl, hb1⟩
    have R1 := isX_to hb1 R0 rfl
    have q1 := below_to hb1 q0 q0.size rfl rfl rfl rfl
    obtain ⟨l1, ⟨r0, r1, r2⟩, k0, k1, k2⟩ := R1.all
    have R2 := (R1.set3 ⟨0, 0, 0⟩).alloc (.cells #[.int .i64 0, .int .i64 0, .slice none 0 0] 44)
    have qs := below_setX q1 (show w.heap.size ≤ w.heap.size + 1 by omega) ⟨0, 0, 0⟩
    have q2 := qs.alloc qs.size (.cells #[.int .i64 0, .int .i64 0, .slice none 0 0] 44)
    clear hb1 R0 q0 R1 q1
    go_wp2
    exact bodyPost_ret (ret_box2 Tryd.results31 rfl rfl R2) rfl ⟨rfl, q2⟩
  · have hgx : goodX (splitP s.data.toList) b = false := by unfold tbOk at h; rw [hgd, Bool.true_and] at h; exact h
    have H := hide hgd
    have HX := hide hgx
    clear h hgd hgx
    go_enter Tryd.func31, Tryd.ntmps31
    go_wp2_with fail
    generalize (w.alloc (.cells #[.int .i64 b.x, .int .i64 b.y, .int .i64 b.p] 27)).alloc (.cells #[.int .i64 0, .int .i64 0, .int .i64 0] 27) = W0 at q0 R0 ⊢
    refine (bxAsked_in s b _ hs H.out).mono ?_
    rintro e w1 ⟨W, Hh, n, g, cap, _, rfl, _, hb1⟩
    rw [HX.out]
    have R1 := isX_to hb1 R0 rfl
    have q1 := below_to hb1 q0 q0.size rfl rfl rfl rfl
    obtain ⟨l1, ⟨r0, r1, r2⟩, k0, k1, k2⟩ := R1.all
    have R2 := (R1.set3 ⟨0, 0, 0⟩).alloc (.cells #[.int .i64 (W : Int), .int .i64 (Hh : Int), .slice (some ⟨g, 0, none⟩) n cap] 44)
    have qs := below_setX q1 (show w.heap.size ≤ w.heap.size + 1 by omega) ⟨0, 0, 0⟩
    have q2 := qs.alloc qs.size (.cells #[.int .i64 (W : Int), .int .i64 (Hh : Int), .slice (some ⟨g, 0, none⟩) n cap] 44)
    clear hb1 R0 q0 R1 q1
    go_wp2
    exact bodyPost_ret (ret_box2 Tryd.results31 rfl rfl R2) rfl ⟨rfl, q2⟩
theorem implTurn_no (s : ByteArray) (b : Bx) (w : World) (hs : s.size ≤ 1048576) (hg : Glob w) (h : tbOk s.data.toList b = false) : Calls Tryd.prog 32 #[.string s, Bx.v b] w fun e w' => e = .returned (.tuple #[Bx.v zeroX, .bool false]) ∧ Below w.heap.size w w' := by
  have q0 : Below w.heap.size w ((w.alloc (.cells #[.int .i64 b.x, .int .i64 b.y, .int .i64 b.p] 27)).alloc (.cells #[.int .i64 0, .int .i64 0, .int .i64 0] 27)) := by go_grown
  have HG := hide (show Glob ((w.alloc (.cells #[.int .i64 b.x, .int .i64 b.y, .int .i64 b.p] 27)).alloc (.cells #[.int .i64 0, .int .i64 0, .int .i64 0] 27)) from glob_to (w0 := w) q0 hg rfl)
  have R0 : IsX ((w.alloc (.cells #[.int .i64 b.x, .int .i64 b.y, .int .i64 b.p] 27)).alloc (.cells #[.int .i64 0, .int .i64 0, .int .i64 0] 27)) (w.heap.size + 1) ⟨0, 0, 0⟩ 27 := IsX.new2 (q := ⟨0, 0, 0⟩)
  have key : ∀ W0 : World, Glob W0 → Calls Tryd.prog 44 #[.string s, Bx.v b] W0 fun e w' => e = .returned (.tuple #[.slice none 0 0, .bool false]) ∧ Below W0.heap.size W0 w' := by
    intro W0 hg0
    cases hgd : isGd s.data.toList
    · exact groundUnder_bad s b W0 hs hg0 hgd
    · exact groundUnder_off s b W0 hs hg0 hgd (by unfold tbOk at h; rw [hgd, Bool.true_and] at h; exact h)
  have HK := hide key
  clear key h hg
  go_enter Tryd.func32, Tryd.ntmps32
  go_wp2_with fail
  generalize (w.alloc (.cells #[.int .i64 b.x, .int .i64 b.y, .int .i64 b.p] 27)).alloc (.cells #[.int .i64 0, .int .i64 0, .int .i64 0] 27) = W0 at q0 R0 HG ⊢
  refine (HK.out _ HG.out).mono ?_
  rintro e w1 ⟨rfl, hb1⟩
  have R1 := isX_to hb1 R0 rfl
  have q1 := below_to hb1 q0 q0.size rfl rfl rfl rfl
  obtain ⟨l1, ⟨r0, r1, r2⟩, k0, k1, k2⟩ := R1.all
  clear hb1 R0 q0 HG
  go_wp2
  refine bodyPost_ret (ret_box2 Tryd.results32 rfl rfl (R1.set3 ⟨0, 0, 0⟩)) rfl ⟨rfl, ?_⟩
  exact below_setX q1 (by omega) ⟨0, 0, 0⟩
theorem specTurn_any (s : ByteArray) (b : Bx) (w : World) (hs : s.size ≤ 1048576) : Calls Tryd.prog 31 #[.string s, Bx.v b] w fun e w' => e = .returned (.tuple #[Bx.v (tbV s.data.toList b), .bool (tbOk s.data.toList b)]) ∧ Below w.heap.size w w' := by
  cases h : tbOk s.data.toList b
  · have e : tbV s.data.toList b = zeroX := by unfold tbV; rw [h]; rfl
    rw [e]
    exact specTurn_no s b w hs h
  · have e : tbV s.data.toList b = turnX s.data.toList b := by unfold tbV; rw [h]; rfl
    rw [e]
    unfold tbOk at h
    rw [Bool.and_eq_true] at h
    have hp := tb_cases h.1 h.2
    obtain ⟨x, y, p⟩ := b
    simp only at hp
    rcases hp with rfl | rfl | rfl
    · exact specTurn0 s x y _ rfl w hs h.1 h.2
    · exact specTurn1 s x y _ rfl w hs h.1 h.2
    · exact specTurn2 s x y _ rfl w hs h.1 h.2
theorem implTurn_any (s : ByteArray) (b : Bx) (w : World) (hs : s.size ≤ 1048576) (hg : Glob w) : Calls Tryd.prog 32 #[.string s, Bx.v b] w fun e w' => e = .returned (.tuple #[Bx.v (tbV s.data.toList b), .bool (tbOk s.data.toList b)]) ∧ Below w.heap.size w w' := by
  cases h : tbOk s.data.toList b
  · have e : tbV s.data.toList b = zeroX := by unfold tbV; rw [h]; rfl
    rw [e]
    exact implTurn_no s b w hs hg h
  · have e : tbV s.data.toList b = turnX s.data.toList b := by unfold tbV; rw [h]; rfl
    rw [e]
    unfold tbOk at h
    rw [Bool.and_eq_true] at h
    have hp := tb_cases h.1 h.2
    obtain ⟨x, y, p⟩ := b
    simp only at hp
    rcases hp with rfl | rfl | rfl
    · exact implTurn0 s x y w hs hg h.1 h.2
    · exact implTurn1 s x y w hs hg h.1 h.2
    · exact implTurn2 s x y w hs hg h.1 h.2

set_option maxHeartbeats 1600000 in
theorem walk_TurnBox (v0 : ByteArray) (hv0 : v0.size ≤ maxLen) (x1 : Bx) (w : World) (hg : Glob w) : Calls Tryd.prog 11 #[.string v0, Bx.v x1] w fun e w' => e = .returned (.bool true) ∧ Below w.heap.size w w' := by
  have q0 : Below w.heap.size w (w.alloc (.cells #[.int .i64 x1.x, .int .i64 x1.y, .int .i64 x1.p] 24)) := by go_grown
  have HGL := hide (show Glob (w.alloc (.cells #[.int .i64 x1.x, .int .i64 x1.y, .int .i64 x1.p] 24)) from glob_to (w0 := w) q0 hg rfl)
  clear hg
  by_cases h0 : v0.size ≤ 1048576
  · have HS0 := hide h0
    obtain ⟨z0, hz0⟩ : ∃ z, z = tbV v0.data.toList x1 := ⟨_, rfl⟩
    have HZ0 := hide hz0
    clear hz0
    obtain ⟨z1, hz1⟩ : ∃ z, z = tbOk v0.data.toList x1 := ⟨_, rfl⟩
    have HZ1 := hide hz1
    clear hz1
    have e1 : (z1 != z1) = false := by simp
    go_enter Tryd.func11, Tryd.ntmps11
    go_wp2_with fail
    have X1 : IsX (w.alloc (.cells #[.int .i64 x1.x, .int .i64 x1.y, .int .i64 x1.p] 24)) w.heap.size x1 24 := (IsX.new)
    generalize (w.alloc (.cells #[.int .i64 x1.x, .int .i64 x1.y, .int .i64 x1.p] 24)) = W0 at q0 HGL X1 ⊢
    obtain ⟨l_1, ⟨c_1, d_1, f_1⟩, -⟩ := X1.all
    go_wp2_with fail
    refine (toBox_any x1 _).mono ?_
    rintro e w2 ⟨rfl, hb2⟩
    have Y_x1_2 := isX_to hb2 X1 rfl
    have qb_2 := below_to hb2 q0 q0.size rfl rfl rfl rfl
    have Gb_2 := hide (glob_to hb2 HGL.out rfl)
    clear hb2
    clear l_1 c_1 d_1 f_1
    obtain ⟨l_3, ⟨c_3, d_3, f_3⟩, -⟩ := Y_x1_2.all
    go_wp2_with fail
    refine (specTurn_any v0 x1 _ HS0.out).mono ?_
    rintro e w4 ⟨rfl, hb4⟩
    have Y_x1_4 := isX_to hb4 Y_x1_2 rfl
    have qb_4 := below_to hb4 qb_2 qb_2.size rfl rfl rfl rfl
    have Gb_4 := hide (glob_to hb4 Gb_2.out rfl)
    clear hb4
    clear l_3 c_3 d_3 f_3
    obtain ⟨l_5, ⟨c_5, d_5, f_5⟩, -⟩ := Y_x1_4.all
    rw [← HZ0.out, ← HZ1.out]
    go_wp2_with fail
    clear l_5 c_5 d_5 f_5
    have A_x1_6 := Y_x1_4.alloc (.cells #[.int .i64 z0.x, .int .i64 z0.y, .int .i64 z0.p] 27)
    have V_6 : IsX (w4.alloc (.cells #[.int .i64 z0.x, .int .i64 z0.y, .int .i64 z0.p] 27)) w4.heap.size z0 27 := IsX.new
    have qa_6 := qb_4.alloc qb_4.size (.cells #[.int .i64 z0.x, .int .i64 z0.y, .int .i64 z0.p] 27)
    have Ga_6 := hide (show Glob (w4.alloc (.cells #[.int .i64 z0.x, .int .i64 z0.y, .int .i64 z0.p] 27)) from glob_to (w0 := w4) ((Below.refl _ _).alloc (Nat.le_refl _) _) Gb_4.out rfl)
    generalize w4.alloc (.cells #[.int .i64 z0.x, .int .i64 z0.y, .int .i64 z0.p] 27) = Wa_6 at A_x1_6 V_6 qa_6 Ga_6 ⊢
    generalize w4.heap.size = ba_6 at V_6 ⊢
    refine (toBox_any x1 _).mono ?_
    rintro e w7 ⟨rfl, hb7⟩
    have Y_x1_7 := isX_to hb7 A_x1_6 rfl
    have Y_z06_7 := isX_to hb7 V_6 rfl
    have qb_7 := below_to hb7 qa_6 qa_6.size rfl rfl rfl rfl
    have Gb_7 := hide (glob_to hb7 Ga_6.out rfl)
    clear hb7
    obtain ⟨l_8, ⟨c_8, d_8, f_8⟩, -⟩ := Y_x1_7.all
    obtain ⟨l_9, ⟨c_9, d_9, f_9⟩, -⟩ := Y_z06_7.all
    go_wp2_with fail
    refine (implTurn_any v0 x1 _ HS0.out Gb_7.out).mono ?_
    rintro e w10 ⟨rfl, hb10⟩
    have Y_x1_10 := isX_to hb10 Y_x1_7 rfl
    have Y_z06_10 := isX_to hb10 Y_z06_7 rfl
    have qb_10 := below_to hb10 qb_7 qb_7.size rfl rfl rfl rfl
    have Gb_10 := hide (glob_to hb10 Gb_7.out rfl)
    clear hb10
    clear l_8 c_8 d_8 f_8
    clear l_9 c_9 d_9 f_9
    obtain ⟨l_11, ⟨c_11, d_11, f_11⟩, -⟩ := Y_x1_10.all
    obtain ⟨l_12, ⟨c_12, d_12, f_12⟩, -⟩ := Y_z06_10.all
    rw [← HZ0.out, ← HZ1.out]
    go_wp2_with fail
    clear l_11 c_11 d_11 f_11
    clear l_12 c_12 d_12 f_12
    have A_x1_13 := Y_x1_10.alloc (.cells #[.int .i64 z0.x, .int .i64 z0.y, .int .i64 z0.p] 27)
    have A_z06_13 := Y_z06_10.alloc (.cells #[.int .i64 z0.x, .int .i64 z0.y, .int .i64 z0.p] 27)
    have V_13 : IsX (w10.alloc (.cells #[.int .i64 z0.x, .int .i64 z0.y, .int .i64 z0.p] 27)) w10.heap.size z0 27 := IsX.new
    have qa_13 := qb_10.alloc qb_10.size (.cells #[.int .i64 z0.x, .int .i64 z0.y, .int .i64 z0.p] 27)
    have Ga_13 := hide (show Glob (w10.alloc (.cells #[.int .i64 z0.x, .int .i64 z0.y, .int .i64 z0.p] 27)) from glob_to (w0 := w10) ((Below.refl _ _).alloc (Nat.le_refl _) _) Gb_10.out rfl)
    generalize w10.alloc (.cells #[.int .i64 z0.x, .int .i64 z0.y, .int .i64 z0.p] 27) = Wa_13 at A_x1_13 A_z06_13 V_13 qa_13 Ga_13 ⊢
    generalize w10.heap.size = ba_13 at V_13 ⊢
    refine (eqBox_self z0 _).mono ?_
    rintro e w14 ⟨rfl, hb14⟩
    have Y_x1_14 := isX_to hb14 A_x1_13 rfl
    have Y_z06_14 := isX_to hb14 A_z06_13 rfl
    have Y_z013_14 := isX_to hb14 V_13 rfl
    have qb_14 := below_to hb14 qa_13 qa_13.size rfl rfl rfl rfl
    have Gb_14 := hide (glob_to hb14 Ga_13.out rfl)
    clear hb14
    obtain ⟨l_15, ⟨c_15, d_15, f_15⟩, -⟩ := Y_x1_14.all
    obtain ⟨l_16, ⟨c_16, d_16, f_16⟩, -⟩ := Y_z06_14.all
    obtain ⟨l_17, ⟨c_17, d_17, f_17⟩, -⟩ := Y_z013_14.all
    go_wp2
    go_returns
    exact ⟨rfl, qb_14⟩
  · go_enter Tryd.func11, Tryd.ntmps11
    go_wp2
    go_returns
    exact ⟨rfl, by go_grown⟩
end Go.Proofs.YtoojoghgbmpbpaaDoor
