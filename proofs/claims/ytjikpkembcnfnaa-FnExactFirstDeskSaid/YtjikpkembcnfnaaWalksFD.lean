/- The walk of the law of FirstDesk: both sides answer the desk of the document. -/
import Derived.Test.YtjikpkembcnfnaaDeskV
import Derived.Test.YtjikpkembcnfnaaWalksS
import Derived.Deep.Cut
namespace Go.Proofs.Ytjikpkembcnfnaa
set_option maxRecDepth 100000
set_option linter.all false
open Go.RowKit

/-- The first desk. -/
def firstDk : Dk := ⟨⟨#[46, 46, 46, 47, 46, 35, 46]⟩, ⟨0, 0, ⟨1, 2, 3, 4, 5, 6⟩⟩⟩
theorem eqStateF_self (s : St) (w : World) : Calls Try.prog 9 #[St.v s, St.v s] w fun e w' => e = .returned (.bool true) ∧ Below w.heap.size w w' := by
  have n0 : (s.x != s.x) = false := by simp
  have n1 : (s.y != s.y) = false := by simp
  go_enter Try.func9, Try.ntmps9
  go_wp2_with fail
  refine (eqDie_any s.d s.d _).mono ?_
  rintro e w1 ⟨rfl, hb1⟩
  have q1 : Below w.heap.size w w1 := below_after (by go_grown) hb1 (by simp; omega)
  simp only [decide_true]
  go_wp2
  go_returns
  exact ⟨rfl, q1⟩
theorem desk_new (w : World) : ∃ W, w.alloc (.cells #[.string ⟨#[]⟩, .int .i64 0, .int .i64 0, .int .i64 0, .int .i64 0, .int .i64 0, .int .i64 0, .int .i64 0, .int .i64 0] 27) = W ∧ IsDk W w.heap.size zeroDk 27 ∧ Below w.heap.size w W := ⟨_, rfl, IsDk.new (p := zeroDk), (Below.refl _ _).alloc (Nat.le_refl _) _⟩
set_option maxHeartbeats 800000 in
theorem implFD_any (w : World) : Calls Try.prog 5 #[] w fun e w' => e = .returned (Dk.v firstDk) ∧ Below w.heap.size w w' := by
  obtain ⟨W0, hW, R0, q0⟩ := desk_new w
  have HW := hide hW
  clear hW
  have HP := hide (implParse_any ⟨#[49, 50, 51, 52, 53, 54]⟩)
  have e1 : pdS (⟨#[49, 50, 51, 52, 53, 54]⟩ : ByteArray).data.toList = ⟨1, 2, 3, 4, 5, 6⟩ := by decide +kernel
  have e2 : okP (⟨#[49, 50, 51, 52, 53, 54]⟩ : ByteArray).data.toList = true := by decide +kernel
  rw [e1, e2] at HP
  clear e1 e2
  go_enter Try.func5, Try.ntmps5
  go_upto_region 1 with (fail)
  rw [HW.out]
  go_wp2_with fail
  refine (HP.out _ (by decide)).mono ?_
  rintro e w1 ⟨rfl, hb1⟩
  have q1 := below_to hb1 q0 q0.size rfl rfl rfl rfl
  have R1 := isDk_to hb1 R0 rfl
  clear hb1 R0 q0
  have q2 := q1.alloc q1.size (.cells #[.int .i64 1, .int .i64 2, .int .i64 3, .int .i64 4, .int .i64 5, .int .i64 6] 23)
  have R2 := R1.alloc (.cells #[.int .i64 1, .int .i64 2, .int .i64 3, .int .i64 4, .int .i64 5, .int .i64 6] 23)
  have D2 : IsD (w1.alloc (.cells #[.int .i64 1, .int .i64 2, .int .i64 3, .int .i64 4, .int .i64 5, .int .i64 6] 23)) w1.heap.size ⟨1, 2, 3, 4, 5, 6⟩ 23 := IsD.new (d := ⟨1, 2, 3, 4, 5, 6⟩)
  go_upto_region 2 with (fail)
  clear R1 q1
  generalize w1.alloc (.cells #[.int .i64 1, .int .i64 2, .int .i64 3, .int .i64 4, .int .i64 5, .int .i64 6] 23) = w2 at q2 R2 D2 ⊢
  generalize w1.heap.size = bd at D2 ⊢
  obtain ⟨l2, ⟨a0, a1, a2, a3, a4, a5⟩, -⟩ := D2.all
  obtain ⟨l1, ⟨c0, c1, c2, c3, c4, c5, c6, c7, c8⟩, f0, f1, f2, f3, f4, f5, f6, f7, f8⟩ := R2.all
  go_wp2
  refine bodyPost_ret (ret_desk Try.results5 rfl (R2.set9 firstDk)) rfl ⟨rfl, ?_⟩
  exact below_set9K q2 (by omega) firstDk
set_option maxHeartbeats 800000 in
theorem specFD_any (w : World) : Calls Try.prog 4 #[] w fun e w' => e = .returned (Dk.v firstDk) ∧ Below w.heap.size w w' := by
  obtain ⟨W0, hW, R0, q0⟩ := desk_new w
  have HW := hide hW
  clear hW
  go_enter Try.func4, Try.ntmps4
  go_upto_region 1 with (fail)
  rw [HW.out]
  go_wp2_with fail
  have q1 := q0.alloc q0.size (.cells #[.int .i64 1, .int .i64 2, .int .i64 3, .int .i64 4, .int .i64 5, .int .i64 6] 3)
  refine (diOf_any ⟨1, 2, 3, 4, 5, 6⟩ W0.heap.size _ (by simp) (by simp [go_sem]) (by simp [go_sem]) (by simp [go_sem]) (by simp [go_sem]) (by simp [go_sem]) (by simp [go_sem])).mono ?_
  rintro e w1 ⟨rfl, hb1⟩
  have q2 := below_to hb1 q1 q1.size rfl rfl rfl rfl
  have R1 := isDk_to hb1 (R0.alloc (.cells #[.int .i64 1, .int .i64 2, .int .i64 3, .int .i64 4, .int .i64 5, .int .i64 6] 3)) rfl
  clear hb1 R0 q0 q1
  obtain ⟨l1, ⟨c0, c1, c2, c3, c4, c5, c6, c7, c8⟩, f0, f1, f2, f3, f4, f5, f6, f7, f8⟩ := R1.all
  go_wp2
  refine bodyPost_ret (ret_desk Try.results4 rfl (R1.set9 firstDk)) rfl ⟨rfl, ?_⟩
  exact below_set9K q2 (by omega) firstDk
theorem eqDeskF_self (p : Dk) (w : World) : Calls Try.prog 6 #[Dk.v p, Dk.v p] w fun e w' => e = .returned (.bool true) ∧ Below w.heap.size w w' := by
  have n0 : (p.b.toList != p.b.toList) = false := by simp
  have s1 : IsDk ((w.alloc (.cells #[.string p.b, .int .i64 p.s.x, .int .i64 p.s.y, .int .i64 p.s.d.t, .int .i64 p.s.d.n, .int .i64 p.s.d.e, .int .i64 p.s.d.s, .int .i64 p.s.d.w, .int .i64 p.s.d.b] 27)).alloc (.cells #[.string p.b, .int .i64 p.s.x, .int .i64 p.s.y, .int .i64 p.s.d.t, .int .i64 p.s.d.n, .int .i64 p.s.d.e, .int .i64 p.s.d.s, .int .i64 p.s.d.w, .int .i64 p.s.d.b] 27)) w.heap.size p 27 := IsDk.new.alloc _
  have s2 : IsDk ((w.alloc (.cells #[.string p.b, .int .i64 p.s.x, .int .i64 p.s.y, .int .i64 p.s.d.t, .int .i64 p.s.d.n, .int .i64 p.s.d.e, .int .i64 p.s.d.s, .int .i64 p.s.d.w, .int .i64 p.s.d.b] 27)).alloc (.cells #[.string p.b, .int .i64 p.s.x, .int .i64 p.s.y, .int .i64 p.s.d.t, .int .i64 p.s.d.n, .int .i64 p.s.d.e, .int .i64 p.s.d.s, .int .i64 p.s.d.w, .int .i64 p.s.d.b] 27)) (w.heap.size + 1) p 27 := IsDk.new2
  have q0 : Below w.heap.size w ((w.alloc (.cells #[.string p.b, .int .i64 p.s.x, .int .i64 p.s.y, .int .i64 p.s.d.t, .int .i64 p.s.d.n, .int .i64 p.s.d.e, .int .i64 p.s.d.s, .int .i64 p.s.d.w, .int .i64 p.s.d.b] 27)).alloc (.cells #[.string p.b, .int .i64 p.s.x, .int .i64 p.s.y, .int .i64 p.s.d.t, .int .i64 p.s.d.n, .int .i64 p.s.d.e, .int .i64 p.s.d.s, .int .i64 p.s.d.w, .int .i64 p.s.d.b] 27)) := by go_grown
  have HE := hide (eqStateF_self p.s)
  go_enter Try.func6, Try.ntmps6
  go_wp2_with fail
  refine (HE.out _).mono ?_
  rintro e w1 ⟨rfl, hb1⟩
  have t1 := isDk_to hb1 s1 rfl
  have t2 := isDk_to hb1 s2 rfl
  have q1 := below_to hb1 q0 q0.size rfl rfl rfl rfl
  clear hb1 s1 s2 q0
  obtain ⟨l1, ⟨a0, a1, a2, a3, a4, a5, a6, a7, a8⟩, -⟩ := t1.all
  obtain ⟨l2, ⟨c0, c1, c2, c3, c4, c5, c6, c7, c8⟩, -⟩ := t2.all
  go_wp2
  go_returns
  exact ⟨rfl, q1⟩
set_option maxHeartbeats 800000 in
theorem walk_FirstDesk (w : World) : Calls Try.prog 3 #[] w fun e w' => e = .returned (.bool true) ∧ Below w.heap.size w w' := by
  have HE := hide (eqDeskF_self firstDk)
  obtain ⟨p, hp⟩ : ∃ p, p = firstDk := ⟨_, rfl⟩
  have HP := hide hp
  rw [← hp] at HE
  clear hp
  go_enter Try.func3, Try.ntmps3
  go_wp2_with fail
  refine (specFD_any _).mono ?_
  rintro e w1 ⟨rfl, q1⟩
  rw [← HP.out]
  have V1 : IsDk (w1.alloc (.cells #[.string p.b, .int .i64 p.s.x, .int .i64 p.s.y, .int .i64 p.s.d.t, .int .i64 p.s.d.n, .int .i64 p.s.d.e, .int .i64 p.s.d.s, .int .i64 p.s.d.w, .int .i64 p.s.d.b] 27)) w1.heap.size p 27 := IsDk.new
  have q2 := q1.alloc q1.size (.cells #[.string p.b, .int .i64 p.s.x, .int .i64 p.s.y, .int .i64 p.s.d.t, .int .i64 p.s.d.n, .int .i64 p.s.d.e, .int .i64 p.s.d.s, .int .i64 p.s.d.w, .int .i64 p.s.d.b] 27)
  go_wp2_with fail
  generalize w1.alloc (.cells #[.string p.b, .int .i64 p.s.x, .int .i64 p.s.y, .int .i64 p.s.d.t, .int .i64 p.s.d.n, .int .i64 p.s.d.e, .int .i64 p.s.d.s, .int .i64 p.s.d.w, .int .i64 p.s.d.b] 27) = w2 at V1 q2 ⊢
  generalize w1.heap.size = b1 at V1 ⊢
  refine (implFD_any _).mono ?_
  rintro e w3 ⟨rfl, hb3⟩
  rw [← HP.out]
  have q3 := below_to hb3 q2 q2.size rfl rfl rfl rfl
  have V3 := isDk_to hb3 V1 rfl
  clear hb3 V1 q2 q1
  have V4 := V3.alloc (.cells #[.string p.b, .int .i64 p.s.x, .int .i64 p.s.y, .int .i64 p.s.d.t, .int .i64 p.s.d.n, .int .i64 p.s.d.e, .int .i64 p.s.d.s, .int .i64 p.s.d.w, .int .i64 p.s.d.b] 27)
  have U4 : IsDk (w3.alloc (.cells #[.string p.b, .int .i64 p.s.x, .int .i64 p.s.y, .int .i64 p.s.d.t, .int .i64 p.s.d.n, .int .i64 p.s.d.e, .int .i64 p.s.d.s, .int .i64 p.s.d.w, .int .i64 p.s.d.b] 27)) w3.heap.size p 27 := IsDk.new
  have q4 := q3.alloc q3.size (.cells #[.string p.b, .int .i64 p.s.x, .int .i64 p.s.y, .int .i64 p.s.d.t, .int .i64 p.s.d.n, .int .i64 p.s.d.e, .int .i64 p.s.d.s, .int .i64 p.s.d.w, .int .i64 p.s.d.b] 27)
  go_upto_region 3 with (fail)
  clear V3 q3
  generalize w3.alloc (.cells #[.string p.b, .int .i64 p.s.x, .int .i64 p.s.y, .int .i64 p.s.d.t, .int .i64 p.s.d.n, .int .i64 p.s.d.e, .int .i64 p.s.d.s, .int .i64 p.s.d.w, .int .i64 p.s.d.b] 27) = w4 at V4 U4 q4 ⊢
  generalize w3.heap.size = b3 at U4 ⊢
  obtain ⟨l1, ⟨a0, a1, a2, a3, a4, a5, a6, a7, a8⟩, -⟩ := V4.all
  obtain ⟨l2, ⟨c0, c1, c2, c3, c4, c5, c6, c7, c8⟩, -⟩ := U4.all
  go_wp2_with fail
  refine (HE.out _).mono ?_
  rintro e w5 ⟨rfl, hb5⟩
  have q5 := below_to hb5 q4 q4.size rfl rfl rfl rfl
  clear hb5
  go_wp2
  go_returns
  exact ⟨rfl, q5⟩
end Go.Proofs.Ytjikpkembcnfnaa
