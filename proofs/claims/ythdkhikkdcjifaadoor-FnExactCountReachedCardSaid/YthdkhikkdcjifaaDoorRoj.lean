/- The contracts of compareRoutes, joinedRoutes, bestRoute. -/
import Derived.Test.YthdkhikkdcjifaaDoorRou
import Derived.Deep.RegionWith
import Derived.Deep.DeepCutAuto
import Derived.StillTailTactics
namespace Go.Proofs.YthdkhikkdcjifaaDoor
set_option maxRecDepth 100000
set_option linter.all false
open Go.RowKit Go.Maps Go.ChangeMaps

def cmpB : List UInt8 → List UInt8 → Int
  | a :: s, b :: t => if a = b then cmpB s t else dirIx a.toNat - dirIx b.toNat
  | [], _ => 0
  | _ :: _, [] => 0
theorem cmpB_wd : ∀ u v : W4, cmpB (wdB u) (wdB v) = cmpF u v
  | a :: u, b :: v => by
    show (if dirC a.val = dirC b.val then cmpB (wdB u) (wdB v) else _) = (if a = b then cmpF u v else _)
    by_cases e : a = b
    · rw [if_pos e, if_pos (by rw [e]), cmpB_wd u v]
    · rw [if_neg e, if_neg (fun h => e (dirC_inj _ _ h)), dirC_ix a.val a.isLt, dirC_ix b.val b.isLt]
  | [], _ => rfl
  | _ :: _, [] => rfl
/-- The order of routes. -/
def cmpRt (r q : Rt) : Int := if effI r q ≠ 0 then effI r q else cmpB r.word q.word
/-- A route's word is one of directions, and not too long. -/
def wdOk (r : Rt) : Prop := ∃ u : W4, r.word = wdB u ∧ u.length ≤ 2000
theorem effI_zero {r q : Rt} (h : effI r q = 0) : r.cost = q.cost ∧ r.word.length = q.word.length := by
  unfold effI at h
  by_cases e : cmpI r.cost q.cost = 0
  · rw [if_neg (by omega)] at h
    have h2 := cmpI_zero.1 h
    exact ⟨cmpI_zero.1 e, by omega⟩
  · rw [if_pos e] at h
    exact absurd h e
set_option maxHeartbeats 1600000 in
theorem compareRoutes_any (r q : Rt) (hr : wdOk r) (hq : wdOk q) (w : World) : Calls Tryd.prog 107 #[Rt.v r, Rt.v q] w fun x w' => x = .returned (.int .i64 (cmpRt r q)) ∧ Below w.heap.size w w' := by
  have HE := hide (fun wx => compareEfforts_any r q wx)
  have HV := hide (show cmpRt r q = if effI r q ≠ 0 then effI r q else cmpB r.word q.word from rfl)
  obtain ⟨u, hu, hul⟩ := hr
  obtain ⟨v, hv, hvl⟩ := hq
  have HW := hide (show effI r q = 0 → ∀ wx : World, Calls Tryd.prog 129 #[.string ⟨r.word.toArray⟩, .string ⟨q.word.toArray⟩] wx fun x w' => x = .returned (.int .i64 (cmpB r.word q.word)) ∧ Below wx.heap.size wx w' from fun h0 wx => by
    have hl := (effI_zero h0).2
    rw [hu, hv, cmpB_wd]
    rw [hu, hv, wdB_len, wdB_len] at hl
    exact compareWords_any _ _ u v rfl rfl hl hul wx)
  clear hu hv hul hvl
  generalize effI r q = e at HE HV HW
  generalize cmpB r.word q.word = z at HV HW
  generalize cmpRt r q = res at HV ⊢
  have S0 := (IsR.new (w := w) (r := r)).alloc (.cells #[.string ⟨q.word.toArray⟩, .int .i64 q.cost, .int .i64 q.count] 73)
  have T0 := IsR.new (w := w.alloc (.cells #[.string ⟨r.word.toArray⟩, .int .i64 r.cost, .int .i64 r.count] 73)) (r := q)
  have hz : (w.alloc (.cells #[.string ⟨r.word.toArray⟩, .int .i64 r.cost, .int .i64 r.count] 73)).heap.size = w.heap.size + 1 := by simp
  rw [hz] at T0
  have q0 : Below w.heap.size w ((w.alloc (.cells #[.string ⟨r.word.toArray⟩, .int .i64 r.cost, .int .i64 r.count] 73)).alloc (.cells #[.string ⟨q.word.toArray⟩, .int .i64 q.cost, .int .i64 q.count] 73)) := by go_grown
  clear hz
  go_enter Tryd.func107, Tryd.ntmps107
  go_wp2_with (go_at_call 126; fail)
  refine (HE.out _).mono ?_
  rintro x w1 ⟨rfl, hb1⟩
  have S1 := isR_to hb1 S0 rfl
  have T1 := isR_to hb1 T0 rfl
  have q1 := below_to hb1 q0 q0.size rfl rfl rfl rfl
  clear hb1 S0 T0 q0
  by_cases he : e = 0
  · have e0 : (e != 0) = false := by rw [he]; rfl
    have HWe := hide (HW.out he)
    have HR := hide (show res = z from by rw [HV.out, if_neg (by omega)])
    clear he
    obtain ⟨l0, ⟨a0, a1, a2⟩, -⟩ := S1.all
    obtain ⟨l1, ⟨b0, b1, b2⟩, -⟩ := T1.all
    go_wp2_with (go_at_call 129; fail)
    refine (HWe.out _).mono ?_
    rintro x w2 ⟨rfl, hb2⟩
    have q2 := below_to hb2 q1 q1.size rfl rfl rfl rfl
    go_wp2
    go_returns
    exact ⟨ret_int HR.out.symm, q2⟩
  · have e0 : (e != 0) = true := by simpa using he
    have HR := hide (show res = e from by rw [HV.out, if_pos he])
    clear he
    go_wp2
    go_returns
    exact ⟨ret_int HR.out.symm, q1⟩

theorem bSet3 {B b : Nat} {a w : World} (h : Below B a w) (hb : B ≤ b) (u0 u1 u2 : Value) : Below B a (((w.setCell ⟨b, 0, none⟩ u0).setCell ⟨b, 1, none⟩ u1).setCell ⟨b, 2, none⟩ u2) := ((h.setCell hb _).setCell hb _).setCell hb _
theorem IsR.set2 {w : World} {b : Nat} {r : Rt} (h : IsR w b r) (z : Int) : IsR (w.setCell ⟨b, 2, none⟩ (.int .i64 z)) b ⟨r.word, r.cost, z⟩ := by
  have h0 := cells_set h 2 (by simp) (.int .i64 z)
  simpa [IsR] using h0
/-- Two routes to one state, joined. -/
def joinR (o n : Rt) : Rt := if o.count = 0 ∨ effI n o < 0 then n else if effI n o = 0 then ⟨o.word, o.cost, wrap64 (o.count + n.count)⟩ else o
set_option maxHeartbeats 1600000 in
theorem joinedRoutes_any (o n : Rt) (w : World) : Calls Tryd.prog 101 #[Rt.v o, Rt.v n] w fun x w' => x = .returned (Rt.v (joinR o n)) ∧ Below w.heap.size w w' := by
  have HE := hide (fun wx => compareEfforts_any n o wx)
  have HV := hide (show joinR o n = if o.count = 0 ∨ effI n o < 0 then n else if effI n o = 0 then ⟨o.word, o.cost, wrap64 (o.count + n.count)⟩ else o from rfl)
  generalize effI n o = e at HE HV
  generalize joinR o n = res at HV ⊢
  have S0 := ((IsR.new (w := w) (r := o)).alloc (.cells #[.string ⟨n.word.toArray⟩, .int .i64 n.cost, .int .i64 n.count] 73)).alloc (.cells #[.string ⟨#[]⟩, .int .i64 0, .int .i64 0] 73)
  have T0 := (IsR.new (w := w.alloc (.cells #[.string ⟨o.word.toArray⟩, .int .i64 o.cost, .int .i64 o.count] 73)) (r := n)).alloc (.cells #[.string ⟨#[]⟩, .int .i64 0, .int .i64 0] 73)
  have Z0 := IsR.new (w := (w.alloc (.cells #[.string ⟨o.word.toArray⟩, .int .i64 o.cost, .int .i64 o.count] 73)).alloc (.cells #[.string ⟨n.word.toArray⟩, .int .i64 n.cost, .int .i64 n.count] 73)) (r := zeroR)
  have hz : (w.alloc (.cells #[.string ⟨o.word.toArray⟩, .int .i64 o.cost, .int .i64 o.count] 73)).heap.size = w.heap.size + 1 := by simp
  have hz2 : ((w.alloc (.cells #[.string ⟨o.word.toArray⟩, .int .i64 o.cost, .int .i64 o.count] 73)).alloc (.cells #[.string ⟨n.word.toArray⟩, .int .i64 n.cost, .int .i64 n.count] 73)).heap.size = w.heap.size + 1 + 1 := by simp
  rw [hz] at T0
  rw [hz2] at Z0
  have q0 : Below w.heap.size w (((w.alloc (.cells #[.string ⟨o.word.toArray⟩, .int .i64 o.cost, .int .i64 o.count] 73)).alloc (.cells #[.string ⟨n.word.toArray⟩, .int .i64 n.cost, .int .i64 n.count] 73)).alloc (.cells #[.string ⟨#[]⟩, .int .i64 0, .int .i64 0] 73)) := by go_grown
  clear hz hz2
  go_enter Tryd.func101, Tryd.ntmps101
  go_wp2_with (go_at_call 126; fail)
  refine (HE.out _).mono ?_
  rintro x w1 ⟨rfl, hb1⟩
  have S1 := isR_to hb1 S0 rfl
  have T1 := isR_to hb1 T0 rfl
  have Z1 := isR_to hb1 Z0 rfl
  have q1 := below_to hb1 q0 q0.size rfl rfl rfl rfl
  clear hb1 S0 T0 q0 Z0
  obtain ⟨l0, ⟨a0, a1, a2⟩, f0, f1, f2⟩ := S1.all
  obtain ⟨l1, ⟨b0, b1, b2⟩, -⟩ := T1.all
  obtain ⟨l2, ⟨c0, c1, c2⟩, g0, g1, g2⟩ := Z1.all
  by_cases h0 : o.count = 0
  · have e0 : (o.count == 0) = true := by simpa using h0
    have HR := hide (show res = n from by rw [HV.out, if_pos (.inl h0)])
    clear h0
    go_wp2
    refine bodyPost_ret (ret_route Tryd.results101 rfl (Z1.set3 n)) rfl ⟨by rw [HR.out], ?_⟩
    exact bSet3 q1 (by omega) _ _ _
  · have e0 : (o.count == 0) = false := by simpa using h0
    by_cases h1 : e < 0
    · have HR := hide (show res = n from by rw [HV.out, if_pos (.inr h1)])
      clear h0
      go_wp2
      refine bodyPost_ret (ret_route Tryd.results101 rfl (Z1.set3 n)) rfl ⟨by rw [HR.out], ?_⟩
      exact bSet3 q1 (by omega) _ _ _
    · by_cases h2 : e = 0
      · have e1 : (e == 0) = true := by simpa using h2
        have HR := hide (show res = ⟨o.word, o.cost, wrap64 (o.count + n.count)⟩ from by rw [HV.out, if_neg (by omega), if_pos h2])
        clear h0 h2
        go_upto_region 6 with (fail)
        have S2 := S1.set2 (wrap64 (o.count + n.count))
        have Z2 := Z1.other (p := ⟨w.heap.size, 2, none⟩) (by show w.heap.size + 1 + 1 ≠ w.heap.size; omega) (.int .i64 (wrap64 (o.count + n.count)))
        have q2 := q1.setCell (p := ⟨w.heap.size, 2, none⟩) (Nat.le_refl _) (.int .i64 (wrap64 (o.count + n.count)))
        clear l0 a0 a1 a2 f0 f1 f2 l1 b0 b1 b2 l2 c0 c1 c2 g0 g1 g2
        generalize wrap64 (o.count + n.count) = z at HR S2 Z2 q2 ⊢
        generalize w1.setCell ⟨w.heap.size, 2, none⟩ (.int .i64 z) = w2 at S2 Z2 q2 ⊢
        generalize (Rt.mk o.word o.cost z) = r2 at S2 HR ⊢
        obtain ⟨l0, ⟨a0, a1, a2⟩, -⟩ := S2.all
        obtain ⟨l2, ⟨c0, c1, c2⟩, g0, g1, g2⟩ := Z2.all
        go_wp2
        refine bodyPost_ret (ret_route Tryd.results101 rfl (Z2.set3 r2)) rfl ⟨by rw [HR.out], ?_⟩
        exact bSet3 q2 (by omega) _ _ _
      · have e1 : (e == 0) = false := by simpa using h2
        have HR := hide (show res = o from by rw [HV.out, if_neg (by omega), if_neg h2])
        clear h0 h2
        go_wp2
        refine bodyPost_ret (ret_route Tryd.results101 rfl (Z1.set3 o)) rfl ⟨by rw [HR.out], ?_⟩
        exact bSet3 q1 (by omega) _ _ _
end Go.Proofs.YthdkhikkdcjifaaDoor
