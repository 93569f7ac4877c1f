/- The walk of the law of CanRoll. -/
import Derived.Test.YtckajjocpheakaaDoorWalksU
import Derived.Test.YtckajjocpheakaaDoorMovesG
namespace Go.Proofs.YtckajjocpheakaaDoor
set_option maxRecDepth 100000
set_option linter.all false
open Go.RowKit

def cnB (l : List UInt8) (s : St) : Bool := isBd l && stL l s
def cnS (l : List UInt8) (s : St) : ByteArray := if cnB l s = true then ⟨(canW l s 4).toArray⟩ else ⟨#[]⟩
theorem specCan_any (s : ByteArray) (t : St) (w : World) (hs : s.size ≤ 1048576) : Calls Tryd.prog 13 #[.string s, St.v t] w fun e w' => e = .returned (.tuple #[.string (cnS s.data.toList t), .bool (cnB s.data.toList t)]) ∧ Below w.heap.size w w' := by
  cases h : isBd s.data.toList
  · have e : cnB s.data.toList t = false := by unfold cnB; rw [h]; rfl
    unfold cnS
    rw [e, if_neg (by decide)]
    exact specCan_bad s t w hs h
  · cases h2 : stL s.data.toList t
    · have e : cnB s.data.toList t = false := by unfold cnB; rw [h, h2]; rfl
      unfold cnS
      rw [e, if_neg (by decide)]
      exact specCan_off s t w hs h h2
    · have e : cnB s.data.toList t = true := by unfold cnB; rw [h, h2]; rfl
      unfold cnS
      rw [e, if_pos rfl]
      exact specCan_on s t w hs h h2
theorem implCan_any (s : ByteArray) (t : St) (w : World) (hs : s.size ≤ 1048576) (hg : Glob w) : Calls Tryd.prog 15 #[.string s, St.v t] w fun e w' => e = .returned (.tuple #[.string (cnS s.data.toList t), .bool (cnB s.data.toList t)]) ∧ Below w.heap.size w w' := by
  cases h : isBd s.data.toList
  · have e : cnB s.data.toList t = false := by unfold cnB; rw [h]; rfl
    unfold cnS
    rw [e, if_neg (by decide)]
    exact implCan_bad s t w hs hg h
  · cases h2 : stL s.data.toList t
    · have e : cnB s.data.toList t = false := by unfold cnB; rw [h, h2]; rfl
      unfold cnS
      rw [e, if_neg (by decide)]
      exact implCan_off s t w hs hg h h2
    · have e : cnB s.data.toList t = true := by unfold cnB; rw [h, h2]; rfl
      unfold cnS
      rw [e, if_pos rfl]
      exact implCan_on s t w hs hg h h2

set_option maxHeartbeats 1600000 in
theorem walk_CanRoll (v : ByteArray) (hv : v.size ≤ maxLen) (t : St) (htx : (Lit.int .i64 t.x).wf = true) (hty : (Lit.int .i64 t.y).wf = true) (w : World) (hg : Glob w) : Calls Tryd.prog 3 #[.string v, St.v t] w fun e w' => e = .returned (.bool true) ∧ Below w.heap.size w w' := by
  have HGL := hide hg
  clear hg
  by_cases h0 : v.size ≤ 1048576
  · have HS0 := hide h0
    go_enter Tryd.func3, Tryd.ntmps3
    go_wp2_with fail
    refine (toState_any t _).mono ?_
    rintro e w1 ⟨rfl, hb1⟩
    have u1 := isS_to hb1 (IsS.new (w := w) (s := t) (ty := 25)) rfl
    have q1 : Below w.heap.size w w1 := below_after (by go_grown) hb1 (by simp)
    clear hb1
    go_wp2_with fail
    refine (specCan_any v t _ HS0.out).mono ?_
    rintro e w2 ⟨rfl, hb2⟩
    have u2 := isS_to hb2 u1 rfl
    have q2 := below_to hb2 q1 q1.size rfl rfl rfl rfl
    clear hb2 u1 q1
    generalize hz0 : cnS v.data.toList t = z0
    have HZ0 := hide hz0
    clear hz0
    generalize hz1 : cnB v.data.toList t = z1
    have HZ1 := hide hz1
    clear hz1
    obtain ⟨l1, ⟨c0, c1, c2, c3, c4, c5, c6, c7⟩, -⟩ := u2.all
    go_wp2_with fail
    clear c0 c1 c2 c3 c4 c5 c6 c7 l1
    refine (toState_any t _).mono ?_
    rintro e w3 ⟨rfl, hb3⟩
    have q3 := below_to hb3 q2 q2.size rfl rfl rfl rfl
    have hg3 := hide (show Glob w3 from by
      have hl := HGL.out.lt
      obtain ⟨m, hm⟩ := HGL.out
      exact ⟨m, (q3.cell (p := ⟨0, 0, none⟩) hl).trans hm⟩)
    clear hb3 u2 q2
    go_wp2_with fail
    refine (implCan_any v t _ HS0.out hg3.out).mono ?_
    rintro e w4 ⟨rfl, hb4⟩
    rw [HZ0.out, HZ1.out]
    have q4 := below_to hb4 q3 q3.size rfl rfl rfl rfl
    have e0 : (z0.toList != z0.toList) = false := by simp
    have e1 : (z1 != z1) = false := by simp
    go_wp2
    go_returns
    exact ⟨rfl, q4⟩
  · go_enter Tryd.func3, Tryd.ntmps3
    go_wp2
    go_returns
    exact ⟨rfl, by go_grown⟩
end Go.Proofs.YtckajjocpheakaaDoor
