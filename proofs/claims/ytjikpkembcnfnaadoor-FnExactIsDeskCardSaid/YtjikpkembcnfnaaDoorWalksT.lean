/- The walks of the laws of CountFloor and IsState. -/
import Derived.Test.YtjikpkembcnfnaaDoorWalksQ
import Derived.Test.YtjikpkembcnfnaaDoorStates
namespace Go.Proofs.YtjikpkembcnfnaaDoor
set_option maxRecDepth 100000
set_option linter.all false
open Go.RowKit

/-! ### CountFloor -/
theorem count_split : ∀ (l : List UInt8), (splitP l).flatten.count 46 = l.count 46
  | [] => rfl
  | c :: l => by
    have ih := count_split l
    unfold splitP
    split
    · rename_i h
      subst h
      rw [List.flatten_cons, List.nil_append, ih]
      simp
    · obtain ⟨r, rs, hr⟩ := splitP_cons l
      rw [hr] at ih ⊢
      simp only [consHead, List.flatten_cons, List.cons_append] at ih ⊢
      rw [List.count_cons, List.count_cons, ih]
def cfS (l : List UInt8) : Int := if isBd l = true then ((l.count 46 : Nat) : Int) else 0
theorem count_snoc46 (L : List UInt8) (k : Nat) (c : UInt8) (h : L[k]? = some c) : (L.take (k + 1)).count 46 = (L.take k).count 46 + (if (c.toNat : Int) = 46 then 1 else 0) := by
  rw [List.take_add_one, h, List.count_append]
  congr 1
  by_cases hc : (c.toNat : Int) = 46
  · have : c = 46 := by apply UInt8.toNat_inj.1; show c.toNat = 46; omega
    subst this
    rfl
  · have : c ≠ 46 := fun e => hc (by rw [e]; rfl)
    rw [if_neg hc]
    simp [this]
theorem count46_any (s : ByteArray) (n : Nat) (h : s.data.toList.count 46 = n) (w : World) : Calls Tryd.prog 138 #[.string s, .string ⟨#[46]⟩] w fun e w' => e = .returned (.int .i64 (n : Int)) ∧ w = w' :=
  (Tryd.strings_Count_one s 46 w).mono fun e w' h2 => ⟨h2.1.trans (by rw [← h]; rfl), h2.2.symm⟩
set_option maxHeartbeats 800000 in
theorem implIsState_any (s : ByteArray) (t : St) (w : World) (hs : s.size ≤ 1048576) (hg : Glob w) : Calls Tryd.prog 35 #[.string s, St.v t] w fun e w' => e = .returned (.tuple #[.bool (isBd s.data.toList && stL s.data.toList t), .bool (isBd s.data.toList)]) ∧ Below w.heap.size w w' := by
  have HG := hide (show Glob (w.alloc (.cells #[.int .i64 t.x, .int .i64 t.y, .int .i64 t.d.t, .int .i64 t.d.n, .int .i64 t.d.e, .int .i64 t.d.s, .int .i64 t.d.w, .int .i64 t.d.b] 32)) from glob_to (w0 := w) ((Below.refl _ _).alloc (Nat.le_refl _) _) hg rfl)
  clear hg
  cases h : isBd s.data.toList
  · have H := hide h
    clear h
    rw [Bool.false_and]
    go_enter Tryd.func35, Tryd.ntmps35
    go_wp2_with fail
    refine (rowsOf_no s _ hs HG.out H.out).mono ?_
    rintro e w1 ⟨rfl, hb1⟩
    have q1 : Below w.heap.size w w1 := below_after (by go_grown) hb1 (by simp)
    go_wp2
    go_returns
    exact ⟨rfl, q1⟩
  · have H := hide h
    clear h
    rw [Bool.true_and]
    generalize hst : stL s.data.toList t = st
    have HST := hide hst
    clear hst
    go_enter Tryd.func35, Tryd.ntmps35
    go_wp2_with fail
    refine (rowsOf_yes s _ hs HG.out H.out).mono ?_
    rintro e w1 ⟨rfl, ha, hb1⟩
    simp only [World.size_alloc] at ha
    have u1 := isS_to hb1 (IsS.new (s := t) (ty := 32)) rfl
    have q1 : Below w.heap.size w w1 := below_after (by go_grown) hb1 (by simp)
    have HA := hide ha
    obtain ⟨l1, ⟨c0, c1, c2, c3, c4, c5, c6, c7⟩, -⟩ := u1.all
    clear hb1 u1 ha
    go_wp2_with fail
    clear c0 c1 c2 c3 c4 c5 c6 c7 l1
    refine (isStateOn_any s _ t _ hs H.out HA.out).mono ?_
    rintro e w2 ⟨rfl, hb2⟩
    rw [HST.out]
    have q2 := below_to hb2 q1 q1.size rfl rfl rfl rfl
    go_wp2
    go_returns
    exact ⟨rfl, q2⟩

end Go.Proofs.YtjikpkembcnfnaaDoor
