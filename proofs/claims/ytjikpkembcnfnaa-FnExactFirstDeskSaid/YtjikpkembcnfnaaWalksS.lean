/- The walk of the law of ParseDie. -/
import Derived.Test.YtjikpkembcnfnaaWalksR
import Derived.OwnWalk
namespace Go.Proofs.Ytjikpkembcnfnaa
set_option maxRecDepth 100000
set_option linter.all false
open Go.RowKit

/-- The number of a digit's byte. -/
def dv (c : UInt8) : Int := (c.toNat : Int) - 48
/-- The die with a text, if it has six digits. -/
def pdD (l : List UInt8) : D := ⟨dv (l.getD 0 0), dv (l.getD 1 0), dv (l.getD 2 0), dv (l.getD 3 0), dv (l.getD 4 0), dv (l.getD 5 0)⟩
def okP (l : List UInt8) : Bool := decide (l.length = 6) && goodB (pdD l)
def pdS (l : List UInt8) : D := if okP l = true then pdD l else zeroD
def digB (c : UInt8) : Bool := decide (48 ≤ (c.toNat : Int) ∧ (c.toNat : Int) ≤ 57)
theorem good_digits {l : List UInt8} (h : l.length = 6) : goodB (pdD l) = true ↔ ∀ (j : Nat) (c : UInt8), l[j]? = some c → digB c = true := by
  match l, h with
  | [a, b, c, d, e, f], _ =>
    constructor
    · intro hg j x hx
      have hh := good_bounds hg
      simp only [pdD, dv, List.getD, List.getElem?_cons_zero, List.getElem?_cons_succ, Option.getD_some] at hh
      unfold digB
      apply decide_eq_true
      match j, hx with
      | 0, hx => simp at hx; subst hx; omega
      | 1, hx => simp at hx; subst hx; omega
      | 2, hx => simp at hx; subst hx; omega
      | 3, hx => simp at hx; subst hx; omega
      | 4, hx => simp at hx; subst hx; omega
      | 5, hx => simp at hx; subst hx; omega
      | n + 6, hx => simp at hx
    · intro hall
      have h0 := of_decide_eq_true (hall 0 a rfl)
      have h1 := of_decide_eq_true (hall 1 b rfl)
      have h2 := of_decide_eq_true (hall 2 c rfl)
      have h3 := of_decide_eq_true (hall 3 d rfl)
      have h4 := of_decide_eq_true (hall 4 e rfl)
      have h5 := of_decide_eq_true (hall 5 f rfl)
      unfold goodB
      apply decide_eq_true
      simp only [pdD, dv, List.getD, List.getElem?_cons_zero, List.getElem?_cons_succ, Option.getD_some]
      omega
theorem bad_digit {l : List UInt8} (h : l.length = 6) {j : Nat} {c : UInt8} (hc : l[j]? = some c) (hd : digB c = false) : okP l = false := by
  unfold okP
  rw [Bool.and_eq_false_iff]
  right
  rw [Bool.eq_false_iff]
  intro hg
  rw [(good_digits h).1 hg j c hc] at hd
  cases hd
theorem byte_at (s : ByteArray) (k : Nat) (h : k < s.size) : s.data.toList[k]? = some s[k] := by simp [ByteArray.getElem_eq_getElem_data, h]

theorem info_int : (Try.prog.info? 3).map (fun i => (i.zero, i.size, i.bytes)) = some (some (.int .i64 0), 1, 8) := by kernel_rfl
/-- The numbers that have been read, as cells. -/
def dvV (l : List UInt8) : List Value := l.map fun c => .int .i64 (dv c)
theorem own_formS {w : World} {base : Nat} {e : TypeId} {size : Nat} {v : Value} {n : Nat} {xs : List Value} (h : w.ownsRow base e size v n xs) (hn : 0 < n) :
    ∃ g cap, v = .slice (some ⟨g, 0, none⟩) n cap ∧ base ≤ g ∧ g < w.heap.size := by
  rcases h.2 with ⟨_, h0⟩ | ⟨g, cap, cur, hv, hb, hg, _⟩
  · omega
  · refine ⟨g, cap, hv, hb, ?_⟩
    rcases Nat.lt_or_ge g w.heap.size with hlt | hge
    · exact hlt
    · rw [Array.getElem?_eq_none hge] at hg; cases hg
theorem IsD.keptS {w w1 : World} {b : Nat} {d : D} {ty : TypeId} {row : Option Nat} (h : IsD w b d ty) (hg : w.grownBy w1 row) (hne : some b ≠ row) : IsD w1 b d ty := (hg.block b h.lt hne).trans h

theorem implParse_len (s : ByteArray) (w : World) (h : s.size ≠ 6) (hs : s.size ≤ maxLen) : Calls Try.prog 8 #[.string s] w fun e w' => e = .returned (.tuple #[D.v (pdS s.data.toList), .bool (okP s.data.toList)]) ∧ Below w.heap.size w w' := by
  have HO := hide (show okP s.data.toList = false from by unfold okP; rw [decide_eq_false (by simpa using h)]; rfl)
  have HS := hide (show pdS s.data.toList = zeroD from by unfold pdS; rw [HO.out]; rfl)
  rw [HO.out, HS.out]
  have q1 : ((s.size : Int) != 6) = true := bne_iff_ne.2 (by omega)
  have q2 : ((s.size : Int) == 6) = false := beq_eq_false_iff_ne.2 (by omega)
  clear h
  go_enter Try.func8, Try.ntmps8
  go_wp2
  go_returns
  exact ⟨rfl, by go_grown⟩
set_option maxHeartbeats 1600000 in
theorem implParse_six (s : ByteArray) (w : World) (h : s.size = 6) : Calls Try.prog 8 #[.string s] w fun e w' => e = .returned (.tuple #[D.v (pdS s.data.toList), .bool (okP s.data.toList)]) ∧ Below w.heap.size w w' := by
  have q1 : ((s.size : Int) != 6) = false := by rw [h]; rfl
  have q2 : ((s.size : Int) == 6) = true := by rw [h]; rfl
  have n0 : 0 < s.size := by omega
  have b0 : (s[0].toNat : Int) ≤ 255 := by have := s[0].toNat_lt; omega
  have n1 : 1 < s.size := by omega
  have b1 : (s[1].toNat : Int) ≤ 255 := by have := s[1].toNat_lt; omega
  have n2 : 2 < s.size := by omega
  have b2 : (s[2].toNat : Int) ≤ 255 := by have := s[2].toNat_lt; omega
  have n3 : 3 < s.size := by omega
  have b3 : (s[3].toNat : Int) ≤ 255 := by have := s[3].toNat_lt; omega
  have n4 : 4 < s.size := by omega
  have b4 : (s[4].toNat : Int) ≤ 255 := by have := s[4].toNat_lt; omega
  have n5 : 5 < s.size := by omega
  have b5 : (s[5].toNat : Int) ≤ 255 := by have := s[5].toNat_lt; omega
  have HD := hide (show pdD s.data.toList = ⟨(s[0].toNat : Int) - 48, (s[1].toNat : Int) - 48, (s[2].toNat : Int) - 48, (s[3].toNat : Int) - 48, (s[4].toNat : Int) - 48, (s[5].toNat : Int) - 48⟩ from by
    unfold pdD dv
    simp only [List.getD, byte_at s 0 (by omega), byte_at s 1 (by omega), byte_at s 2 (by omega), byte_at s 3 (by omega), byte_at s 4 (by omega), byte_at s 5 (by omega), Option.getD_some])
  have HL := hide (show okP s.data.toList = goodB (pdD s.data.toList) from by unfold okP; rw [decide_eq_true (by simpa using h)]; rfl)
  have HS := hide (show pdS s.data.toList = if okP s.data.toList = true then pdD s.data.toList else zeroD from rfl)
  generalize hps : pdS s.data.toList = ps at HS
  generalize hok : okP s.data.toList = ok at HL HS
  clear hps hok h
  go_enter Try.func8, Try.ntmps8
  go_wp2
  refine wp_loop_rounds 7 ?_
  repeat any_goals (rw [rounds_succ]; go_wp2_with fail)
  refine (dieOf_any ⟨(s[0].toNat : Int) - 48, (s[1].toNat : Int) - 48, (s[2].toNat : Int) - 48, (s[3].toNat : Int) - 48, (s[4].toNat : Int) - 48, (s[5].toNat : Int) - 48⟩ _).mono ?_
  rw [← HD.out]
  generalize hpd : pdD s.data.toList = d at HD HL HS
  rintro e w1 ⟨rfl, hb1⟩
  have D1 := isD_to hb1 ((IsD.new (w := w) (d := zeroD) (ty := 23)).alloc _) rfl
  have B1 : Below w.heap.size w w1 := below_after (by go_grown) hb1 (by simp; omega)
  clear hb1 HD b0 b1 b2 b3 b4 b5
  have D1a := D1.alloc (.cells #[.int .i64 d.t, .int .i64 d.n, .int .i64 d.e, .int .i64 d.s, .int .i64 d.w, .int .i64 d.b] 23)
  have E1 := IsD.new (w := w1) (d := d) (ty := 23)
  have B1a := B1.alloc B1.size (.cells #[.int .i64 d.t, .int .i64 d.n, .int .i64 d.e, .int .i64 d.s, .int .i64 d.w, .int .i64 d.b] 23)
  go_wp2_with fail
  refine (isDie_any d _).mono ?_
  rintro e w2 ⟨rfl, hb2⟩
  have D2 := isD_to hb2 D1a rfl
  have E2 := isD_to hb2 E1 rfl
  have B2 := below_to hb2 B1a B1a.size rfl rfl rfl rfl
  clear hb2 D1 D1a E1 B1 B1a
  obtain ⟨l1, ⟨c0, c1, c2, c3, c4, c5⟩, f0, f1, f2, f3, f4, f5⟩ := D2.all
  cases hg : goodB d
  · have HR := hide (show ps = zeroD ∧ ok = false from by
      have h1 := HL.out
      have h2 := HS.out
      rw [hg] at h1
      subst h1
      exact ⟨by rw [h2]; rfl, rfl⟩)
    clear hg
    go_wp2
    refine bodyPost_ret (ret_die2 Try.results8 rfl rfl (D2.set6 ⟨0, 0, 0, 0, 0, 0⟩)) rfl ⟨by rw [HR.out.1, HR.out.2]; rfl, below_set6 B2 (Nat.le_refl _) ⟨0, 0, 0, 0, 0, 0⟩⟩
  · have HR := hide (show ps = d ∧ ok = true from by
      have h1 := HL.out
      have h2 := HS.out
      rw [hg] at h1
      subst h1
      exact ⟨by rw [h2]; rfl, rfl⟩)
    obtain ⟨l2, ⟨d0, d1, d2, d3, d4, d5⟩, -⟩ := E2.all
    clear hg
    go_wp2
    refine bodyPost_ret (ret_die2 Try.results8 rfl rfl (D2.set6 d)) rfl ⟨by rw [HR.out.1, HR.out.2], below_set6 B2 (Nat.le_refl _) d⟩
theorem implParse_any (s : ByteArray) (w : World) (hs : s.size ≤ maxLen) : Calls Try.prog 8 #[.string s] w fun e w' => e = .returned (.tuple #[D.v (pdS s.data.toList), .bool (okP s.data.toList)]) ∧ Below w.heap.size w w' := by
  by_cases h : s.size = 6
  · exact implParse_six s w h
  · exact implParse_len s w h hs

end Go.Proofs.Ytjikpkembcnfnaa
