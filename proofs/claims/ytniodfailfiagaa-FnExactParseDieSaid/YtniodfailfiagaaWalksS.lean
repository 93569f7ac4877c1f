/- The walk of the law of ParseDie. -/
import Derived.Test.YtniodfailfiagaaWalksR
import Derived.OwnWalk
namespace Go.Proofs.Ytniodfailfiagaa
set_option maxRecDepth 100000
open Go.RowKit

/-- The number of a digit's byte. -/
def dv (c : UInt8) : Int := (c.toNat : Int) - 48
/-- The die with a text, if it has six digits. -/
def pdD (l : List UInt8) : D := ⟨dv (l.getD 0 0), dv (l.getD 1 0), dv (l.getD 2 0), dv (l.getD 3 0), dv (l.getD 4 0), dv (l.getD 5 0)⟩
def okP (l : List UInt8) : Bool := decide (l.length = 6) && goodB (pdD l)
def pdS (l : List UInt8) : D := if okP l = true then pdD l else zeroD
def digB (c : UInt8) : Bool := decide (48 ≤ (c.toNat : Int) ∧ (c.toNat : Int) ≤ 57)
theorem good_digits {l : List UInt8} (h : l.length = 6) : goodB (pdD l) = true ↔ ∀ (j : Nat) (c : UInt8), l[j]? = some c → digB c = true := by
  match l, h with
  | [a, b, c, d, e, f], _ =>
    constructor
    · intro hg j x hx
      have hh := good_bounds hg
      simp only [pdD, dv, List.getD, List.getElem?_cons_zero, List.getElem?_cons_succ, Option.getD_some] at hh
      unfold digB
      apply decide_eq_true
      match j, hx with
      | 0, hx => simp at hx; subst hx; omega
      | 1, hx => simp at hx; subst hx; omega
      | 2, hx => simp at hx; subst hx; omega
      | 3, hx => simp at hx; subst hx; omega
      | 4, hx => simp at hx; subst hx; omega
      | 5, hx => simp at hx; subst hx; omega
      | n + 6, hx => simp at hx
    · intro hall
      have h0 := of_decide_eq_true (hall 0 a rfl)
      have h1 := of_decide_eq_true (hall 1 b rfl)
      have h2 := of_decide_eq_true (hall 2 c rfl)
      have h3 := of_decide_eq_true (hall 3 d rfl)
      have h4 := of_decide_eq_true (hall 4 e rfl)
      have h5 := of_decide_eq_true (hall 5 f rfl)
      unfold goodB
      apply decide_eq_true
      simp only [pdD, dv, List.getD, List.getElem?_cons_zero, List.getElem?_cons_succ, Option.getD_some]
      omega
theorem bad_digit {l : List UInt8} (h : l.length = 6) {j : Nat} {c : UInt8} (hc : l[j]? = some c) (hd : digB c = false) : okP l = false := by
  unfold okP
  rw [Bool.and_eq_false_iff]
  right
  rw [Bool.eq_false_iff]
  intro hg
  rw [(good_digits h).1 hg j c hc] at hd
  cases hd
theorem byte_at (s : ByteArray) (k : Nat) (h : k < s.size) : s.data.toList[k]? = some s[k] := by simp [ByteArray.getElem_eq_getElem_data, h]

theorem info_int : (Try.prog.info? 3).map (fun i => (i.zero, i.size, i.bytes)) = some (some (.int .i64 0), 1, 8) := by kernel_rfl
/-- The numbers that have been read, as cells. -/
def dvV (l : List UInt8) : List Value := l.map fun c => .int .i64 (dv c)
theorem own_formS {w : World} {base : Nat} {e : TypeId} {size : Nat} {v : Value} {n : Nat} {xs : List Value} (h : w.ownsRow base e size v n xs) (hn : 0 < n) :
    ∃ g cap, v = .slice (some ⟨g, 0, none⟩) n cap ∧ base ≤ g ∧ g < w.heap.size := by
  rcases h.2 with ⟨_, h0⟩ | ⟨g, cap, cur, hv, hb, hg, _⟩
  · omega
  · refine ⟨g, cap, hv, hb, ?_⟩
    rcases Nat.lt_or_ge g w.heap.size with hlt | hge
    · exact hlt
    · rw [Array.getElem?_eq_none hge] at hg; cases hg
theorem IsD.keptS {w w1 : World} {b : Nat} {d : D} {ty : TypeId} {row : Option Nat} (h : IsD w b d ty) (hg : w.grownBy w1 row) (hne : some b ≠ row) : IsD w1 b d ty := (hg.block b h.lt hne).trans h

theorem diParse_len (s : ByteArray) (w : World) (h : s.size ≠ 6) (hs : s.size ≤ maxLen) : Calls Try.prog 46 #[.string s] w fun e w' => e = .returned (.tuple #[D.v (pdS s.data.toList), .bool (okP s.data.toList)]) ∧ Below w.heap.size w w' := by
  have HO := hide (show okP s.data.toList = false from by unfold okP; rw [decide_eq_false (by simpa using h)]; rfl)
  have HS := hide (show pdS s.data.toList = zeroD from by unfold pdS; rw [HO.out]; rfl)
  rw [HO.out, HS.out]
  have q1 : ((s.size : Int) != 6) = true := bne_iff_ne.2 (by omega)
  have q2 : ((s.size : Int) == 6) = false := beq_eq_false_iff_ne.2 (by omega)
  clear h
  go_enter Try.func46, Try.ntmps46
  go_wp2
  go_returns
  exact ⟨rfl, by go_grown⟩

set_option maxHeartbeats 1600000 in
theorem diParse_six (s : ByteArray) (w : World) (h : s.size = 6) : Calls Try.prog 46 #[.string s] w fun e w' => e = .returned (.tuple #[D.v (pdS s.data.toList), .bool (okP s.data.toList)]) ∧ Below w.heap.size w w' := by
  have q1 : ((s.size : Int) != 6) = false := by rw [h]; rfl
  have q2 : ((s.size : Int) == 6) = true := by rw [h]; rfl
  have hle : 6 ≤ s.size := by omega
  have hle2 : s.size ≤ 6 := by omega
  have HL := hide (show s.data.toList.length = 6 from by simpa using h)
  obtain ⟨i0, hi, hz0, hz1, hz2⟩ := info_parts info_int
  have HI := hide hi
  have HZ0 := hide hz0
  have HZ1 := hide hz1
  have HZ2 := hide hz2
  clear hi hz0 hz1 hz2 h
  generalize hps : pdS s.data.toList = ps
  have HPS := hide hps
  clear hps
  generalize hok : okP s.data.toList = ok
  have HOK := hide hok
  clear hok
  go_enter Try.func46, Try.ntmps46
  go_wp2
  go_loopw [4, 5] (fun f i wr => ∃ k : Nat, k ≤ 6 ∧ i = .int .i64 (k : Int) ∧ (∀ j c, j < k → s.data.toList[j]? = some c → digB c = true) ∧ wr.ownsRow (w.heap.size + 1) 3 1 f k (dvV (s.data.toList.take k)) ∧ IsD wr w.heap.size zeroD 30 ∧ Below w.heap.size w wr) (fun _ i _ => 6 - (intOf i).toNat)
  case atStart => exact ⟨0, by omega, rfl, fun j c hj => absurd hj (by omega), World.ownsRow_nil _ _ _ _, IsD.new (d := zeroD), by go_grown⟩
  case round =>
    obtain ⟨k, hk, rfl, hall, hown, hD, hb⟩ := hrel
    have HALL := hide hall
    clear hall
    have hsz := hb.size
    by_cases hk6 : k < 6
    · have hlt : k < s.size := by omega
      have hlti : (k : Int) < (s.size : Int) := by omega
      have hc := byte_at s k hlt
      have H1 := hide (show digB s[k] = decide (48 ≤ (s[k].toNat : Int) ∧ (s[k].toNat : Int) ≤ 57) from rfl)
      by_cases h1 : (s[k].toNat : Int) < 48
      · have HB := hide (bad_digit HL.out hc (by rw [H1.out]; exact decide_eq_false (by omega)))
        obtain ⟨l1, ⟨c0, c1, c2, c3, c4, c5⟩, f0, f1, f2, f3, f4, f5⟩ := hD.all
        clear hc hown
        go_wp2
        refine bodyPost_ret (ret_die2 Try.results46 rfl rfl (hD.set6 ⟨0, 0, 0, 0, 0, 0⟩)) rfl ⟨?_, below_set6 hb (Nat.le_refl _) ⟨0, 0, 0, 0, 0, 0⟩⟩
        rw [← HOK.out, ← HPS.out]
        unfold pdS
        rw [HB.out]
        rfl
      · by_cases h2 : (57 : Int) < (s[k].toNat : Int)
        · have HB := hide (bad_digit HL.out hc (by rw [H1.out]; exact decide_eq_false (by omega)))
          obtain ⟨l1, ⟨c0, c1, c2, c3, c4, c5⟩, f0, f1, f2, f3, f4, f5⟩ := hD.all
          have h1' : (48 : Int) ≤ (s[k].toNat : Int) := by omega
          clear hc hown h1
          go_wp2
          refine bodyPost_ret (ret_die2 Try.results46 rfl rfl (hD.set6 ⟨0, 0, 0, 0, 0, 0⟩)) rfl ⟨?_, below_set6 hb (Nat.le_refl _) ⟨0, 0, 0, 0, 0, 0⟩⟩
          rw [← HOK.out, ← HPS.out]
          unfold pdS
          rw [HB.out]
          rfl
        · have h1' : (48 : Int) ≤ (s[k].toNat : Int) := by omega
          have h2' : (s[k].toNat : Int) ≤ 57 := by omega
          have HG := hide (show digB s[k] = true from by rw [H1.out]; exact decide_eq_true ⟨h1', h2'⟩)
          have HC := hide hc
          have HO := hide hown
          have HDD := hide hD
          clear hc h1 h2 hown hD
          go_wp2_with (at_builtin; refine wpList_append_own _ rfl _ _ 73 rfl (w.heap.size + 1) 3 i0 (.int .i64 0) 1 8 Try.underlying73 HI.out HZ0.out HZ1.out HZ2.out rfl (by decide) _ _ _ rfl (HO.out.alloc _) ⟨wr.heap.size, 0, none⟩ 1 1 [.int .i64 ((s[k].toNat : Int) - 48)] rfl rfl ?c1 ?c2 ?c3 ?c4 ?c5 ?_)
          case c1 =>
            intro j u hj
            match j, hj with
            | 0, hj => simp at hj; subst hj; simp [Addr.add, World.cell?_alloc_mark]
          case c2 => intro u hu; simp at hu; subst hu; rfl
          case c3 => unfold maxLen; omega
          case c4 => omega
          case c5 => have := HDD.out.lt; simp; omega
          · intro v' w3 hown3 hg3 _
            have hne : some w.heap.size ≠ Value.ownBlock _ := fun e => by
              have := (HO.out.lt w.heap.size e.symm).1
              omega
            have D3 := hide (((HDD.out).alloc (.cells #[.int .i64 ((s[k].toNat : Int) - 48)] 3)).keptS hg3 hne)
            have B3 := hide ((hb.alloc hsz (.cells #[.int .i64 ((s[k].toNat : Int) - 48)] 3)).grown hg3 (by simp; omega) (fun j hj => by have := (HO.out.lt j hj).1; omega))
            have O3 := hide (show w3.ownsRow (w.heap.size + 1) 3 1 v' (k + 1) (dvV (s.data.toList.take (k + 1))) from by
              have e : dvV (s.data.toList.take (k + 1)) = dvV (s.data.toList.take k) ++ [.int .i64 ((s[k].toNat : Int) - 48)] := by
                rw [List.take_add_one, HC.out]
                simp [dvV, dv]
              rw [e]
              exact hown3)
            have A3 := hide (show ∀ j c, j < k + 1 → s.data.toList[j]? = some c → digB c = true from by
              intro j c hj hc
              by_cases e : j = k
              · subst e
                rw [HC.out] at hc
                cases hc
                exact HG.out
              · exact HALL.out j c (by omega) hc)
            clear hown3 hg3 hne
            go_wp2
            go_roundw
            case rel => exact ⟨k + 1, by omega, by go_num, A3.out, O3.out, D3.out, B3.out⟩
            case measure => simp [intOf] <;> omega
    · have e : k = 6 := by omega
      subst e
      obtain ⟨g, cap, rfl, hgb, hgl⟩ := own_formS hown (by omega)
      have hgood := (good_digits HL.out).2 (fun j c hc => HALL.out j c (by have := (List.getElem?_eq_some_iff.1 hc).1; rw [HL.out] at this; exact this) hc)
      have HOT := hide (show okP s.data.toList = true from by unfold okP; rw [decide_eq_true HL.out, hgood]; rfl)
      have hcell : ∀ j, j < 6 → wr.cell? ⟨g, j, none⟩ = some (.int .i64 (dv (s.data.toList.getD j 0))) := by
        intro j hj
        rw [hown.cellAt j (by omega)]
        rw [List.take_of_length_le (by rw [HL.out]; omega)]
        have : j < s.data.toList.length := by rw [HL.out]; exact hj
        simp only [dvV, List.getElem?_map, List.getD, List.getElem?_eq_getElem this]
        rfl
      have HP := hide (show pdS s.data.toList = pdD s.data.toList from by unfold pdS; rw [HOT.out]; rfl)
      have hDO := hide (diOf_any (pdD s.data.toList) g (cap := cap) wr hgl (hcell 0 (by omega)) (hcell 1 (by omega)) (hcell 2 (by omega)) (hcell 3 (by omega)) (hcell 4 (by omega)) (hcell 5 (by omega)))
      generalize hpd : pdD s.data.toList = d at hDO
      have HPD := hide hpd
      clear hpd hcell hgood hown
      go_wp2_with fail
      refine hDO.out.mono ?_
      rintro e w3 ⟨rfl, hb3⟩
      have D3 := isD_to hb3 hD rfl
      have B3 := below_to hb3 hb hb.size rfl rfl rfl rfl
      obtain ⟨l1, ⟨c0, c1, c2, c3, c4, c5⟩, f0, f1, f2, f3, f4, f5⟩ := D3.all
      clear hb3 hD hb
      go_wp2
      refine bodyPost_ret (ret_die2 Try.results46 rfl rfl (D3.set6 d)) rfl ⟨?_, below_set6 B3 (Nat.le_refl _) d⟩
      rw [← HOK.out, ← HPS.out, HOT.out, HP.out, HPD.out]
theorem diParse_any (s : ByteArray) (w : World) (hs : s.size ≤ maxLen) : Calls Try.prog 46 #[.string s] w fun e w' => e = .returned (.tuple #[D.v (pdS s.data.toList), .bool (okP s.data.toList)]) ∧ Below w.heap.size w w' := by
  by_cases h : s.size = 6
  · exact diParse_six s w h
  · exact diParse_len s w h hs

theorem specParse_any (s : ByteArray) (w : World) (hs : s.size ≤ maxLen) : Calls Try.prog 21 #[.string s] w fun e w' => e = .returned (.tuple #[D.v (pdS s.data.toList), .bool (okP s.data.toList)]) ∧ Below w.heap.size w w' := by
  generalize hps : pdS s.data.toList = ps
  have HPS := hide hps
  clear hps
  generalize hok : okP s.data.toList = ok
  have HOK := hide hok
  clear hok
  go_enter Try.func21, Try.ntmps21
  go_wp2_with fail
  refine (diParse_any s _ hs).mono ?_
  rintro e w1 ⟨rfl, hb1⟩
  rw [HPS.out, HOK.out]
  have D1 := isD_to hb1 (IsD.new (w := w) (d := zeroD) (ty := 30)) rfl
  have B1 : Below w.heap.size w w1 := below_after (by go_grown) hb1 (by simp)
  obtain ⟨l1, ⟨c0, c1, c2, c3, c4, c5⟩, f0, f1, f2, f3, f4, f5⟩ := D1.all
  go_wp2
  refine bodyPost_ret (ret_die2 Try.results21 rfl rfl (D1.set6 ps)) rfl ⟨rfl, below_set6 B1 (Nat.le_refl _) ps⟩

theorem implParse_len (s : ByteArray) (w : World) (h : s.size ≠ 6) (hs : s.size ≤ maxLen) : Calls Try.prog 22 #[.string s] w fun e w' => e = .returned (.tuple #[D.v (pdS s.data.toList), .bool (okP s.data.toList)]) ∧ Below w.heap.size w w' := by
  have HO := hide (show okP s.data.toList = false from by unfold okP; rw [decide_eq_false (by simpa using h)]; rfl)
  have HS := hide (show pdS s.data.toList = zeroD from by unfold pdS; rw [HO.out]; rfl)
  rw [HO.out, HS.out]
  have q1 : ((s.size : Int) != 6) = true := bne_iff_ne.2 (by omega)
  have q2 : ((s.size : Int) == 6) = false := beq_eq_false_iff_ne.2 (by omega)
  clear h
  go_enter Try.func22, Try.ntmps22
  go_wp2
  go_returns
  exact ⟨rfl, by go_grown⟩
set_option maxHeartbeats 1600000 in
theorem implParse_six (s : ByteArray) (w : World) (h : s.size = 6) : Calls Try.prog 22 #[.string s] w fun e w' => e = .returned (.tuple #[D.v (pdS s.data.toList), .bool (okP s.data.toList)]) ∧ Below w.heap.size w w' := by
  have q1 : ((s.size : Int) != 6) = false := by rw [h]; rfl
  have q2 : ((s.size : Int) == 6) = true := by rw [h]; rfl
  have n0 : 0 < s.size := by omega
  have b0 : (s[0].toNat : Int) ≤ 255 := by have := s[0].toNat_lt; omega
  have n1 : 1 < s.size := by omega
  have b1 : (s[1].toNat : Int) ≤ 255 := by have := s[1].toNat_lt; omega
  have n2 : 2 < s.size := by omega
  have b2 : (s[2].toNat : Int) ≤ 255 := by have := s[2].toNat_lt; omega
  have n3 : 3 < s.size := by omega
  have b3 : (s[3].toNat : Int) ≤ 255 := by have := s[3].toNat_lt; omega
  have n4 : 4 < s.size := by omega
  have b4 : (s[4].toNat : Int) ≤ 255 := by have := s[4].toNat_lt; omega
  have n5 : 5 < s.size := by omega
  have b5 : (s[5].toNat : Int) ≤ 255 := by have := s[5].toNat_lt; omega
  have HD := hide (show pdD s.data.toList = ⟨(s[0].toNat : Int) - 48, (s[1].toNat : Int) - 48, (s[2].toNat : Int) - 48, (s[3].toNat : Int) - 48, (s[4].toNat : Int) - 48, (s[5].toNat : Int) - 48⟩ from by
    unfold pdD dv
    simp only [List.getD, byte_at s 0 (by omega), byte_at s 1 (by omega), byte_at s 2 (by omega), byte_at s 3 (by omega), byte_at s 4 (by omega), byte_at s 5 (by omega), Option.getD_some])
  have HL := hide (show okP s.data.toList = goodB (pdD s.data.toList) from by unfold okP; rw [decide_eq_true (by simpa using h)]; rfl)
  have HS := hide (show pdS s.data.toList = if okP s.data.toList = true then pdD s.data.toList else zeroD from rfl)
  generalize hps : pdS s.data.toList = ps at HS
  generalize hok : okP s.data.toList = ok at HL HS
  clear hps hok h
  go_enter Try.func22, Try.ntmps22
  go_wp2
  refine wp_loop_rounds 7 ?_
  repeat any_goals (rw [rounds_succ]; go_wp2_with fail)
  refine (dieOf_any ⟨(s[0].toNat : Int) - 48, (s[1].toNat : Int) - 48, (s[2].toNat : Int) - 48, (s[3].toNat : Int) - 48, (s[4].toNat : Int) - 48, (s[5].toNat : Int) - 48⟩ _).mono ?_
  rw [← HD.out]
  generalize hpd : pdD s.data.toList = d at HD HL HS
  rintro e w1 ⟨rfl, hb1⟩
  have D1 := isD_to hb1 ((IsD.new (w := w) (d := zeroD) (ty := 30)).alloc _) rfl
  have B1 : Below w.heap.size w w1 := below_after (by go_grown) hb1 (by simp; omega)
  clear hb1 HD b0 b1 b2 b3 b4 b5
  have D1a := D1.alloc (.cells #[.int .i64 d.t, .int .i64 d.n, .int .i64 d.e, .int .i64 d.s, .int .i64 d.w, .int .i64 d.b] 30)
  have E1 := IsD.new (w := w1) (d := d) (ty := 30)
  have B1a := B1.alloc B1.size (.cells #[.int .i64 d.t, .int .i64 d.n, .int .i64 d.e, .int .i64 d.s, .int .i64 d.w, .int .i64 d.b] 30)
  go_wp2_with fail
  refine (isDie_any d _).mono ?_
  rintro e w2 ⟨rfl, hb2⟩
  have D2 := isD_to hb2 D1a rfl
  have E2 := isD_to hb2 E1 rfl
  have B2 := below_to hb2 B1a B1a.size rfl rfl rfl rfl
  clear hb2 D1 D1a E1 B1 B1a
  obtain ⟨l1, ⟨c0, c1, c2, c3, c4, c5⟩, f0, f1, f2, f3, f4, f5⟩ := D2.all
  cases hg : goodB d
  · have HR := hide (show ps = zeroD ∧ ok = false from by
      have h1 := HL.out
      have h2 := HS.out
      rw [hg] at h1
      subst h1
      exact ⟨by rw [h2]; rfl, rfl⟩)
    clear hg
    go_wp2
    refine bodyPost_ret (ret_die2 Try.results22 rfl rfl (D2.set6 ⟨0, 0, 0, 0, 0, 0⟩)) rfl ⟨by rw [HR.out.1, HR.out.2]; rfl, below_set6 B2 (Nat.le_refl _) ⟨0, 0, 0, 0, 0, 0⟩⟩
  · have HR := hide (show ps = d ∧ ok = true from by
      have h1 := HL.out
      have h2 := HS.out
      rw [hg] at h1
      subst h1
      exact ⟨by rw [h2]; rfl, rfl⟩)
    obtain ⟨l2, ⟨d0, d1, d2, d3, d4, d5⟩, -⟩ := E2.all
    clear hg
    go_wp2
    refine bodyPost_ret (ret_die2 Try.results22 rfl rfl (D2.set6 d)) rfl ⟨by rw [HR.out.1, HR.out.2], below_set6 B2 (Nat.le_refl _) d⟩
theorem implParse_any (s : ByteArray) (w : World) (hs : s.size ≤ maxLen) : Calls Try.prog 22 #[.string s] w fun e w' => e = .returned (.tuple #[D.v (pdS s.data.toList), .bool (okP s.data.toList)]) ∧ Below w.heap.size w w' := by
  by_cases h : s.size = 6
  · exact implParse_six s w h
  · exact implParse_len s w h hs

set_option maxHeartbeats 800000 in
theorem walk_ParseDie (v : ByteArray) (hv : v.size ≤ maxLen) (w : World) : Calls Try.prog 7 #[.string v] w fun e w' => e = .returned (.bool true) ∧ Below w.heap.size w w' := by
  by_cases h1 : v.size ≤ 1048576
  · go_enter Try.func7, Try.ntmps7
    go_wp2_with fail
    refine (specParse_any v _ hv).mono ?_
    rintro e w1 ⟨rfl, hb1⟩
    generalize hx : pdS v.data.toList = x
    generalize hg : okP v.data.toList = g
    have HX := hide hx
    have HG := hide hg
    clear hx hg
    go_wp2_with fail
    refine (implParse_any v _ hv).mono ?_
    rintro e w2 ⟨rfl, hb2⟩
    rw [HX.out, HG.out]
    have g2 := isD_to hb2 (IsD.new (w := w1) (d := x)) rfl
    have q2 : Below w.heap.size w w2 := below_to hb2 (hb1.alloc hb1.size (.cells #[.int .i64 x.t, .int .i64 x.n, .int .i64 x.e, .int .i64 x.s, .int .i64 x.w, .int .i64 x.b] 30)) (by have := hb1.size; simp; omega) rfl rfl rfl rfl
    clear hb2 hb1
    obtain ⟨l1, ⟨c0, c1, c2, c3, c4, c5⟩, -⟩ := g2.all
    go_wp2_with fail
    clear c0 c1 c2 c3 c4 c5
    refine (eqDie_any x x _).mono ?_
    rintro e w5 ⟨rfl, hb5⟩
    have hf : (g != g) = false := by simp
    simp only [decide_true]
    go_wp2
    go_returns
    exact ⟨rfl, below_after (q2.alloc q2.size _) hb5 (by simp; have := q2.size; omega)⟩
  · go_enter Try.func7, Try.ntmps7
    go_wp2
    go_returns
    exact ⟨rfl, Below.refl _ _⟩
end Go.Proofs.Ytniodfailfiagaa
