/- The rows of a labelled board's signs: cutRows, hasCell, cellAt; labelOf, hasItsLabel, matches. -/
import Derived.Test.YtmlfkcmmjmdhmaaDoorBuf
import Derived.Test.YtmlfkcmmjmdhmaaDoorOwnK
import Derived.StillTailTactics
import Derived.Deep.Cut
import Derived.Maps.OwnRows
import Derived.Deep.QuietTactic
import Derived.BigQuiet
namespace Go.Proofs.YtmlfkcmmjmdhmaaDoor
set_option maxRecDepth 100000
set_option linter.all false
open Go.RowKit

/-- The rows as they are cut out of block g. -/
def rowsC (g W : Nat) (q : Nat) : List Value := (List.range q).map fun k => Value.slice (some ⟨g, k * (W + 1), none⟩) W W
theorem rowsC_len (g W q : Nat) : (rowsC g W q).length = q := by simp [rowsC]
theorem rowsC_snoc (g W q : Nat) : rowsC g W (q + 1) = rowsC g W q ++ [Value.slice (some ⟨g, q * (W + 1), none⟩) W W] := by simp [rowsC, List.range_succ]
theorem rowsC_get (g W q k : Nat) (h : k < q) : (rowsC g W q)[k]? = some (Value.slice (some ⟨g, k * (W + 1), none⟩) W W) := by
  unfold rowsC
  rw [List.getElem?_map, List.getElem?_range h]
  rfl
theorem info_rowC : (Tryd.prog.info? 41).map (fun i => (i.zero, i.size, i.bytes)) = some (some (.slice none 0 0), 1, 24) := by kernel_rfl
theorem run_cut (g n cap p q a : Nat) (hq : q = p + a) (ha : 0 < a) (hqn : q ≤ cap) (wx : World) : (Instr.slice 41 (.slice (some ⟨g, 0, none⟩) n cap) (some (.int .i64 (p : Int))) (some (.int .i64 (q : Int))) (some (.int .i64 (q : Int)))).run Tryd.prog wx = .ok (.slice (some ⟨g, p, none⟩) a a) wx := by
  subst hq
  have e1 : ¬ p + a = p := by omega
  have e2 : (0 : Int) ≤ (p : Int) + (a : Int) ∧ (p : Int) + (a : Int) ≤ (cap : Int) := by omega
  have e4 : ((p : Int) + (a : Int)).toNat = p + a := by omega
  have e5 : (if p = 0 then (⟨g, 0, none⟩ : Addr) else ⟨g, p, none⟩) = ⟨g, p, none⟩ := by split <;> simp_all
  simp [Instr.slice, run_underlying Tryd.underlying41, Instr.sliceBounds, Instr.sliceBound, asIntOf, go_sem, e1, e2, e4, e5, Addr.add]
  omega

set_option maxHeartbeats 3200000 in
theorem cutRows_any (L : List UInt8) (W H : Nat) (he : Even L W) (hH : (splitP L).length = H) (hW : 1 ≤ W ∧ W ≤ 7) (hH7 : 1 ≤ H ∧ H ≤ 7) (g n cap : Nat) (hn : n = L.length) (hcap : n ≤ cap) (w : World) (hB : BufAt w g L) :
    Calls Tryd.prog 21 #[.slice (some ⟨g, 0, none⟩) n cap] w fun e w' => ∃ h cap', e = .returned (.slice (some ⟨h, 0, none⟩) H cap') ∧ w'.ownsRow w.heap.size 41 1 (.slice (some ⟨h, 0, none⟩) H cap') H (rowsC g W H) ∧ Below w.heap.size w w' := by
  obtain ⟨i0, hi, hz0, hz1, hz2⟩ := info_parts info_rowC
  have HI := hide hi
  have HZ0 := hide hz0
  have HZ1 := hide hz1
  have HZ2 := hide hz2
  clear hi hz0 hz1 hz2
  obtain ⟨w0, w7⟩ := hW
  obtain ⟨h0, h7⟩ := hH7
  have hl := even_len he
  rw [hH, ← hn] at hl
  have hN : n ≤ 55 := by
    have := Nat.mul_le_mul h7 (show W + 1 ≤ 8 by omega)
    omega
  have HCELL := hide (show ∀ q r, q < H → r < W → ∃ c : UInt8, L[q * (W + 1) + r]? = some c ∧ ¬ (c.toNat : Int) = 47 from fun q r hq hr => by
    obtain ⟨h1, h2⟩ := even_cell he (k := q) (j := r) (by omega) hr
    refine ⟨_, h1, fun e => h2 ?_⟩
    apply UInt8.toNat_inj.1
    have : (cellI (splitP L) (r : Int) (q : Int)).toNat = 47 := by omega
    rw [this]; rfl)
  have HMARK := hide (show ∀ q, q + 1 < H → L[q * (W + 1) + W]? = some 47 from fun q hq => even_mark he (by omega))
  have HL := hide hl
  have HBB := hide hB
  have HLN := hide hn
  clear hl he hH hB hn
  go_enter Tryd.func21, Tryd.ntmps21
  go_wp2
  go_loopw [9, 5, 3, 4] (fun ti _ vv fi wr => ∃ (q r : Nat) (v : Value), ti = .int .i64 ((q * (W + 1) + r : Nat) : Int) ∧ fi = .int .i64 ((q * (W + 1) : Nat) : Int) ∧ q ≤ H ∧ r ≤ W ∧ (q = H → r = 0) ∧ v = vv ∧ wr.ownsRow w.heap.size 41 1 v q (rowsC g W q) ∧ Below w.heap.size w wr) (fun ti _ _ _ _ => n + 1 - (intOf ti).toNat)
  case atStart => exact ⟨0, 0, .slice none 0 0, by simp, by simp, Nat.zero_le _, Nat.zero_le _, fun h => rfl, rfl, World.ownsRow_nil _ _ _ _, Below.refl _ _⟩
  case round =>
    obtain ⟨q, r, v, rfl, rfl, hq, hr, hqr, rfl, O, hb⟩ := hrel
    have hle : q * (W + 1) ≤ H * (W + 1) := Nat.mul_le_mul_right _ hq
    rcases Nat.lt_or_ge q H with hlt | hge
    · have hle2 : (q + 1) * (W + 1) ≤ H * (W + 1) := Nat.mul_le_mul_right _ hlt
      rw [← HL.out, Nat.add_mul, Nat.one_mul] at hle2
      have hrc := HCELL.out q r hlt
      have hmk := HMARK.out q
      have hnx : (q + 1) * (W + 1) = q * (W + 1) + (W + 1) := by rw [Nat.add_mul, Nat.one_mul]
      have HNX := hide hnx
      have HR1 := hide (rowsC_snoc g W q)
      have hend : q + 1 = H → q * (W + 1) + W = n := fun e => by
        have := HL.out
        rw [← e, hnx] at this
        omega
      clear hle hnx
      generalize hf : q * (W + 1) = f at hle2 hrc hmk HNX HR1 hend
      have HF := hide hf
      clear hf
      rcases Nat.lt_or_ge r W with hrW | hrW
      · obtain ⟨c, hc, h47⟩ := hrc hrW
        obtain ⟨c0, -⟩ := (bufAt_to hb HBB.out rfl).cell hc
        obtain ⟨r1, r2⟩ := byte_ne h47
        have e1 : (((f + r : Nat) : Int) == (n : Int)) = false := beq_eq_false_iff_ne.2 (by omega)
        have e2 : ((f + r : Nat) : Int) < (n : Int) + 1 := by omega
        have e3 : ((f + r : Nat) : Int) < (n : Int) := by omega
        have HO := hide O
        clear hrc hmk hc h47 O hend
        obtain ⟨t, ht⟩ : ∃ t, t = f + r := ⟨_, rfl⟩
        rw [← ht] at c0 e1 e2 e3 ⊢
        have HT := hide ht
        have ht55 : t ≤ 100 := by omega
        clear ht
        go_wp2
        go_roundw
        case rel =>
          refine ⟨q, r + 1, v, ?_, by rw [HF.out], hq, by omega, fun h => by omega, rfl, HO.out, hb⟩
          rw [HF.out, ← Nat.add_assoc, ← HT.out]
          go_num
        case measure => simp [intOf] <;> omega
      · obtain rfl : r = W := by omega
        have e2 : ((f + r : Nat) : Int) < (n : Int) + 1 := by omega
        have hsl := run_cut g n cap f (f + r) r rfl (by omega) (by omega)
        have HJ := hide (show ∀ (wx : World), wx = (if q + 1 < H then wr else wr) → True from fun _ _ => trivial)
        have HO := hide O
        have hsz := hb.size
        obtain ⟨t, ht⟩ : ∃ t, t = f + r := ⟨_, rfl⟩
        have hcell : t < n → wr.cell? ⟨g, t, none⟩ = some (.int .u8 47) := fun h => by
          have hq1 : q + 1 < H := by
            rcases Nat.lt_or_ge (q + 1) H with h' | h'
            · exact h'
            · have := hend (by omega)
              omega
          have := ((bufAt_to hb HBB.out rfl).cell (hmk hq1)).1
          rw [← ht] at this
          exact this
        rw [← ht] at e2 hsl ⊢
        have HT := hide ht
        have ht55 : t ≤ 100 := by omega
        have htn : t ≤ n := by omega
        clear hrc hmk O hend HJ ht
        rcases Nat.lt_or_ge t n with htl | htl
        · have c0 := hcell htl
          have e1 : ((t : Int) == (n : Int)) = false := beq_eq_false_iff_ne.2 (by omega)
          have e3 : (t : Int) < (n : Int) := by omega
          clear hcell
          go_upto_region 7 with (fail)
          have HCL := hide (cell_one_newR wr (.slice (some ⟨g, f, none⟩) r r) 41)
          go_wp2_with (at_builtin; refine wpList_append_own_at _ rfl _ _ 48 rfl w.heap.size 41 i0 (.slice none 0 0) 1 24 Tryd.underlying48 HI.out HZ0.out HZ1.out HZ2.out rfl (by decide) _ _ _ rfl (HO.out.alloc _) ⟨wr.heap.size, 0, none⟩ 1 1 [.slice (some ⟨g, f, none⟩) r r] rfl rfl ?c1 ?c2 ?c3 ?c4 ?c5 ?_)
          case c1 => exact HCL.out
          case c2 =>
            intro u hu
            simp only [List.mem_singleton] at hu
            subst hu
            rfl
          case c3 => unfold maxLen; omega
          case c4 => omega
          case c5 => simp; omega
          · intro v' w4 hown4 hg4 _ _
            have hb4 : Below w.heap.size w w4 := (hb.alloc hsz _).grown hg4 (by show w.heap.size ≤ (World.alloc _ _).heap.size; simp; omega) (fun j hj => (HO.out.lt j hj).1)
            have HO4 := hide hown4
            clear hown4 hg4
            go_wp2
            go_roundw
            case rel =>
              have hT := HT.out
              refine ⟨q + 1, 0, v', ?_, ?_, by omega, Nat.zero_le _, fun _ => rfl, rfl, ?_, hb4⟩
              · rw [HNX.out, show f + (r + 1) + 0 = (f + r) + 1 from by omega, ← hT]
                go_num
              · rw [HNX.out, show f + (r + 1) = (f + r) + 1 from by omega, ← hT]
                go_num
              · rw [HR1.out]
                exact HO4.out
            case measure => simp [intOf] <;> omega
        · obtain rfl : t = n := by omega
          have e1 : ((t : Int) == (t : Int)) = true := by simp
          clear hcell
          go_upto_region 7 with (fail)
          have HCL := hide (cell_one_newR wr (.slice (some ⟨g, f, none⟩) r r) 41)
          go_wp2_with (at_builtin; refine wpList_append_own_at _ rfl _ _ 48 rfl w.heap.size 41 i0 (.slice none 0 0) 1 24 Tryd.underlying48 HI.out HZ0.out HZ1.out HZ2.out rfl (by decide) _ _ _ rfl (HO.out.alloc _) ⟨wr.heap.size, 0, none⟩ 1 1 [.slice (some ⟨g, f, none⟩) r r] rfl rfl ?c1 ?c2 ?c3 ?c4 ?c5 ?_)
          case c1 => exact HCL.out
          case c2 =>
            intro u hu
            simp only [List.mem_singleton] at hu
            subst hu
            rfl
          case c3 => unfold maxLen; omega
          case c4 => omega
          case c5 => simp; omega
          · intro v' w4 hown4 hg4 _ _
            have hb4 : Below w.heap.size w w4 := (hb.alloc hsz _).grown hg4 (by show w.heap.size ≤ (World.alloc _ _).heap.size; simp; omega) (fun j hj => (HO.out.lt j hj).1)
            have HO4 := hide hown4
            clear hown4 hg4
            go_wp2
            go_roundw
            case rel =>
              have hT := HT.out
              refine ⟨q + 1, 0, v', ?_, ?_, by omega, Nat.zero_le _, fun _ => rfl, rfl, ?_, hb4⟩
              · rw [HNX.out, show f + (r + 1) + 0 = (f + r) + 1 from by omega, ← hT]
                go_num
              · rw [HNX.out, show f + (r + 1) = (f + r) + 1 from by omega, ← hT]
                go_num
              · rw [HR1.out]
                exact HO4.out
            case measure => simp [intOf] <;> omega
    · obtain rfl : q = H := by omega
      obtain rfl : r = 0 := hqr rfl
      have e2 : ¬ (((q * (W + 1) + 0 : Nat) : Int) < (n : Int) + 1) := by
        have := HL.out
        omega
      have e3 : decide (((q * (W + 1) + 0 : Nat) : Int) < (n : Int) + 1) = false := decide_eq_false e2
      obtain ⟨h, cap', rfl, -, -⟩ := own_form O (by omega)
      have HO := hide O
      clear O hle
      generalize q * (W + 1) = f at e2 e3 ⊢
      simp only [Nat.add_zero] at e2 e3 ⊢
      have e4 : (n : Int) + 1 ≤ (f : Int) := by omega
      clear e2
      go_wp2
      go_returns
      exact ⟨h, cap', rfl, HO.out, hb⟩
end Go.Proofs.YtmlfkcmmjmdhmaaDoor
