/- The program's rolledOver: a pass from its label. -/
import Derived.Test.YtkknjokacinlaaaGreatDoorNetD
namespace Go.Proofs.YtkknjokacinlaaaGreatDoor
set_option maxRecDepth 100000
set_option linter.all false
open Go.RowKit

theorem info_land : (Tryz.prog.info? 59).map (fun i => (i.zero, i.size, i.bytes)) = some (some (.agg #[.int .i64 0, .int .i64 0, .int .i64 0, .int .i64 0, .int .i64 0, .int .i64 0, .int .i64 0, .int .i64 0, .int .i64 0, .int .i64 0]), 10, 80) := by kernel_rfl
/-- What a pass from the label does. -/
def PassSays (rl : Code) : Prop :=
  ∀ (QJ : Exit → Act → World → Prop) (l : List UInt8) (W H h g cap : Nat) (w0 : World) (n : Nat) (Q : List Lg) (q : Lg) (lv : Value) (a : Act) (w : World) (_hf : Filled l W H) (_hh : h < w0.heap.size) (_hg : g < w0.heap.size) (_hne : h ≠ g)
    (_F : RF a (.slice (some ⟨h, 0, none⟩) H cap) lv n) (_T : RW l W H h g w0 w Q lv) (_G : GoodQ l Q) (_hq : Q[n]? = some q)
    (_hc : n + 1 < (stepsL l q 4 Q).length → ∀ a w lv', RF a (.slice (some ⟨h, 0, none⟩) H cap) lv' (n + 1) → RW l W H h g w0 w (stepsL l q 4 Q) lv' → QJ (.goto 0) a w)
    (_hr : (stepsL l q 4 Q).length ≤ n + 1 → ∀ a w lv', a.tmps.getD 2 undef = lv' → a.defers = [] → (∃ g' cap' Qs, lv' = .slice (some ⟨g', 0, none⟩) (stepsL l q 4 Q).length cap' ∧ w0.heap.size ≤ g' ∧ LandsAt w g' Qs ∧ Qs.Perm ((stepsL l q 4 Q).map (ldOf l)) ∧ SortedL Qs) → w0.grownBy w (some g) → QJ .ret a w), rl.wp Tryz.prog QJ a w
theorem rw_lands {l : List UInt8} {W H h g : Nat} {w0 w : World} {Q : List Lg} {gb cb : Nat} (T : RW l W H h g w0 w Q (.slice (some ⟨gb, 0, none⟩) Q.length cb)) : LandsAt w gb (Q.map (ldOf l)) ∧ ∀ j, w.frozen? ⟨gb, j, none⟩ = false := by
  have O := T.row
  refine ⟨?_, fun j => own_free O j⟩
  rw [show Q.length = (Q.map (ldOf l)).length from (List.length_map _).symm] at O
  exact landsAt_own O
theorem stepL_yes {l : List UInt8} {W H : Nat} (hf : Filled l W H) {q : Lg} {k : Nat} {Q : List Lg} {L : List UInt8} (hw : Wiped l W H Q L) (hd : isDig (cellI (splitP L) (rollT q.1 (k : Int)).x (rollT q.1 (k : Int)).y) = true) : stepL l q k Q = Q ++ [(rollT q.1 (k : Int), q.2 + 1)] ∧ ∃ x y : Nat, (rollT q.1 (k : Int)).x = (x : Int) ∧ (rollT q.1 (k : Int)).y = (y : Int) ∧ x < W ∧ y < H ∧ cellI (splitP L) (x : Int) (y : Int) = cellI (splitP l) (x : Int) (y : Int) := by
  rw [hw.dig hf] at hd
  have hd' := hd
  rw [Bool.and_eq_true, Bool.not_eq_true'] at hd'
  obtain ⟨a1, a2, a3, a4⟩ := hf.toGrid6.in hd'.1
  refine ⟨by unfold stepL; rw [if_pos hd], (rollT q.1 (k : Int)).x.toNat, (rollT q.1 (k : Int)).y.toNat, by omega, by omega, by omega, by omega, ?_⟩
  have h2 := hd'.2
  have ex : (((rollT q.1 (k : Int)).x.toNat : Nat) : Int) = (rollT q.1 (k : Int)).x := by omega
  have ey : (((rollT q.1 (k : Int)).y.toNat : Nat) : Int) = (rollT q.1 (k : Int)).y := by omega
  rw [← ex, ← ey] at h2
  exact hw.old (by omega) (by omega) h2
theorem stepL_no {l : List UInt8} {W H : Nat} (hf : Filled l W H) {q : Lg} {k : Nat} {Q : List Lg} {L : List UInt8} (hw : Wiped l W H Q L) (hd : isDig (cellI (splitP L) (rollT q.1 (k : Int)).x (rollT q.1 (k : Int)).y) = false) : stepL l q k Q = Q := by
  rw [hw.dig hf] at hd
  unfold stepL
  rw [if_neg (by rw [hd]; simp)]
set_option maxHeartbeats 16000000 in
theorem ro_pass : ∃ rl, findLabel rdC 0 = some (.seq .skip rl) ∧ PassSays rl := by
  obtain ⟨i0, hi, hz0, hz1, hz2⟩ := info_parts info_land
  have HI := hide hi
  have HZ0 := hide hz0
  have HZ1 := hide hz1
  have HZ2 := hide hz2
  clear hi hz0 hz1 hz2
  refine ⟨_, rfl, ?_⟩
  intro QJ l W H h g cap w0 n Q q lv a w hf hh hg hne F T hG hq hc hr
  obtain ⟨U, rfl⟩ := F
  have hnQ := (List.getElem?_eq_some_iff.1 hq).1
  obtain ⟨gb, cb, rfl, hgb0, hgb1⟩ := own_form T.row (by omega)
  obtain ⟨p, hp⟩ : ∃ p, p = ldOf l q := ⟨_, rfl⟩
  obtain ⟨a0, a1, a2, a3, a4, a5, a6, a7, a8, a9⟩ := (rw_lands T).1.cells (i := n) (q := p) (by rw [List.getElem?_map, hq, hp]; rfl)
  have hps : p.s = q.1 := by rw [hp]; rfl
  have hpr : p.r = (q.2 : Int) := by rw [hp]; rfl
  have hin := hf.toGrid6.in (hG.dig q (List.mem_of_getElem? hq))
  have hW6 := hf.w6
  have hH6 := hf.h6
  have HXN := hide (show -100000 ≤ p.s.x ∧ p.s.x ≤ 100000 from by rw [hps]; omega)
  have HYN := hide (show -100000 ≤ p.s.y ∧ p.s.y ≤ 100000 from by rw [hps]; omega)
  have hle6 := hG.le hf.toGrid6
  have hfar := hG.far q (List.mem_of_getElem? hq)
  have HG4 := hide (fun k hk => (hG.steps (List.mem_of_getElem? hq) k hk))
  have HFI := hide hf
  have HHH := hide (show h < w0.heap.size ∧ g < w0.heap.size ∧ h ≠ g from ⟨hh, hg, hne⟩)
  have HC := hide hc
  have HR := hide hr
  have HPS := hide hps
  have HPR := hide hpr
  have HRB := hide (show 0 ≤ p.r ∧ p.r ≤ 6 from by rw [hpr]; omega)
  have HT0 := hide T
  have hw0 : w0.heap.size ≤ w.heap.size := T.bel.size
  have HGB := hide hgb1
  obtain ⟨m, hm⟩ : ∃ m, m = Q.length := ⟨_, rfl⟩
  rw [← hm] at HT0
  rw [← hm]
  have hni : (n : Int) < (m : Int) := by omega
  have hm6 : m ≤ 6 := by omega
  have HM := hide hm
  clear hc hr hps hpr hf hh hg hne T hG hq hp hin hgb0 hgb1 hm hnQ hle6 hfar
  go_wp2
  clear a0 a1 a2 a3 a4 a5 a6 a7 a8 a9
  go_loopw [24, 4, 7, 8] (fun i lvv _ _ wr => ∃ (k : Nat) (lv' : Value), k ≤ 4 ∧ i = .int .i64 (k : Int) ∧ lv' = lvv ∧ RW l W H h g w0 wr (stepsL l q k Q) lv' ∧ IsL wr w.heap.size p 59 ∧ lv'.ownBlock ≠ some w.heap.size) (fun i _ _ _ _ => 4 - (intOf i).toNat)
  case atStart =>
    refine ⟨0, _, by omega, rfl, rfl, ?_, IsL.new, ?_⟩
    · have := HT0.out.alloc (.cells #[.int .i64 p.n, .int .i64 p.s.x, .int .i64 p.s.y, .int .i64 p.s.d.t, .int .i64 p.s.d.n, .int .i64 p.s.d.e, .int .i64 p.s.d.s, .int .i64 p.s.d.w, .int .i64 p.s.d.b, .int .i64 p.r] 59)
      exact this
    · intro e
      have e' : gb = w.heap.size := Option.some.inj e
      have := HGB.out
      omega
  case round =>
    obtain ⟨k, lv', hk, rfl, rfl, T, F1, hfb⟩ := hrel
    by_cases hlt : k < 4
    · have hki : (k : Int) < 4 := by omega
      have HGQ := hide (HG4.out k (by omega))
      have HST := hide (show stepsL l q (k + 1) Q = stepL l q k (stepsL l q k Q) from rfl)
      generalize stepsL l q k Q = Q1 at HGQ HST T
      have HFB := hide hfb
      have HF1 := hide F1
      have HT := hide T
      obtain ⟨l0, ⟨a0, a1, a2, a3, a4, a5, a6, a7, a8, a9⟩, -⟩ := F1.all
      clear F1 T hfb
      have hdx := dixT hlt
      have HDN := hide (show 0 ≤ dirIx (dirC k).toNat from by rw [dirC_ix k hlt]; omega)
      have HD := hide (dirC_ix k hlt)
      have hrr : rollT p.s (k : Int) = rollT q.1 (k : Int) := by rw [HPS.out]
      obtain ⟨r, hr⟩ : ∃ r, r = rollT p.s (k : Int) := ⟨_, rfl⟩
      have HRR := hide (hr.trans hrr)
      have HFN := fun wx => rollFn_any (dirC k) p.s wx HDN.out HXN.out HYN.out
      simp only [HD.out, ← hr] at HFN
      have HF0 := hide HFN
      clear HFN hr hrr
      have h4 := hide (rollFn_fourT k hlt)
      go_upto_region 8 with (fail)
      go_cut [8] from 25 to 33 (fun pp wx => ∃ bb, pp = .pointer (some ⟨bb, 0, none⟩) ∧ IsS wx bb r 57 ∧ RW l W H h g w0 wx Q1 lv' ∧ IsL wx w.heap.size p 59)
      case first =>
        rcases h4.out with hF | hF | hF | hF
        · have HFN := HF0.out
          rw [hF] at HFN
          have HF := hide HFN
          clear HFN
          go_region_held3 (fun w' => w'.cell? ⟨w.heap.size, 1, none⟩ = some (.int .i64 p.s.x) ∧ w'.cell? ⟨w.heap.size, 2, none⟩ = some (.int .i64 p.s.y) ∧ w'.cell? ⟨w.heap.size, 3, none⟩ = some (.int .i64 p.s.d.t) ∧ w'.cell? ⟨w.heap.size, 4, none⟩ = some (.int .i64 p.s.d.n) ∧ w'.cell? ⟨w.heap.size, 5, none⟩ = some (.int .i64 p.s.d.e) ∧ w'.cell? ⟨w.heap.size, 6, none⟩ = some (.int .i64 p.s.d.s) ∧ w'.cell? ⟨w.heap.size, 7, none⟩ = some (.int .i64 p.s.d.w) ∧ w'.cell? ⟨w.heap.size, 8, none⟩ = some (.int .i64 p.s.d.b)) (first | (refine ⟨?_, ?_, ?_, ?_, ?_, ?_, ?_, ?_⟩ <;> with_reducible assumption) | (refine ⟨?_, ?_, ?_, ?_, ?_, ?_, ?_, ?_⟩ <;> (rw [cell_set8 (by omega)]; with_reducible assumption)) | (refine ⟨?_, ?_, ?_, ?_, ?_, ?_, ?_, ?_⟩ <;> (refine (((Below.refl _ _).alloc (Nat.le_refl _) _).cell (by first | exact l0 | exact m0)).trans ?_; with_reducible assumption)) | (refine ⟨?_, ?_, ?_, ?_, ?_, ?_, ?_, ?_⟩ <;> assumption))
            (first
              | (go_at_call 53; (refine (rollTo_any (dirC k) _ HDN.out).mono ?_); rintro e w' ⟨rfl, rfl⟩; rw [hF])
              | (go_at_call 65; (refine (HF.out _).mono ?_); rintro e w2 ⟨rfl, hb2⟩; (first | (have hA : Below (wr.alloc (.cells #[.int .i64 0, .int .i64 0, .int .i64 0, .int .i64 0, .int .i64 0, .int .i64 0, .int .i64 0, .int .i64 0] 57)).drew.heap.size (wr.alloc (.cells #[.int .i64 0, .int .i64 0, .int .i64 0, .int .i64 0, .int .i64 0, .int .i64 0, .int .i64 0, .int .i64 0] 57)).drew w2 := (by with_reducible exact hb2); have NA := isS_to hA (IsS.new (w := wr) (s := ⟨0, 0, ⟨0, 0, 0, 0, 0, 0⟩⟩) (ty := 57)) rfl; obtain ⟨l2, ⟨c0, c1, c2, c3, c4, c5, c6, c7⟩, f0, f1, f2, f3, f4, f5, f6, f7⟩ := NA.all; obtain ⟨m0, ⟨b0, b1, b2, b3, b4, b5, b6, b7, b8, b9⟩, -⟩ := (isL_to hA (HF1.out.alloc (.cells #[.int .i64 0, .int .i64 0, .int .i64 0, .int .i64 0, .int .i64 0, .int .i64 0, .int .i64 0, .int .i64 0] 57)) rfl).all) | (have hB : Below wr.drew.heap.size wr.drew w2 := (by with_reducible exact hb2); obtain ⟨m0, ⟨b0, b1, b2, b3, b4, b5, b6, b7, b8, b9⟩, -⟩ := (isL_to hB HF1.out rfl).all))))
          all_goals
            go_wp2_with fail
            go_meet
            refine ⟨_, rfl, ?_⟩
            first
              | (with_reducible exact (rw_cutA (r := r) HT.out HF1.out hA NA))
              | (with_reducible exact (rw_cutB (r := r) HT.out HF1.out hB))
        · have HFN := HF0.out
          rw [hF] at HFN
          have HF := hide HFN
          clear HFN
          go_region_held3 (fun w' => w'.cell? ⟨w.heap.size, 1, none⟩ = some (.int .i64 p.s.x) ∧ w'.cell? ⟨w.heap.size, 2, none⟩ = some (.int .i64 p.s.y) ∧ w'.cell? ⟨w.heap.size, 3, none⟩ = some (.int .i64 p.s.d.t) ∧ w'.cell? ⟨w.heap.size, 4, none⟩ = some (.int .i64 p.s.d.n) ∧ w'.cell? ⟨w.heap.size, 5, none⟩ = some (.int .i64 p.s.d.e) ∧ w'.cell? ⟨w.heap.size, 6, none⟩ = some (.int .i64 p.s.d.s) ∧ w'.cell? ⟨w.heap.size, 7, none⟩ = some (.int .i64 p.s.d.w) ∧ w'.cell? ⟨w.heap.size, 8, none⟩ = some (.int .i64 p.s.d.b)) (first | (refine ⟨?_, ?_, ?_, ?_, ?_, ?_, ?_, ?_⟩ <;> with_reducible assumption) | (refine ⟨?_, ?_, ?_, ?_, ?_, ?_, ?_, ?_⟩ <;> (rw [cell_set8 (by omega)]; with_reducible assumption)) | (refine ⟨?_, ?_, ?_, ?_, ?_, ?_, ?_, ?_⟩ <;> (refine (((Below.refl _ _).alloc (Nat.le_refl _) _).cell (by first | exact l0 | exact m0)).trans ?_; with_reducible assumption)) | (refine ⟨?_, ?_, ?_, ?_, ?_, ?_, ?_, ?_⟩ <;> assumption))
            (first
              | (go_at_call 53; (refine (rollTo_any (dirC k) _ HDN.out).mono ?_); rintro e w' ⟨rfl, rfl⟩; rw [hF])
              | (go_at_call 66; (refine (HF.out _).mono ?_); rintro e w2 ⟨rfl, hb2⟩; (first | (have hA : Below (wr.alloc (.cells #[.int .i64 0, .int .i64 0, .int .i64 0, .int .i64 0, .int .i64 0, .int .i64 0, .int .i64 0, .int .i64 0] 57)).drew.heap.size (wr.alloc (.cells #[.int .i64 0, .int .i64 0, .int .i64 0, .int .i64 0, .int .i64 0, .int .i64 0, .int .i64 0, .int .i64 0] 57)).drew w2 := (by with_reducible exact hb2); have NA := isS_to hA (IsS.new (w := wr) (s := ⟨0, 0, ⟨0, 0, 0, 0, 0, 0⟩⟩) (ty := 57)) rfl; obtain ⟨l2, ⟨c0, c1, c2, c3, c4, c5, c6, c7⟩, f0, f1, f2, f3, f4, f5, f6, f7⟩ := NA.all; obtain ⟨m0, ⟨b0, b1, b2, b3, b4, b5, b6, b7, b8, b9⟩, -⟩ := (isL_to hA (HF1.out.alloc (.cells #[.int .i64 0, .int .i64 0, .int .i64 0, .int .i64 0, .int .i64 0, .int .i64 0, .int .i64 0, .int .i64 0] 57)) rfl).all) | (have hB : Below wr.drew.heap.size wr.drew w2 := (by with_reducible exact hb2); obtain ⟨m0, ⟨b0, b1, b2, b3, b4, b5, b6, b7, b8, b9⟩, -⟩ := (isL_to hB HF1.out rfl).all))))
          all_goals
            go_wp2_with fail
            go_meet
            refine ⟨_, rfl, ?_⟩
            first
              | (with_reducible exact (rw_cutA (r := r) HT.out HF1.out hA NA))
              | (with_reducible exact (rw_cutB (r := r) HT.out HF1.out hB))
        · have HFN := HF0.out
          rw [hF] at HFN
          have HF := hide HFN
          clear HFN
          go_region_held3 (fun w' => w'.cell? ⟨w.heap.size, 1, none⟩ = some (.int .i64 p.s.x) ∧ w'.cell? ⟨w.heap.size, 2, none⟩ = some (.int .i64 p.s.y) ∧ w'.cell? ⟨w.heap.size, 3, none⟩ = some (.int .i64 p.s.d.t) ∧ w'.cell? ⟨w.heap.size, 4, none⟩ = some (.int .i64 p.s.d.n) ∧ w'.cell? ⟨w.heap.size, 5, none⟩ = some (.int .i64 p.s.d.e) ∧ w'.cell? ⟨w.heap.size, 6, none⟩ = some (.int .i64 p.s.d.s) ∧ w'.cell? ⟨w.heap.size, 7, none⟩ = some (.int .i64 p.s.d.w) ∧ w'.cell? ⟨w.heap.size, 8, none⟩ = some (.int .i64 p.s.d.b)) (first | (refine ⟨?_, ?_, ?_, ?_, ?_, ?_, ?_, ?_⟩ <;> with_reducible assumption) | (refine ⟨?_, ?_, ?_, ?_, ?_, ?_, ?_, ?_⟩ <;> (rw [cell_set8 (by omega)]; with_reducible assumption)) | (refine ⟨?_, ?_, ?_, ?_, ?_, ?_, ?_, ?_⟩ <;> (refine (((Below.refl _ _).alloc (Nat.le_refl _) _).cell (by first | exact l0 | exact m0)).trans ?_; with_reducible assumption)) | (refine ⟨?_, ?_, ?_, ?_, ?_, ?_, ?_, ?_⟩ <;> assumption))
            (first
              | (go_at_call 53; (refine (rollTo_any (dirC k) _ HDN.out).mono ?_); rintro e w' ⟨rfl, rfl⟩; rw [hF])
              | (go_at_call 67; (refine (HF.out _).mono ?_); rintro e w2 ⟨rfl, hb2⟩; (first | (have hA : Below (wr.alloc (.cells #[.int .i64 0, .int .i64 0, .int .i64 0, .int .i64 0, .int .i64 0, .int .i64 0, .int .i64 0, .int .i64 0] 57)).drew.heap.size (wr.alloc (.cells #[.int .i64 0, .int .i64 0, .int .i64 0, .int .i64 0, .int .i64 0, .int .i64 0, .int .i64 0, .int .i64 0] 57)).drew w2 := (by with_reducible exact hb2); have NA := isS_to hA (IsS.new (w := wr) (s := ⟨0, 0, ⟨0, 0, 0, 0, 0, 0⟩⟩) (ty := 57)) rfl; obtain ⟨l2, ⟨c0, c1, c2, c3, c4, c5, c6, c7⟩, f0, f1, f2, f3, f4, f5, f6, f7⟩ := NA.all; obtain ⟨m0, ⟨b0, b1, b2, b3, b4, b5, b6, b7, b8, b9⟩, -⟩ := (isL_to hA (HF1.out.alloc (.cells #[.int .i64 0, .int .i64 0, .int .i64 0, .int .i64 0, .int .i64 0, .int .i64 0, .int .i64 0, .int .i64 0] 57)) rfl).all) | (have hB : Below wr.drew.heap.size wr.drew w2 := (by with_reducible exact hb2); obtain ⟨m0, ⟨b0, b1, b2, b3, b4, b5, b6, b7, b8, b9⟩, -⟩ := (isL_to hB HF1.out rfl).all))))
          all_goals
            go_wp2_with fail
            go_meet
            refine ⟨_, rfl, ?_⟩
            first
              | (with_reducible exact (rw_cutA (r := r) HT.out HF1.out hA NA))
              | (with_reducible exact (rw_cutB (r := r) HT.out HF1.out hB))
        · have HFN := HF0.out
          rw [hF] at HFN
          have HF := hide HFN
          clear HFN
          go_region_held3 (fun w' => w'.cell? ⟨w.heap.size, 1, none⟩ = some (.int .i64 p.s.x) ∧ w'.cell? ⟨w.heap.size, 2, none⟩ = some (.int .i64 p.s.y) ∧ w'.cell? ⟨w.heap.size, 3, none⟩ = some (.int .i64 p.s.d.t) ∧ w'.cell? ⟨w.heap.size, 4, none⟩ = some (.int .i64 p.s.d.n) ∧ w'.cell? ⟨w.heap.size, 5, none⟩ = some (.int .i64 p.s.d.e) ∧ w'.cell? ⟨w.heap.size, 6, none⟩ = some (.int .i64 p.s.d.s) ∧ w'.cell? ⟨w.heap.size, 7, none⟩ = some (.int .i64 p.s.d.w) ∧ w'.cell? ⟨w.heap.size, 8, none⟩ = some (.int .i64 p.s.d.b)) (first | (refine ⟨?_, ?_, ?_, ?_, ?_, ?_, ?_, ?_⟩ <;> with_reducible assumption) | (refine ⟨?_, ?_, ?_, ?_, ?_, ?_, ?_, ?_⟩ <;> (rw [cell_set8 (by omega)]; with_reducible assumption)) | (refine ⟨?_, ?_, ?_, ?_, ?_, ?_, ?_, ?_⟩ <;> (refine (((Below.refl _ _).alloc (Nat.le_refl _) _).cell (by first | exact l0 | exact m0)).trans ?_; with_reducible assumption)) | (refine ⟨?_, ?_, ?_, ?_, ?_, ?_, ?_, ?_⟩ <;> assumption))
            (first
              | (go_at_call 53; (refine (rollTo_any (dirC k) _ HDN.out).mono ?_); rintro e w' ⟨rfl, rfl⟩; rw [hF])
              | (go_at_call 68; (refine (HF.out _).mono ?_); rintro e w2 ⟨rfl, hb2⟩; (first | (have hA : Below (wr.alloc (.cells #[.int .i64 0, .int .i64 0, .int .i64 0, .int .i64 0, .int .i64 0, .int .i64 0, .int .i64 0, .int .i64 0] 57)).drew.heap.size (wr.alloc (.cells #[.int .i64 0, .int .i64 0, .int .i64 0, .int .i64 0, .int .i64 0, .int .i64 0, .int .i64 0, .int .i64 0] 57)).drew w2 := (by with_reducible exact hb2); have NA := isS_to hA (IsS.new (w := wr) (s := ⟨0, 0, ⟨0, 0, 0, 0, 0, 0⟩⟩) (ty := 57)) rfl; obtain ⟨l2, ⟨c0, c1, c2, c3, c4, c5, c6, c7⟩, f0, f1, f2, f3, f4, f5, f6, f7⟩ := NA.all; obtain ⟨m0, ⟨b0, b1, b2, b3, b4, b5, b6, b7, b8, b9⟩, -⟩ := (isL_to hA (HF1.out.alloc (.cells #[.int .i64 0, .int .i64 0, .int .i64 0, .int .i64 0, .int .i64 0, .int .i64 0, .int .i64 0, .int .i64 0] 57)) rfl).all) | (have hB : Below wr.drew.heap.size wr.drew w2 := (by with_reducible exact hb2); obtain ⟨m0, ⟨b0, b1, b2, b3, b4, b5, b6, b7, b8, b9⟩, -⟩ := (isL_to hB HF1.out rfl).all))))
          all_goals
            go_wp2_with fail
            go_meet
            refine ⟨_, rfl, ?_⟩
            first
              | (with_reducible exact (rw_cutA (r := r) HT.out HF1.out hA NA))
              | (with_reducible exact (rw_cutB (r := r) HT.out HF1.out hB))
      obtain ⟨bb, rfl, N2, T2, F2⟩ := hcut
      clear a0 a1 a2 a3 a4 a5 a6 a7 a8 a9 l0 HT HF1 hdx HF0 h4
      obtain ⟨L, HWP, HLB⟩ := T2.lab
      obtain ⟨l1, ⟨c0, c1, c2, c3, c4, c5, c6, c7⟩, -⟩ := N2.all
      have HCA := hide (cellAtC_any L W H h g cap HWP.even HWP.hh (by omega) (by omega) r.x r.y wc HLB)
      have HT2 := hide T2
      have HF2 := hide F2
      have HN2 := hide N2
      have HWP := hide HWP
      have HLB := hide HLB
      clear T2 F2 N2
      obtain ⟨c, hcc⟩ : ∃ c, c = cellI (splitP L) r.x r.y := ⟨_, rfl⟩
      rw [← hcc] at HCA
      have HCC := hide hcc
      clear hcc
      cases hd : isDig c
      · have HD0 := hide hd
        have HSN := hide (HST.out.trans (stepL_no HFI.out HWP.out (by rw [← HRR.out, ← HCC.out]; exact hd)))
        clear hd
        go_wp2_with (first | (go_at_call 54; (with_reducible refine HCA.out.mono ?_); rintro e w2 ⟨rfl, rfl⟩) | (go_at_call 45; (refine (isLabel_any c _).mono ?_); rintro e w2 ⟨rfl, rfl⟩; rw [HD0.out]))
        go_roundw
        case rel => exact ⟨k + 1, _, by omega, by go_num, rfl, by rw [HSN.out]; exact HT2.out, HF2.out, HFB.out⟩
        case measure => simp [intOf] <;> omega
      · have HD0 := hide hd
        obtain ⟨hsy, x, y, hx, hy, hxW, hyH, hold⟩ := stepL_yes (k := k) (q := q) HFI.out HWP.out (by rw [← HRR.out, ← HCC.out]; exact hd)
        rw [← HRR.out] at hsy hx hy
        obtain ⟨rx, ry, rd⟩ := r
        simp only at hx hy hsy c0 c1 c2 c3 c4 c5 c6 c7 HCA HN2
        subst hx hy
        have HSY := hide (HST.out.trans hsy)
        have HLD := hide (fun wx ha => landed_any L W H h g cap HWP.out.even HWP.out.hh (by omega) (by omega) rd x y hxW hyH c HCC.out.symm hd (p.r + 1) wx ha)
        have hrw : IntKind.i64.wrap (p.r + 1) = p.r + 1 := IntWalk.i64_in _ (by have := HRB.out; omega)
        have hPP : (⟨(c.toNat : Int) - 48, ⟨(x : Int), (y : Int), rd⟩, p.r + 1⟩ : Ld) = ldOf l (⟨(x : Int), (y : Int), rd⟩, q.2 + 1) := by
          unfold ldOf
          simp only
          rw [← hold, ← HCC.out, HPR.out]
          rfl
        have HPP := hide hPP
        clear hd hsy hold hPP
        obtain ⟨l2, ⟨-, -, -, -, -, -, -, -, -, d9⟩, -⟩ := HF2.out.all
        have hl6 := HGQ.out.le HFI.out.toGrid6
        have hbas := HT2.out.bel.size
        have HOW := hide HT2.out.row
        go_wp2_with (first | (go_at_call 54; (with_reducible refine HCA.out.mono ?_); rintro e w2 ⟨rfl, rfl⟩) | (go_at_call 45; (refine (isLabel_any c _).mono ?_); rintro e w2 ⟨rfl, rfl⟩; rw [HD0.out]) | (go_at_call 52; (refine (HLD.out _ HLB.out).mono ?_); rintro e w3 ⟨rfl, B3, G3⟩; have HB3 := hide B3; have HG3 := hide G3; clear B3 G3) | (at_builtin; refine wpList_append_own_at _ rfl _ _ 42 rfl w0.heap.size 59 i0 _ 10 80 Tryz.underlying42 HI.out HZ0.out HZ1.out HZ2.out rfl (by decide) _ _ _ rfl (((HOW.out.kept HG3.out ?e1).alloc _)) ⟨w3.heap.size, 0, none⟩ 1 1 (ldC ⟨(c.toNat : Int) - 48, ⟨(x : Int), (y : Int), rd⟩, p.r + 1⟩) rfl rfl ?c1 ?c2 ?c3 ?c4 ?c5 ?_))
        case e1 => exact .inr (fun e => by have := (HOW.out.lt _ e).1; have := HHH.out.2.1; omega)
        case c1 => exact cell_land_new _ _
        case c2 => exact one_landC _
        case c3 => unfold maxLen; omega
        case c4 => omega
        case c5 => have := HG3.out.size; simp; omega
        · intro v' w4 O4 G4 _ h4'
          have hA := hide (RW.add HHH.out.1 HHH.out.2.1 HHH.out.2.2 HWP.out HLB.out HOW.out HT2.out.bel HF2.out HFB.out hw0 hxW hyH HB3.out HG3.out O4 G4 h4' HPP.out)
          clear O4 G4 h4'
          go_wp2
          go_roundw
          case rel =>
            obtain ⟨A1, A2, A3⟩ := hA.out
            exact ⟨k + 1, _, by omega, by go_num, rfl, by rw [HSY.out]; exact A1, A2, A3⟩
          case measure => simp [intOf] <;> omega
    · obtain rfl : k = 4 := by omega
      have hGQ := HG4.out 4 (by omega)
      have hge : Q.length ≤ (stepsL l q 4 Q).length := by obtain ⟨M, hM⟩ := stepsL_pre l q 4 Q; rw [hM, List.length_append]; omega
      have HCT := hide HC.out
      have HRT := hide HR.out
      clear HC HR
      generalize stepsL l q 4 Q = Q4 at hGQ HCT HRT T hge
      have hl6 := hGQ.le HFI.out.toGrid6
      have hbd : n < 100 := by have := HM.out; omega
      have hnw : IntKind.i64.wrap ((n : Int) + 1) = ((n + 1 : Nat) : Int) := by rw [IntWalk.i64_in _ (by omega)]; omega
      by_cases hgo : n + 1 < Q4.length
      · have hgi : ((n + 1 : Nat) : Int) < (Q4.length : Int) := by omega
        have HK := hide (HCT.out hgo)
        have HT := hide T
        obtain ⟨gq, cq, rfl, -, -⟩ := own_form T.row (by omega)
        generalize Q4.length = m4 at hgi HT ⊢
        clear T F1 hfb HCT HRT hgo
        go_wp2
        go_step3
        exact HK.out _ _ _ (rf_of rfl rfl rfl rfl rfl) HT.out
      · have hpos : 0 < Q4.length := by have := HM.out; omega
        obtain ⟨gq, cq, rfl, hq0, hq1⟩ := own_form T.row hpos
        obtain ⟨LA, FZ⟩ := rw_lands T
        have hgi : (Q4.length : Int) ≤ ((n + 1 : Nat) : Int) := by omega
        have hml : (Q4.map (ldOf l)).length = Q4.length := List.length_map _
        have HSO := hide (fun wx (a : LandsAt wx gq (Q4.map (ldOf l))) (b : ∀ j, wx.frozen? ⟨gq, j, none⟩ = false) => sortLand_any gq cq (Q4.map (ldOf l)) wx (by omega) a b)
        rw [hml] at HSO
        have HK := hide (HRT.out (by omega))
        have HBEL := hide T.bel
        have HLA := hide LA
        have HFZ := hide FZ
        generalize Q4.length = m4 at hgi HSO HK ⊢
        clear T F1 hfb HCT HRT hgo LA FZ hml hl6 hpos
        go_wp2_with (go_at_call 55; (with_reducible refine (HSO.out _ HLA.out HFZ.out).mono ?_); rintro e w2 ⟨rfl, hS, hG2⟩; have HS := hide hS; have HG2 := hide hG2; clear hS hG2)
        (first | go_step3 | skip)
        obtain ⟨Qs, s1, s2, s3⟩ := HS.out
        exact HK.out _ _ _ rfl rfl ⟨gq, cq, Qs, rfl, hq0, s3, s1, s2⟩ (grown_new HBEL.out HG2.out (fun j e => by rw [← Option.some.inj e]; exact hq0))
end Go.Proofs.YtkknjokacinlaaaGreatDoor
