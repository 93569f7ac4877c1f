/- The model of nets: spec.neNet, spec.IsNet. No condition. -/
import Derived.Test.YtkknjokacinlaaaGreatDoorNeE
import Derived.Test.YtkknjokacinlaaaGreatDoorNeG
import Derived.Laws.ResultCell
namespace Go.Proofs.YtkknjokacinlaaaGreatDoor
set_option maxRecDepth 100000
set_option linter.all false
open Go.RowKit

theorem net_sixM {l : List UInt8} (h : sixB l = false) : netB l = false := by unfold netB; rw [h]; rfl
/-- What neNet hands back. -/
def NetPost (l : List UInt8) (w : World) (e : Ending) (w' : World) : Prop :=
  (netB l = true ∧ ∃ gb cap ob, e = .returned (.tuple #[.agg #[.int .i64 ((width l : Nat) : Int), .int .i64 (((splitP l).length : Nat) : Int), .slice (some ⟨gb, 0, none⟩) (flatL l).length cap], .slice (some ⟨ob, 0, none⟩) (flatL l).length (flatL l).length, .bool true]) ∧ w.heap.size ≤ gb ∧ w.heap.size ≤ ob ∧ ByN w' gb (flatL l) ∧ w'.rowIs ob 3 (flatL l).length (fun i => .int .i64 (botI (width l) (lgs l) i)) ∧ Below w.heap.size w w') ∨
  (netB l = false ∧ ∃ (x y : Int) (a : Option Addr) (m c : Nat) (v : Value), e = .returned (.tuple #[.agg #[.int .i64 x, .int .i64 y, .slice a m c], v, .bool false]) ∧ Below w.heap.size w w')
theorem results_cell_tmp2N {fn : Func} {p u v : Tmp} {ty : TypeId} (h : fn.results = #[.cell p ty, .tmp u, .tmp v]) (tmps : Array Value) (P : Program) (w : World) :
    (results fn tmps).run P w =
      ((asAddr (tmps.getD p undef)).run P w).andThen fun a w₁ => ((loadVar ty a).run P w₁).andThen fun x w₂ => .ok (.tuple #[x, tmps.getD u undef, tmps.getD v undef]) w₂ := by
  simp only [results, h]
  simp [Sem.run_bind, Result.andThen]
theorem ret_netN {fn : Func} {p u v : Tmp} {tmps : Array Value} {w : World} {b : Nat} {x y : Int} {s r : Value} {ok : Bool} (h : fn.results = #[.cell p 27, .tmp v, .tmp u]) (hp : tmps.getD p undef = .pointer (some ⟨b, 0, none⟩)) (hv : tmps.getD v undef = r) (hu : tmps.getD u undef = .bool ok) (hd : IsGN w b x y s) :
    (results fn tmps).run Tryz.prog w = .ok (.tuple #[.agg #[.int .i64 x, .int .i64 y, s], r, .bool ok]) w := by
  rw [results_cell_tmp2N h, hp, hv, hu]
  show ((loadVar 27 ⟨b, 0, none⟩).run Tryz.prog w).andThen _ = _
  rw [hd.load]
  rfl
set_option maxHeartbeats 3200000 in
theorem neNet_any (s : ByteArray) (w : World) : Calls Tryz.prog 6 #[.string s] w (NetPost s.data.toList w) := by
  obtain ⟨l, hl⟩ : ∃ l, l = s.data.toList := ⟨_, rfl⟩
  rw [← hl]
  have q0 : Below w.heap.size w (w.alloc (.cells #[.int .i64 0, .int .i64 0, .slice none 0 0] 27)) := by go_grown
  have G0 := IsGN.new (w := w) (x := 0) (y := 0) (v := .slice none 0 0)
  go_enter Tryz.func6, Tryz.ntmps6
  go_wp2_with fail
  refine (neRead_any s _).mono ?_
  have hz0 := q0.size
  have hz1 : (w.alloc (.cells #[.int .i64 0, .int .i64 0, .slice none 0 0] 27)).heap.size = w.heap.size + 1 := by simp
  generalize w.alloc (.cells #[.int .i64 0, .int .i64 0, .slice none 0 0] 27) = W0 at q0 G0 hz0 hz1 ⊢
  rintro e w1 (⟨hr, v, rfl, O1, hb1⟩ | ⟨hr, rfl, hb1⟩)
  · have hpos : 0 < (splitP s.data.toList).flatten.length := by
      obtain ⟨p1, p2, p3, -⟩ := rd_parts hr
      rw [flat_even p3]
      exact Nat.mul_pos (by omega) (List.length_pos_iff.2 (splitP_ne _))
    obtain ⟨gb, cap, rfl, hg0, hg1⟩ := own_form O1 hpos
    have HB := hide (show ByN w1 gb (flatL s.data.toList) from byN_own O1 rfl)
    rw [← hl] at HB hr ⊢
    have HSX := hide (fun wx (hx : ByN wx gb (flatL l)) => neSix_any l gb _ cap hr rfl wx hx)
    have hfl : (splitP l).flatten = flatL l := rfl
    rw [hfl]
    have G1 := isGN_to hb1 G0 rfl
    have q1 := below_after q0 hb1 q0.size
    have hw1 := hb1.size
    have HG0 := hide (show w.heap.size < gb from by omega)
    clear O1 hpos hg0 hb1 q0 G0 hfl hl
    cases h6 : sixB l
    · have HN := hide (net_sixM h6)
      simp only [h6] at HSX
      obtain ⟨W, hW⟩ : ∃ W, W = width l := ⟨_, rfl⟩
      obtain ⟨H, hH⟩ : ∃ H, H = (splitP l).length := ⟨_, rfl⟩
      obtain ⟨n, hn⟩ : ∃ n, n = (flatL l).length := ⟨_, rfl⟩
      rw [← hW, ← hH, ← hn] at HSX
      rw [← hW, ← hH, ← hn]
      have HQ := hide q1
      have HG1 := hide G1
      clear hr h6 hW hH hn q1 G1
      go_wp2_with (go_at_call 12; (with_reducible refine (HSX.out _ ?_).mono ?_); exact byN_to ((Below.refl _ _).alloc (Nat.le_refl _) _) HB.out rfl; rintro e w2 ⟨rfl, hb2⟩; have HQ2 := hide (below_after (HQ.out.alloc HQ.out.size _) hb2 (HQ.out.alloc HQ.out.size _).size); have HA2 := hide (isGN_to hb2 (HG1.out.alloc _) rfl); have HE2 := hide (isGN_to hb2 (IsGN.new (w := w1) (x := (W : Int)) (y := (H : Int)) (v := .slice (some ⟨gb, 0, none⟩) n cap)) rfl); obtain ⟨l1, ⟨b0, b1, b2⟩, b3⟩ := HA2.out.all; obtain ⟨l2, ⟨c0, c1, c2⟩, -⟩ := HE2.out.all)
      refine bodyPost_ret (ret_netN Tryz.results6 rfl rfl rfl (HA2.out.set3 (W : Int) (H : Int) (.slice (some ⟨gb, 0, none⟩) n cap))) rfl (.inr ⟨HN.out, _, _, _, _, _, _, rfl, ?_⟩)
      exact below_set3N HQ2.out (Nat.le_refl _) _ _ _
    · have HNB := hide (show netB l = decide (bots l).Nodup from by unfold netB; rw [h6]; rfl)
      simp only [h6] at HSX
      have hF := (six_parts h6).1
      have hnl : (flatL l).length = width l * (splitP l).length := hF.toGrid6.flat_len
      have HBT := hide (fun wx (hx : ByN wx gb (flatL l)) => neBottoms_any l _ _ _ gb cap h6 hF hnl wx hx)
      obtain ⟨W, hW⟩ : ∃ W, W = width l := ⟨_, rfl⟩
      obtain ⟨H, hH⟩ : ∃ H, H = (splitP l).length := ⟨_, rfl⟩
      obtain ⟨n, hn⟩ : ∃ n, n = (flatL l).length := ⟨_, rfl⟩
      rw [← hW, ← hH, ← hn] at HSX HBT
      rw [← hW, ← hH, ← hn]
      have HW := hide hW
      have HH := hide hH
      have HNN := hide hn
      have HQ := hide q1
      have HG1 := hide G1
      clear hr h6 hW hH hn q1 G1 hF hnl
      go_wp2_with (first | (go_at_call 12; (with_reducible refine (HSX.out _ ?_).mono ?_); exact byN_to ((Below.refl _ _).alloc (Nat.le_refl _) _) HB.out rfl; rintro e w2 ⟨rfl, hb2⟩; have HQ2 := hide (below_after (HQ.out.alloc HQ.out.size _) hb2 (HQ.out.alloc HQ.out.size _).size); have HA2 := hide (isGN_to hb2 (HG1.out.alloc _) rfl); have HE2 := hide (isGN_to hb2 (IsGN.new (w := w1) (x := (W : Int)) (y := (H : Int)) (v := .slice (some ⟨gb, 0, none⟩) n cap)) rfl); have HY2 := hide (byN_to hb2 (byN_to ((Below.refl _ _).alloc (Nat.le_refl _) _) HB.out rfl) rfl); obtain ⟨l2, ⟨c0, c1, c2⟩, -⟩ := HE2.out.all) | (go_at_call 13; (with_reducible refine (HBT.out _ HY2.out).mono ?_); rintro e w3 ⟨rfl, R3, hb3⟩; have HR3 := hide R3; have HQ3 := hide (below_after HQ2.out hb3 HQ2.out.size); have HA3 := hide (isGN_to hb3 HA2.out rfl); have HE3 := hide (isGN_to hb3 HE2.out rfl); have HY3 := hide (byN_to hb3 HY2.out rfl); obtain ⟨l1, ⟨b0, b1, b2⟩, b3⟩ := HA3.out.all; obtain ⟨l3, ⟨d0, d1, d2⟩, -⟩ := HE3.out.all; clear R3))
      refine bodyPost_ret (ret_netN Tryz.results6 rfl rfl rfl (HA3.out.set3 (W : Int) (H : Int) (.slice (some ⟨gb, 0, none⟩) n cap))) rfl ?_
      unfold NetPost
      rw [← HW.out, ← HH.out, ← HNN.out]
      have hs3 := HQ3.out.size
      have hs2 := HQ2.out.size
      have hgl := HY3.out.1
      have hgw := HG0.out
      by_cases hnd : (bots l).Nodup
      · refine .inl ⟨by rw [HNB.out]; exact decide_eq_true hnd, gb, cap, w2.heap.size + 1, by rw [decide_eq_true hnd]; rfl, Nat.le_of_lt HG0.out, by omega, ⟨by simpa using hgl, fun i c hc => ?_⟩, ?_, below_set3N HQ3.out (Nat.le_refl _) _ _ _⟩
        · rw [World.cell?_setCell_other _ _ _ _ (fun e => by injection e with e1; omega), World.cell?_setCell_other _ _ _ _ (fun e => by injection e with e1; omega), World.cell?_setCell_other _ _ _ _ (fun e => by injection e with e1; omega)]
          exact HY3.out.2 i c hc
        · exact ((HR3.out.setOther (a := ⟨w.heap.size, 0, none⟩) (by show w2.heap.size + 1 ≠ w.heap.size; omega) _).setOther (a := ⟨w.heap.size, 1, none⟩) (by show w2.heap.size + 1 ≠ w.heap.size; omega) _).setOther (a := ⟨w.heap.size, 2, none⟩) (by show w2.heap.size + 1 ≠ w.heap.size; omega) _
      · exact .inr ⟨by rw [HNB.out]; exact decide_eq_false hnd, _, _, _, _, _, _, by rw [decide_eq_false hnd], below_set3N HQ3.out (Nat.le_refl _) _ _ _⟩
  · rw [← hl] at hr
    have HN := hide (net_sixM (six_rd hr))
    have G1 := isGN_to hb1 G0 rfl
    have q1 := below_after q0 hb1 q0.size
    obtain ⟨l1, ⟨b0, b1, b2⟩, b3⟩ := (G1.alloc (.cells #[.int .i64 0, .int .i64 0, .slice none 0 0] 27)).all
    clear hr hb1 q0 G0
    go_wp2
    refine bodyPost_ret (ret_netN Tryz.results6 rfl rfl rfl ((G1.alloc _).set3 0 0 (.slice none 0 0))) rfl (.inr ⟨HN.out, _, _, _, _, _, _, rfl, ?_⟩)
    exact below_set3N (q1.alloc q1.size _) (Nat.le_refl _) _ _ _
end Go.Proofs.YtkknjokacinlaaaGreatDoor
