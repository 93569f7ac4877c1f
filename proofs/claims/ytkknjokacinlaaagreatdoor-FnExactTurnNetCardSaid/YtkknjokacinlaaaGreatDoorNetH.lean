/- The program's landingsOnNet and IsNet: the faces that lie on a six are marked, each one once in a net. Condition: at most 1048576 bytes. -/
import Derived.Test.YtkknjokacinlaaaGreatDoorNetG
import Derived.Test.YtkknjokacinlaaaGreatDoorNeC
namespace Go.Proofs.YtkknjokacinlaaaGreatDoor
set_option maxRecDepth 100000
set_option linter.all false
open Go.RowKit

theorem idxFalse_any (b : Nat) (f : Nat → Bool) (w : World) (hf : w.rowIs b 55 6 (fun i => .bool (f i))) : Calls Tryz.prog 37 #[.slice (some ⟨b, 0, none⟩) 6 6, .bool false] w fun e w' => ((∃ k : Nat, k < 6 ∧ f k = false ∧ e = .returned (.int .i64 (k : Int))) ∨ ((∀ k, k < 6 → f k = true) ∧ e = .returned (.int .i64 (-1)))) ∧ w = w' := by
  have HF := hide hf
  clear hf
  go_enter Tryz.func37, Tryz.ntmps37
  go_wp2
  go_loop [8, 5] (fun i _ => ∃ k : Nat, k ≤ 6 ∧ i = .int .i64 (k : Int) ∧ Hid (∀ j, j < k → f j = true)) (fun i _ => 6 - (intOf i).toNat)
  case atStart => exact ⟨0, Nat.zero_le _, rfl, hide (fun j h => by omega)⟩
  case round =>
    obtain ⟨k, hk, rfl, hno⟩ := hrel
    by_cases hlt : k < 6
    · have hki : (k : Int) < 6 := by omega
      have c0 : w.cell? ⟨b, k, none⟩ = some (.bool (f k)) := HF.out.cell hlt
      cases hfk : f k
      · rw [hfk] at c0
        have HK := hide hfk
        clear hfk
        go_wp2
        go_returns
        exact ⟨.inl ⟨k, hlt, HK.out, rfl⟩, rfl⟩
      · rw [hfk] at c0
        have HK := hide hfk
        clear hfk
        go_wp2
        go_round
        case rel =>
          refine ⟨k + 1, by omega, by go_num, hide (fun j hj => ?_)⟩
          by_cases hjk : j < k
          · exact hno.out j hjk
          · obtain rfl : j = k := by omega
            exact HK.out
        case measure => simp [intOf]; omega
    · obtain rfl : k = 6 := by omega
      go_wp2
      go_returns
      exact ⟨.inr ⟨hno.out, rfl⟩, rfl⟩
/-- slices.Contains of false among six. -/
theorem hasFalse_any (b : Nat) (f : Nat → Bool) (w : World) (hf : w.rowIs b 55 6 (fun i => .bool (f i))) : Calls Tryz.prog 26 #[.slice (some ⟨b, 0, none⟩) 6 6, .bool false] w fun e w' => e = .returned (.bool (!decide (∀ k : Nat, k < 6 → f k = true))) ∧ w = w' := by
  by_cases h : ∀ k, k < 6 → f k = true
  · have HH := hide h
    have HI := hide (idxFalse_any b f w hf)
    clear h hf
    go_enter Tryz.func26, Tryz.ntmps26
    go_wp2_with (go_at_call 37; (with_reducible refine HI.out.mono ?_); rintro e w2 ⟨⟨k, hk, h0, rfl⟩ | ⟨-, rfl⟩, rfl⟩; (rw [HH.out k hk] at h0; cases h0))
    go_returns
    exact ⟨by rw [decide_eq_true HH.out]; rfl, rfl⟩
  · have HH := hide h
    have HI := hide (idxFalse_any b f w hf)
    clear h hf
    go_enter Tryz.func26, Tryz.ntmps26
    go_wp2_with fail
    refine HI.out.mono ?_
    rintro e w2 ⟨⟨k, hk, h0, rfl⟩ | ⟨h1, -⟩, rfl⟩
    · have hki : (0 : Int) ≤ (k : Int) := by omega
      go_wp2
      go_returns
      exact ⟨by rw [decide_eq_false HH.out]; rfl, rfl⟩
    · exact absurd h1 HH.out
theorem LandsAt.set {w : World} {g : Nat} {Q : List Ld} (h : LandsAt w g Q) {p : Addr} (hp : p.block ≠ g) (v : Value) : LandsAt (w.setCell p v) g Q := by
  refine ⟨by have := h.1; simpa using this, fun i q hq j hj => ?_⟩
  rw [World.cell?_setCell_other _ _ _ _ (fun e => hp (by rw [e]))]
  exact h.2 i q hq j hj
theorem lands_bots {l : List UInt8} (h : sixB l = true) : (lands l).map (fun q => q.s.d.b) = bots l := by
  obtain ⟨hF, h6⟩ := six_parts h
  unfold lands bots
  rw [List.map_map]
  exact List.map_congr_left (fun i hi => (land_says hF h6 hi).2.1)
theorem lands_len {l : List UInt8} (h : sixB l = true) : (lands l).length = 6 := by
  obtain ⟨hF, h6⟩ := six_parts h
  unfold lands
  rw [List.length_map, digs_len, hF.cnt]
theorem bots_bd {l : List UInt8} (h : sixB l = true) {b : Int} (hb : b ∈ bots l) : 0 ≤ b ∧ b < 6 := by
  obtain ⟨i, hi, rfl⟩ := List.mem_map.1 hb
  exact bot_bd h hi
theorem net_six {l : List UInt8} (h : sixB l = false) : netB l = false := by unfold netB; rw [h]; rfl
/-- What landingsOnNet hands back. -/
def NetLPost (l : List UInt8) (w : World) (e : Ending) (w' : World) : Prop :=
  (netB l = true ∧ ∃ g' cap', e = .returned (.tuple #[.slice (some ⟨g', 0, none⟩) 6 cap', .bool true]) ∧ w.heap.size ≤ g' ∧ LandsAt w' g' (lands l) ∧ Below w.heap.size w w') ∨
  (netB l = false ∧ e = .returned (.tuple #[.slice none 0 0, .bool false]) ∧ Below w.heap.size w w')
/-- Which faces are marked behind k digits. -/
def markF (B : List Int) (k : Nat) (i : Nat) : Bool := decide ((i : Int) ∈ B.take k)
theorem markF_snoc {B : List Int} {k b : Nat} (h : B[k]? = some (b : Int)) (i : Nat) : markF B (k + 1) i = if i = b then true else markF B k i := by
  unfold markF
  rw [List.take_add_one, h]
  by_cases e : i = b
  · subst e; rw [if_pos rfl]; simp
  · rw [if_neg e, decide_eq_decide, List.mem_append]
    constructor
    · rintro (h | h)
      · exact h
      · simp at h; omega
    · exact .inl
set_option maxHeartbeats 3200000 in
theorem landingsOnNet_any (s : ByteArray) (w : World) (hs : s.size ≤ 1048576) : Calls Tryz.prog 16 #[.string s] w (NetLPost s.data.toList w) := by
  have HL := fun wx => landingsOnSix_any s wx hs
  obtain ⟨l, hl⟩ : ∃ l, l = s.data.toList := ⟨_, rfl⟩
  simp only [← hl] at HL ⊢
  have HL := hide HL
  clear hl hs
  cases h6 : sixB l
  · have H6 := hide h6
    clear h6
    go_enter Tryz.func16, Tryz.ntmps16
    go_wp2_with (go_at_call 24; (refine (HL.out _).mono ?_); rintro e w2 (⟨hy, -⟩ | ⟨-, v, rfl, hb⟩); (rw [H6.out] at hy; cases hy))
    go_returns
    exact .inr ⟨net_six H6.out, rfl, hb⟩
  · have H6 := hide h6
    have HLEN := hide (lands_len h6)
    have HBL := hide (lands_bots h6)
    have HBD := hide (fun b hb => bots_bd h6 (b := b) hb)
    have HCV := hide (net_cover h6)
    clear h6
    go_enter Tryz.func16, Tryz.ntmps16
    go_wp2_with (go_at_call 24; (refine (HL.out _).mono ?_); rintro e w2 (⟨-, g', cap', rfl, hg, hL, hb⟩ | ⟨hy, -⟩); rotate_left; (rw [H6.out] at hy; cases hy))
    have HG := hide hg
    have hgl := hL.1
    have hz := hb.size
    have HB2 := hide hb
    have HL2 := hide hL
    clear hg hL hb
    go_loopw [18, 8] (fun i _ wr => ∃ k : Nat, k ≤ 6 ∧ i = .int .i64 (k : Int) ∧ wr.rowIs w2.heap.size 55 6 (fun i => .bool (markF (bots l) k i)) ∧ LandsAt wr g' (lands l) ∧ Below w.heap.size w wr) (fun i _ _ => 6 - (intOf i).toNat)
    case atStart =>
      refine ⟨0, Nat.zero_le _, rfl, ?_, landsAt_to ((Below.refl _ _).alloc (Nat.le_refl _) _) HL2.out rfl, HB2.out.alloc HB2.out.size _⟩
      exact World.rowIs_alloc w2 #[.bool false, .bool false, .bool false, .bool false, .bool false, .bool false] 55 _ (fun i hi => by
        match i, hi with
        | 0, _ => rfl
        | 1, _ => rfl
        | 2, _ => rfl
        | 3, _ => rfl
        | 4, _ => rfl
        | 5, _ => rfl)
    case round =>
      obtain ⟨k, hk, rfl, R, L, B⟩ := hrel
      by_cases hlt : k < 6
      · have hki : (k : Int) < 6 := by omega
        obtain ⟨q, hq⟩ : ∃ q, (lands l)[k]? = some q := ⟨_, List.getElem?_eq_getElem (by rw [HLEN.out]; exact hlt)⟩
        have hqb : (bots l)[k]? = some q.s.d.b := by rw [← HBL.out, List.getElem?_map, hq]; rfl
        obtain ⟨b0, b6⟩ := HBD.out _ (List.mem_of_getElem? hqb)
        obtain ⟨b, hbe⟩ := Int.eq_ofNat_of_zero_le b0
        rw [hbe] at hqb b6
        have hb6 : b < 6 := by omega
        have HBE := hide hbe
        have HSN := hide (fun i => markF_snoc hqb i)
        obtain ⟨a0, a1, a2, a3, a4, a5, a6, a7, a8, a9⟩ := L.cells hq
        have HR := hide R
        have HLA := hide L
        have HB := hide B
        clear R L B hq hqb hbe b0
        go_wp2_with (go_at_call 25; (refine (place_any q _).mono ?_); rintro e w3 ⟨rfl, hb3⟩; rw [HBE.out]; have HR3 := hide (rowIs_to hb3 (HR.out.alloc _) rfl); have HL3 := hide (landsAt_to hb3 (landsAt_to ((Below.refl _ _).alloc (Nat.le_refl _) _) HLA.out rfl) rfl); have HB3 := hide (below_after (HB.out.alloc HB.out.size _) hb3 (HB.out.alloc HB.out.size _).size); have d0 : w3.cell? ⟨w2.heap.size, b, none⟩ = some (.bool (markF (bots l) k b)) := HR3.out.cell hb6; have f0 := HR3.out.frozen b; clear hb3)
        go_roundw
        case rel =>
          refine ⟨k + 1, by omega, by go_num, (HR3.out.set b (.bool true)).congr (fun i _ => ?_), HL3.out.set (by show w2.heap.size ≠ g'; omega) _, HB3.out.setCell (p := ⟨w2.heap.size, b, none⟩) hz _⟩
          rw [HSN.out]
          by_cases e : i = b
          · rw [if_pos e, if_pos e]
          · rw [if_neg e, if_neg e]
        case measure => simp [intOf] <;> omega
      · obtain rfl : k = 6 := by omega
        have HLA := hide L
        have HB := hide B
        have HHF := hide (hasFalse_any _ _ _ R)
        have hcv : (decide (∀ k : Nat, k < 6 → markF (bots l) 6 k = true)) = netB l := by
          rw [HCV.out, decide_eq_decide]
          have hbl : (bots l).length = 6 := by rw [← HBL.out, List.length_map, HLEN.out]
          refine forall_congr' fun k => ?_
          unfold markF
          rw [List.take_of_length_le (by omega), decide_eq_true_eq]
        rw [hcv] at HHF
        clear R L B hcv
        cases hn : netB l
        · rw [hn] at HHF
          have HN := hide hn
          clear hn
          go_wp2_with (go_at_call 26; (with_reducible refine HHF.out.mono ?_); rintro e w4 ⟨rfl, rfl⟩)
          go_returns
          exact .inr ⟨HN.out, rfl, HB.out⟩
        · rw [hn] at HHF
          have HN := hide hn
          clear hn
          go_wp2_with (go_at_call 26; (with_reducible refine HHF.out.mono ?_); rintro e w4 ⟨rfl, rfl⟩)
          go_returns
          exact .inl ⟨HN.out, g', cap', rfl, HG.out, HLA.out, HB.out⟩
theorem isNet_any (s : ByteArray) (w : World) (hs : s.size ≤ 1048576) : Calls Tryz.prog 9 #[.string s] w fun e w' => e = .returned (.bool (netB s.data.toList)) ∧ Below w.heap.size w w' := by
  cases h : netB s.data.toList
  · have H := hide h
    clear h
    go_enter Tryz.func9, Tryz.ntmps9
    go_wp2_with (go_at_call 16; (refine (landingsOnNet_any s _ hs).mono ?_); rintro e w2 (⟨hy, -⟩ | ⟨-, rfl, hb⟩); (rw [H.out] at hy; cases hy))
    go_returns
    exact ⟨rfl, hb⟩
  · have H := hide h
    clear h
    go_enter Tryz.func9, Tryz.ntmps9
    go_wp2_with (go_at_call 16; (refine (landingsOnNet_any s _ hs).mono ?_); rintro e w2 (⟨-, g', cap', rfl, hg, hL, hb⟩ | ⟨hy, -⟩); rotate_left; (rw [H.out] at hy; cases hy))
    go_returns
    exact ⟨rfl, hb⟩
end Go.Proofs.YtkknjokacinlaaaGreatDoor
