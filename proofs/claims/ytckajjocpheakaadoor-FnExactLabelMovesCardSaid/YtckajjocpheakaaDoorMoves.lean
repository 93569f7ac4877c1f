/- The directions in which a roll leads to a state that matches: matchesOn, movesOf. -/
import Derived.Test.YtckajjocpheakaaDoorPrRoll
namespace Go.Proofs.YtckajjocpheakaaDoor
set_option maxRecDepth 100000
set_option linter.all false
open Go.RowKit

/-- Block b holds the rows that a closure has captured. -/
def CloAt (w : World) (b h g cap : Nat) (L : List UInt8) (W H : Nat) : Prop := b < w.heap.size ∧ w.cell? ⟨b, 0, none⟩ = some (.slice (some ⟨h, 0, none⟩) H cap) ∧ LabAt w h g L W H
theorem clo_to {w w0 w1 : World} {b h g cap : Nat} {L : List UInt8} {W H : Nat} (hb : Below w0.heap.size w0 w1) (hl : CloAt w b h g cap L W H) (e : w0.heap = w.heap) : CloAt w1 b h g cap L W H := by
  obtain ⟨h1, h2, h3⟩ := hl
  have hs := hb.size
  refine ⟨by rw [e] at hs; omega, ?_, labAt_to hb h3 e⟩
  rw [hb.cell (p := ⟨b, 0, none⟩) (by rw [e]; exact h1)]
  have h5 : w0.heap[(⟨b, 0, none⟩ : Addr).block]? = w.heap[(⟨b, 0, none⟩ : Addr).block]? := by rw [e]
  rw [World.cell?_of_block h5]
  exact h2
theorem clo_lt {w : World} {b h g cap : Nat} {L : List UInt8} {W H : Nat} (hl : CloAt w b h g cap L W H) : b < w.heap.size ∧ h < w.heap.size ∧ g < w.heap.size := ⟨hl.1, hl.2.2.1, hl.2.2.2.1.lt⟩
theorem clo_block {B : Nat} {w w1 : World} {b h g cap : Nat} {L : List UInt8} {W H : Nat} (hlt : b < B ∧ h < B ∧ g < B) (hb : Below B w w1) (hl : CloAt w b h g cap L W H) : CloAt w1 b h g cap L W H := by
  obtain ⟨h1, h2, h3, h4, h5⟩ := hl
  have hs := hb.size
  refine ⟨by omega, (hb.cell (p := ⟨b, 0, none⟩) hlt.1).trans h2, by omega, ?_, fun k hk => (hb.cell (p := ⟨h, k, none⟩) hlt.2.1).trans (h5 k hk)⟩
  obtain ⟨C, lo, hi, e1, e2⟩ := h4
  exact ⟨C, lo, hi, (hb.block g hlt.2.2).trans e1, e2⟩
set_option maxHeartbeats 800000 in
theorem matchOn1_any (L : List UInt8) (W H h g cap b : Nat) (he : Even L W) (hH : (splitP L).length = H) (hW7 : W ≤ 7) (hH7 : H ≤ 7) (s : St) (h0 : 0 ≤ s.d.t) (h9 : s.d.t ≤ 9) (w : World) (hc : CloAt w b h g cap L W H) :
    Calls Tryd.prog 81 #[St.v s, .pointer (some ⟨b, 0, none⟩)] w fun e w' => e = .returned (.bool (hitAt L s)) ∧ Below w.heap.size w w' := by
  have q0 : Below w.heap.size w (w.alloc (.cells #[.int .i64 s.x, .int .i64 s.y, .int .i64 s.d.t, .int .i64 s.d.n, .int .i64 s.d.e, .int .i64 s.d.s, .int .i64 s.d.w, .int .i64 s.d.b] 30)) := by go_grown
  have hc1 := clo_to q0 hc rfl
  have HL := hide hc1.2.2
  have c9 := hc1.2.1
  have HM := hide (matches_any L W H h g cap he hH hW7 hH7 s h0 h9)
  have S0 := IsS.new (w := w) (s := s) (ty := 30)
  obtain ⟨l0, ⟨a0, a1, a2, a3, a4, a5, a6, a7⟩, -⟩ := S0.all
  clear he hH hc hc1
  go_enter Tryd.func81, Tryd.ntmps81
  go_wp2_with fail
  refine (HM.out _ HL.out).mono ?_
  rintro e w1 ⟨rfl, hb1⟩
  have q1 := below_after q0 hb1 q0.size
  go_wp2
  go_returns
  exact ⟨rfl, q1⟩
theorem matchesOn_any (L : List UInt8) (W H h g cap : Nat) (w : World) (hl : LabAt w h g L W H) :
    Calls Tryd.prog 61 #[.slice (some ⟨h, 0, none⟩) H cap] w fun e w' => ∃ b, e = .returned (.func (.func 81) #[] #[.pointer (some ⟨b, 0, none⟩)]) ∧ CloAt w' b h g cap L W H ∧ Below w.heap.size w w' := by
  have hmf : ∀ (fn : Fn) (first cap : Array Value) (w : World), (Instr.makeFunc fn first cap).run Tryd.prog w = .ok (.func fn first cap) w := fun _ _ _ _ => rfl
  have HC := hide (show CloAt (w.alloc (.cells #[.slice (some ⟨h, 0, none⟩) H cap] 68)) w.heap.size h g cap L W H from ⟨by simp, by rw [World.cell?_alloc_mark]; rfl, labAt_to (w0 := w) ((Below.refl _ _).alloc (Nat.le_refl _) _) hl rfl⟩)
  clear hl
  go_enter Tryd.func61, Tryd.ntmps61
  go_wp2
  go_returns
  exact ⟨_, rfl, HC.out, by go_grown⟩

/-- The directions in which a state can be rolled to one that matches. -/
def mvW (l : List UInt8) (s : St) : Nat → List UInt8
  | 0 => []
  | k + 1 => if hitAt l (rollT s (k : Int)) = true then mvW l s k ++ [dirN k] else mvW l s k
theorem mvW_len (l : List UInt8) (s : St) : ∀ k, (mvW l s k).length ≤ k
  | 0 => Nat.le_refl _
  | k + 1 => by
    have := mvW_len l s k
    unfold mvW
    split
    · simp; omega
    · omega

theorem rollFn_fourM : ∀ (k : Nat) (_ : k < 4), rollFn (dirN k) = 86 ∨ rollFn (dirN k) = 87 ∨ rollFn (dirN k) = 88 ∨ rollFn (dirN k) = 89
  | 0, _ => .inl rfl
  | 1, _ => .inr (.inl rfl)
  | 2, _ => .inr (.inr (.inl rfl))
  | 3, _ => .inr (.inr (.inr rfl))
set_option maxHeartbeats 8000000 in
theorem movesOf_any (L : List UInt8) (W H h g cap b : Nat) (he : Even L W) (hH : (splitP L).length = H) (hW7 : W ≤ 7) (hH7 : H ≤ 7) (s : St) (hgd : goodB s.d = true) (hx : -100000 ≤ s.x ∧ s.x ≤ 100000) (hy : -100000 ≤ s.y ∧ s.y ≤ 100000) (w : World) (hc : CloAt w b h g cap L W H) :
    Calls Tryd.prog 40 #[St.v s, .func (.func 81) #[] #[.pointer (some ⟨b, 0, none⟩)]] w fun e w' => e = .returned (.string ⟨(mvW L s 4).toArray⟩) ∧ Below w.heap.size w w' := by
  obtain ⟨i0, hi, hz0, hz1, hz2⟩ := info_parts info_u8U
  have HI := hide hi
  have HZ0 := hide hz0
  have HZ1 := hide hz1
  have HZ2 := hide hz2
  have HE := hide he
  have HHH := hide hH
  have HGD := hide hgd
  have HX := hide hx
  have HY := hide hy
  have q1 : Below w.heap.size w (w.alloc (.cells #[.int .i64 s.x, .int .i64 s.y, .int .i64 s.d.t, .int .i64 s.d.n, .int .i64 s.d.e, .int .i64 s.d.s, .int .i64 s.d.w, .int .i64 s.d.b] 30)) := by go_grown
  have u1 := IsS.new (w := w) (s := s) (ty := 30)
  have HC1 := hide (clo_to q1 hc rfl)
  have hbc := clo_lt hc
  clear hi hz0 hz1 hz2 he hH hgd hx hy hc
  go_enter Tryd.func40, Tryd.ntmps40
  go_wp2_with (at_make; refine wpList_make_own _ rfl _ _ 42 rfl (w.alloc (.cells #[.int .i64 s.x, .int .i64 s.y, .int .i64 s.d.t, .int .i64 s.d.n, .int .i64 s.d.e, .int .i64 s.d.s, .int .i64 s.d.w, .int .i64 s.d.b] 30)).heap.size 5 i0 (.int .u8 0) 1 Tryd.underlying42 HI.out HZ0.out HZ1.out .i64 .i64 _ 4 rfl rfl (by omega) (by rw [HZ2.out]; omega) (by unfold maxLen; omega) (Nat.le_refl _) ?_; intro w0 hown0 hgrow0)
  have hbm : Below (w.alloc (.cells #[.int .i64 s.x, .int .i64 s.y, .int .i64 s.d.t, .int .i64 s.d.n, .int .i64 s.d.e, .int .i64 s.d.s, .int .i64 s.d.w, .int .i64 s.d.b] 30)).heap.size (w.alloc (.cells #[.int .i64 s.x, .int .i64 s.y, .int .i64 s.d.t, .int .i64 s.d.n, .int .i64 s.d.e, .int .i64 s.d.s, .int .i64 s.d.w, .int .i64 s.d.b] 30)) w0 := (Below.refl _ _).grown hgrow0 (Nat.le_refl _) (fun k hk => by cases hk)
  have u0 := isS_to hbm u1 rfl
  have C0 := hide (clo_to hbm HC1.out rfl)
  have q0 := below_to hbm q1 q1.size rfl rfl rfl rfl
  have hBl : w.heap.size + 1 = (w.alloc (.cells #[.int .i64 s.x, .int .i64 s.y, .int .i64 s.d.t, .int .i64 s.d.n, .int .i64 s.d.e, .int .i64 s.d.s, .int .i64 s.d.w, .int .i64 s.d.b] 30)).heap.size := by simp
  clear hgrow0 hbm u1 HC1 q1
  rw [← hBl] at hown0
  clear hBl
  obtain ⟨B, hBl⟩ : ∃ B, B = w.heap.size + 1 := ⟨_, rfl⟩
  rw [← hBl] at hown0 ⊢
  have hBB : w.heap.size ≤ B := by omega
  have HBL := hide (show w.heap.size < B from by omega)
  have HBC := hide (show b < B ∧ h < B ∧ g < B from by omega)
  clear hBl hbc
  go_wp2
  go_loopw [8, 6, 5] (fun i _ o wr => ∃ k : Nat, k ≤ 4 ∧ i = .int .i64 (k : Int) ∧ o = .slice (some ⟨B, 0, none⟩) (mvW L s k).length 4 ∧ wr.ownsRow B 5 1 (.slice (some ⟨B, 0, none⟩) (mvW L s k).length 4) (mvW L s k).length (bytesV (mvW L s k)) ∧ IsS wr w.heap.size s 30 ∧ CloAt wr b h g cap L W H ∧ Below w.heap.size w wr) (fun i _ _ _ => 4 - (intOf i).toNat)
  case atStart => exact ⟨0, by omega, rfl, rfl, hown0, u0, C0.out, q0⟩
  case round =>
    obtain ⟨k, hk, rfl, rfl, O, u, CC, q⟩ := hrel
    clear u0 C0 q0 hown0
    by_cases hlt : k < 4
    · obtain ⟨l0, ⟨a0, a1, a2, a3, a4, a5, a6, a7⟩, -⟩ := u.all
      have hki : (k : Int) < 4 := by omega
      have HK := hide (show mvW L s (k + 1) = (if hitAt L (rollT s (k : Int)) = true then mvW L s k ++ [dirN k] else mvW L s k) from rfl)
      have hol := mvW_len L s k
      generalize ho : mvW L s k = o at hol HK O
      clear ho
      have HCL := hide CC
      have HO := hide O
      clear CC O
      have hdx := dixU k hlt
      have HD := hide (dirIx_N k hlt)
      have HDN := hide (show 0 ≤ dirIx (dirN k).toNat from by rw [dirIx_N k hlt]; omega)
      have HT := hide (good_top (good_roll HGD.out k hlt))
      generalize hr : rollT s (k : Int) = r at HT HK
      have HRR := hide hr
      clear hr
      have HFN := fun wx => rollFn_any (dirN k) s wx HDN.out HX.out HY.out
      simp only [HD.out, HRR.out] at HFN
      have h4 := hide (rollFn_fourM k hlt)
      have HF0 := hide HFN
      clear HFN
      go_upto_region 5 with (fail)
      cases hh : hitAt L r
      · have HS := hide (show mvW L s (k + 1) = o from by rw [HK.out, hh]; rfl)
        have HHIT := hide hh
        clear hh
        rcases h4.out with hF | hF | hF | hF
        · have HFN := HF0.out
          rw [hF] at HFN
          have HF := hide HFN
          clear HFN
          go_region_held3 (fun w' => w'.cell? ⟨w.heap.size, 0, none⟩ = some (.int .i64 s.x) ∧ w'.cell? ⟨w.heap.size, 1, none⟩ = some (.int .i64 s.y) ∧ w'.cell? ⟨w.heap.size, 2, none⟩ = some (.int .i64 s.d.t) ∧ w'.cell? ⟨w.heap.size, 3, none⟩ = some (.int .i64 s.d.n) ∧ w'.cell? ⟨w.heap.size, 4, none⟩ = some (.int .i64 s.d.e) ∧ w'.cell? ⟨w.heap.size, 5, none⟩ = some (.int .i64 s.d.s) ∧ w'.cell? ⟨w.heap.size, 6, none⟩ = some (.int .i64 s.d.w) ∧ w'.cell? ⟨w.heap.size, 7, none⟩ = some (.int .i64 s.d.b)) (first | (refine ⟨?_, ?_, ?_, ?_, ?_, ?_, ?_, ?_⟩ <;> with_reducible assumption) | (refine ⟨?_, ?_, ?_, ?_, ?_, ?_, ?_, ?_⟩ <;> assumption))
            (first
              | (go_at_call 71; (refine (rollTo_any (dirN k) _ HDN.out).mono ?_); rintro e w' ⟨rfl, rfl⟩; rw [hF])
              | (go_at_call 86; (refine (HF.out _).mono ?_); rintro e w2 ⟨rfl, hb2⟩; have u2 := isS_to hb2 u rfl; have C2 := hide (clo_to hb2 HCL.out rfl); have O2 := hide (own_to hb2 HO.out rfl); have q2 := below_to hb2 q q.size rfl rfl rfl rfl; obtain ⟨m0, ⟨b0, b1, b2, b3, b4, b5, b6, b7⟩, -⟩ := u2.all; clear hb2)
              | (go_at_call 81; (refine (matchOn1_any L W H h g cap b HE.out HHH.out hW7 hH7 r HT.out.1 HT.out.2 _ C2.out).mono ?_); rintro e w3 ⟨rfl, hb3⟩; rw [HHIT.out]; have u3 := isS_to hb3 u2 rfl; have C3 := hide (clo_to hb3 C2.out rfl); have O3 := hide (own_to hb3 O2.out rfl); have q3 := below_to hb3 q2 q2.size rfl rfl rfl rfl; obtain ⟨n0, ⟨d0, d1, d2, d3, d4, d5, d6, d7⟩, -⟩ := u3.all; clear hb3))
          go_wp2
          go_roundw
          case rel => exact ⟨k + 1, by omega, by go_num, by rw [HS.out], by rw [HS.out]; exact O3.out, u3, C3.out, q3⟩
          case measure => simp [intOf] <;> omega
        · have HFN := HF0.out
          rw [hF] at HFN
          have HF := hide HFN
          clear HFN
          go_region_held3 (fun w' => w'.cell? ⟨w.heap.size, 0, none⟩ = some (.int .i64 s.x) ∧ w'.cell? ⟨w.heap.size, 1, none⟩ = some (.int .i64 s.y) ∧ w'.cell? ⟨w.heap.size, 2, none⟩ = some (.int .i64 s.d.t) ∧ w'.cell? ⟨w.heap.size, 3, none⟩ = some (.int .i64 s.d.n) ∧ w'.cell? ⟨w.heap.size, 4, none⟩ = some (.int .i64 s.d.e) ∧ w'.cell? ⟨w.heap.size, 5, none⟩ = some (.int .i64 s.d.s) ∧ w'.cell? ⟨w.heap.size, 6, none⟩ = some (.int .i64 s.d.w) ∧ w'.cell? ⟨w.heap.size, 7, none⟩ = some (.int .i64 s.d.b)) (first | (refine ⟨?_, ?_, ?_, ?_, ?_, ?_, ?_, ?_⟩ <;> with_reducible assumption) | (refine ⟨?_, ?_, ?_, ?_, ?_, ?_, ?_, ?_⟩ <;> assumption))
            (first
              | (go_at_call 71; (refine (rollTo_any (dirN k) _ HDN.out).mono ?_); rintro e w' ⟨rfl, rfl⟩; rw [hF])
              | (go_at_call 87; (refine (HF.out _).mono ?_); rintro e w2 ⟨rfl, hb2⟩; have u2 := isS_to hb2 u rfl; have C2 := hide (clo_to hb2 HCL.out rfl); have O2 := hide (own_to hb2 HO.out rfl); have q2 := below_to hb2 q q.size rfl rfl rfl rfl; obtain ⟨m0, ⟨b0, b1, b2, b3, b4, b5, b6, b7⟩, -⟩ := u2.all; clear hb2)
              | (go_at_call 81; (refine (matchOn1_any L W H h g cap b HE.out HHH.out hW7 hH7 r HT.out.1 HT.out.2 _ C2.out).mono ?_); rintro e w3 ⟨rfl, hb3⟩; rw [HHIT.out]; have u3 := isS_to hb3 u2 rfl; have C3 := hide (clo_to hb3 C2.out rfl); have O3 := hide (own_to hb3 O2.out rfl); have q3 := below_to hb3 q2 q2.size rfl rfl rfl rfl; obtain ⟨n0, ⟨d0, d1, d2, d3, d4, d5, d6, d7⟩, -⟩ := u3.all; clear hb3))
          go_wp2
          go_roundw
          case rel => exact ⟨k + 1, by omega, by go_num, by rw [HS.out], by rw [HS.out]; exact O3.out, u3, C3.out, q3⟩
          case measure => simp [intOf] <;> omega
        · have HFN := HF0.out
          rw [hF] at HFN
          have HF := hide HFN
          clear HFN
          go_region_held3 (fun w' => w'.cell? ⟨w.heap.size, 0, none⟩ = some (.int .i64 s.x) ∧ w'.cell? ⟨w.heap.size, 1, none⟩ = some (.int .i64 s.y) ∧ w'.cell? ⟨w.heap.size, 2, none⟩ = some (.int .i64 s.d.t) ∧ w'.cell? ⟨w.heap.size, 3, none⟩ = some (.int .i64 s.d.n) ∧ w'.cell? ⟨w.heap.size, 4, none⟩ = some (.int .i64 s.d.e) ∧ w'.cell? ⟨w.heap.size, 5, none⟩ = some (.int .i64 s.d.s) ∧ w'.cell? ⟨w.heap.size, 6, none⟩ = some (.int .i64 s.d.w) ∧ w'.cell? ⟨w.heap.size, 7, none⟩ = some (.int .i64 s.d.b)) (first | (refine ⟨?_, ?_, ?_, ?_, ?_, ?_, ?_, ?_⟩ <;> with_reducible assumption) | (refine ⟨?_, ?_, ?_, ?_, ?_, ?_, ?_, ?_⟩ <;> assumption))
            (first
              | (go_at_call 71; (refine (rollTo_any (dirN k) _ HDN.out).mono ?_); rintro e w' ⟨rfl, rfl⟩; rw [hF])
              | (go_at_call 88; (refine (HF.out _).mono ?_); rintro e w2 ⟨rfl, hb2⟩; have u2 := isS_to hb2 u rfl; have C2 := hide (clo_to hb2 HCL.out rfl); have O2 := hide (own_to hb2 HO.out rfl); have q2 := below_to hb2 q q.size rfl rfl rfl rfl; obtain ⟨m0, ⟨b0, b1, b2, b3, b4, b5, b6, b7⟩, -⟩ := u2.all; clear hb2)
              | (go_at_call 81; (refine (matchOn1_any L W H h g cap b HE.out HHH.out hW7 hH7 r HT.out.1 HT.out.2 _ C2.out).mono ?_); rintro e w3 ⟨rfl, hb3⟩; rw [HHIT.out]; have u3 := isS_to hb3 u2 rfl; have C3 := hide (clo_to hb3 C2.out rfl); have O3 := hide (own_to hb3 O2.out rfl); have q3 := below_to hb3 q2 q2.size rfl rfl rfl rfl; obtain ⟨n0, ⟨d0, d1, d2, d3, d4, d5, d6, d7⟩, -⟩ := u3.all; clear hb3))
          go_wp2
          go_roundw
          case rel => exact ⟨k + 1, by omega, by go_num, by rw [HS.out], by rw [HS.out]; exact O3.out, u3, C3.out, q3⟩
          case measure => simp [intOf] <;> omega
        · have HFN := HF0.out
          rw [hF] at HFN
          have HF := hide HFN
          clear HFN
          go_region_held3 (fun w' => w'.cell? ⟨w.heap.size, 0, none⟩ = some (.int .i64 s.x) ∧ w'.cell? ⟨w.heap.size, 1, none⟩ = some (.int .i64 s.y) ∧ w'.cell? ⟨w.heap.size, 2, none⟩ = some (.int .i64 s.d.t) ∧ w'.cell? ⟨w.heap.size, 3, none⟩ = some (.int .i64 s.d.n) ∧ w'.cell? ⟨w.heap.size, 4, none⟩ = some (.int .i64 s.d.e) ∧ w'.cell? ⟨w.heap.size, 5, none⟩ = some (.int .i64 s.d.s) ∧ w'.cell? ⟨w.heap.size, 6, none⟩ = some (.int .i64 s.d.w) ∧ w'.cell? ⟨w.heap.size, 7, none⟩ = some (.int .i64 s.d.b)) (first | (refine ⟨?_, ?_, ?_, ?_, ?_, ?_, ?_, ?_⟩ <;> with_reducible assumption) | (refine ⟨?_, ?_, ?_, ?_, ?_, ?_, ?_, ?_⟩ <;> assumption))
            (first
              | (go_at_call 71; (refine (rollTo_any (dirN k) _ HDN.out).mono ?_); rintro e w' ⟨rfl, rfl⟩; rw [hF])
              | (go_at_call 89; (refine (HF.out _).mono ?_); rintro e w2 ⟨rfl, hb2⟩; have u2 := isS_to hb2 u rfl; have C2 := hide (clo_to hb2 HCL.out rfl); have O2 := hide (own_to hb2 HO.out rfl); have q2 := below_to hb2 q q.size rfl rfl rfl rfl; obtain ⟨m0, ⟨b0, b1, b2, b3, b4, b5, b6, b7⟩, -⟩ := u2.all; clear hb2)
              | (go_at_call 81; (refine (matchOn1_any L W H h g cap b HE.out HHH.out hW7 hH7 r HT.out.1 HT.out.2 _ C2.out).mono ?_); rintro e w3 ⟨rfl, hb3⟩; rw [HHIT.out]; have u3 := isS_to hb3 u2 rfl; have C3 := hide (clo_to hb3 C2.out rfl); have O3 := hide (own_to hb3 O2.out rfl); have q3 := below_to hb3 q2 q2.size rfl rfl rfl rfl; obtain ⟨n0, ⟨d0, d1, d2, d3, d4, d5, d6, d7⟩, -⟩ := u3.all; clear hb3))
          go_wp2
          go_roundw
          case rel => exact ⟨k + 1, by omega, by go_num, by rw [HS.out], by rw [HS.out]; exact O3.out, u3, C3.out, q3⟩
          case measure => simp [intOf] <;> omega
      · have HS := hide (show mvW L s (k + 1) = o ++ [dirN k] from by rw [HK.out, hh]; rfl)
        have HHIT := hide hh
        clear hh
        rcases h4.out with hF | hF | hF | hF
        · have HFN := HF0.out
          rw [hF] at HFN
          have HF := hide HFN
          clear HFN
          go_region_held3 (fun w' => w'.cell? ⟨w.heap.size, 0, none⟩ = some (.int .i64 s.x) ∧ w'.cell? ⟨w.heap.size, 1, none⟩ = some (.int .i64 s.y) ∧ w'.cell? ⟨w.heap.size, 2, none⟩ = some (.int .i64 s.d.t) ∧ w'.cell? ⟨w.heap.size, 3, none⟩ = some (.int .i64 s.d.n) ∧ w'.cell? ⟨w.heap.size, 4, none⟩ = some (.int .i64 s.d.e) ∧ w'.cell? ⟨w.heap.size, 5, none⟩ = some (.int .i64 s.d.s) ∧ w'.cell? ⟨w.heap.size, 6, none⟩ = some (.int .i64 s.d.w) ∧ w'.cell? ⟨w.heap.size, 7, none⟩ = some (.int .i64 s.d.b)) (first | (refine ⟨?_, ?_, ?_, ?_, ?_, ?_, ?_, ?_⟩ <;> with_reducible assumption) | (refine ⟨?_, ?_, ?_, ?_, ?_, ?_, ?_, ?_⟩ <;> assumption))
            (first
              | (go_at_call 71; (refine (rollTo_any (dirN k) _ HDN.out).mono ?_); rintro e w' ⟨rfl, rfl⟩; rw [hF])
              | (go_at_call 86; (refine (HF.out _).mono ?_); rintro e w2 ⟨rfl, hb2⟩; have u2 := isS_to hb2 u rfl; have C2 := hide (clo_to hb2 HCL.out rfl); have O2 := hide (own_to hb2 HO.out rfl); have q2 := below_to hb2 q q.size rfl rfl rfl rfl; obtain ⟨m0, ⟨b0, b1, b2, b3, b4, b5, b6, b7⟩, -⟩ := u2.all; clear hb2)
              | (go_at_call 81; (refine (matchOn1_any L W H h g cap b HE.out HHH.out hW7 hH7 r HT.out.1 HT.out.2 _ C2.out).mono ?_); rintro e w3 ⟨rfl, hb3⟩; rw [HHIT.out]; have u3 := isS_to hb3 u2 rfl; have C3 := hide (clo_to hb3 C2.out rfl); have O3 := hide (own_to hb3 O2.out rfl); have q3 := below_to hb3 q2 q2.size rfl rfl rfl rfl; obtain ⟨n0, ⟨d0, d1, d2, d3, d4, d5, d6, d7⟩, -⟩ := u3.all; clear hb3))
          have hz3 := q3.size
          have hO3 := own_lt2 O3.out
          clear d0 d1 d2 d3 d4 d5 d6 d7 n0 b0 b1 b2 b3 b4 b5 b6 b7 m0 a0 a1 a2 a3 a4 a5 a6 a7 l0
          go_wp2_with (at_builtin; refine wpList_append_fits _ rfl _ _ 42 rfl B 5 i0 1 Tryd.underlying42 HI.out HZ1.out B o.length 4 _ rfl (O3.out.alloc _) ⟨w3.heap.size, 0, none⟩ 1 1 [.int .u8 ((dirN k).toNat : Int)] rfl rfl ?c1 ?c2 (by omega) ?_)
          case c1 =>
            intro j u hj
            match j, hj with
            | 0, hj => simp at hj; subst hj; simp [Addr.add, World.cell?_alloc_mark]
          case c2 => intro u hu; simp at hu; subst hu; rfl
          · intro w4 hown4 hg4
            have hb4 : Below B (w3.alloc (.cells #[.int .u8 ((dirN k).toNat : Int)] 5)) w4 := (Below.refl B _).grown hg4 (by simp; omega) (fun j hj => by cases hj; exact Nat.le_refl _)
            have hO4 := hide (show w4.ownsRow B 5 1 (.slice (some ⟨B, 0, none⟩) (o.length + 1) 4) (o.length + 1) (bytesV o ++ [.int .u8 ((dirN k).toNat : Int)]) from hown4)
            have u4 : IsS w4 w.heap.size s 30 := (hb4.block _ HBL.out).trans (u3.alloc _)
            have C4 := hide (show CloAt w4 b h g cap L W H from clo_block HBC.out hb4 (clo_to ((Below.refl _ _).alloc (Nat.le_refl _) _) C3.out rfl))
            have q4 : Below w.heap.size w w4 := (q3.alloc hz3 _).grown hg4 (by simp; omega) (fun j hj => by cases hj; exact hBB)
            clear hown4 hg4 hb4
            go_wp2
            go_roundw
            case rel =>
              refine ⟨k + 1, by omega, by go_num, by rw [HS.out]; simp, ?_, u4, C4.out, q4⟩
              rw [HS.out, bytesV_snoc, List.length_append]
              exact hO4.out
            case measure => simp [intOf] <;> omega
        · have HFN := HF0.out
          rw [hF] at HFN
          have HF := hide HFN
          clear HFN
          go_region_held3 (fun w' => w'.cell? ⟨w.heap.size, 0, none⟩ = some (.int .i64 s.x) ∧ w'.cell? ⟨w.heap.size, 1, none⟩ = some (.int .i64 s.y) ∧ w'.cell? ⟨w.heap.size, 2, none⟩ = some (.int .i64 s.d.t) ∧ w'.cell? ⟨w.heap.size, 3, none⟩ = some (.int .i64 s.d.n) ∧ w'.cell? ⟨w.heap.size, 4, none⟩ = some (.int .i64 s.d.e) ∧ w'.cell? ⟨w.heap.size, 5, none⟩ = some (.int .i64 s.d.s) ∧ w'.cell? ⟨w.heap.size, 6, none⟩ = some (.int .i64 s.d.w) ∧ w'.cell? ⟨w.heap.size, 7, none⟩ = some (.int .i64 s.d.b)) (first | (refine ⟨?_, ?_, ?_, ?_, ?_, ?_, ?_, ?_⟩ <;> with_reducible assumption) | (refine ⟨?_, ?_, ?_, ?_, ?_, ?_, ?_, ?_⟩ <;> assumption))
            (first
              | (go_at_call 71; (refine (rollTo_any (dirN k) _ HDN.out).mono ?_); rintro e w' ⟨rfl, rfl⟩; rw [hF])
              | (go_at_call 87; (refine (HF.out _).mono ?_); rintro e w2 ⟨rfl, hb2⟩; have u2 := isS_to hb2 u rfl; have C2 := hide (clo_to hb2 HCL.out rfl); have O2 := hide (own_to hb2 HO.out rfl); have q2 := below_to hb2 q q.size rfl rfl rfl rfl; obtain ⟨m0, ⟨b0, b1, b2, b3, b4, b5, b6, b7⟩, -⟩ := u2.all; clear hb2)
              | (go_at_call 81; (refine (matchOn1_any L W H h g cap b HE.out HHH.out hW7 hH7 r HT.out.1 HT.out.2 _ C2.out).mono ?_); rintro e w3 ⟨rfl, hb3⟩; rw [HHIT.out]; have u3 := isS_to hb3 u2 rfl; have C3 := hide (clo_to hb3 C2.out rfl); have O3 := hide (own_to hb3 O2.out rfl); have q3 := below_to hb3 q2 q2.size rfl rfl rfl rfl; obtain ⟨n0, ⟨d0, d1, d2, d3, d4, d5, d6, d7⟩, -⟩ := u3.all; clear hb3))
          have hz3 := q3.size
          have hO3 := own_lt2 O3.out
          clear d0 d1 d2 d3 d4 d5 d6 d7 n0 b0 b1 b2 b3 b4 b5 b6 b7 m0 a0 a1 a2 a3 a4 a5 a6 a7 l0
          go_wp2_with (at_builtin; refine wpList_append_fits _ rfl _ _ 42 rfl B 5 i0 1 Tryd.underlying42 HI.out HZ1.out B o.length 4 _ rfl (O3.out.alloc _) ⟨w3.heap.size, 0, none⟩ 1 1 [.int .u8 ((dirN k).toNat : Int)] rfl rfl ?c1 ?c2 (by omega) ?_)
          case c1 =>
            intro j u hj
            match j, hj with
            | 0, hj => simp at hj; subst hj; simp [Addr.add, World.cell?_alloc_mark]
          case c2 => intro u hu; simp at hu; subst hu; rfl
          · intro w4 hown4 hg4
            have hb4 : Below B (w3.alloc (.cells #[.int .u8 ((dirN k).toNat : Int)] 5)) w4 := (Below.refl B _).grown hg4 (by simp; omega) (fun j hj => by cases hj; exact Nat.le_refl _)
            have hO4 := hide (show w4.ownsRow B 5 1 (.slice (some ⟨B, 0, none⟩) (o.length + 1) 4) (o.length + 1) (bytesV o ++ [.int .u8 ((dirN k).toNat : Int)]) from hown4)
            have u4 : IsS w4 w.heap.size s 30 := (hb4.block _ HBL.out).trans (u3.alloc _)
            have C4 := hide (show CloAt w4 b h g cap L W H from clo_block HBC.out hb4 (clo_to ((Below.refl _ _).alloc (Nat.le_refl _) _) C3.out rfl))
            have q4 : Below w.heap.size w w4 := (q3.alloc hz3 _).grown hg4 (by simp; omega) (fun j hj => by cases hj; exact hBB)
            clear hown4 hg4 hb4
            go_wp2
            go_roundw
            case rel =>
              refine ⟨k + 1, by omega, by go_num, by rw [HS.out]; simp, ?_, u4, C4.out, q4⟩
              rw [HS.out, bytesV_snoc, List.length_append]
              exact hO4.out
            case measure => simp [intOf] <;> omega
        · have HFN := HF0.out
          rw [hF] at HFN
          have HF := hide HFN
          clear HFN
          go_region_held3 (fun w' => w'.cell? ⟨w.heap.size, 0, none⟩ = some (.int .i64 s.x) ∧ w'.cell? ⟨w.heap.size, 1, none⟩ = some (.int .i64 s.y) ∧ w'.cell? ⟨w.heap.size, 2, none⟩ = some (.int .i64 s.d.t) ∧ w'.cell? ⟨w.heap.size, 3, none⟩ = some (.int .i64 s.d.n) ∧ w'.cell? ⟨w.heap.size, 4, none⟩ = some (.int .i64 s.d.e) ∧ w'.cell? ⟨w.heap.size, 5, none⟩ = some (.int .i64 s.d.s) ∧ w'.cell? ⟨w.heap.size, 6, none⟩ = some (.int .i64 s.d.w) ∧ w'.cell? ⟨w.heap.size, 7, none⟩ = some (.int .i64 s.d.b)) (first | (refine ⟨?_, ?_, ?_, ?_, ?_, ?_, ?_, ?_⟩ <;> with_reducible assumption) | (refine ⟨?_, ?_, ?_, ?_, ?_, ?_, ?_, ?_⟩ <;> assumption))
            (first
              | (go_at_call 71; (refine (rollTo_any (dirN k) _ HDN.out).mono ?_); rintro e w' ⟨rfl, rfl⟩; rw [hF])
              | (go_at_call 88; (refine (HF.out _).mono ?_); rintro e w2 ⟨rfl, hb2⟩; have u2 := isS_to hb2 u rfl; have C2 := hide (clo_to hb2 HCL.out rfl); have O2 := hide (own_to hb2 HO.out rfl); have q2 := below_to hb2 q q.size rfl rfl rfl rfl; obtain ⟨m0, ⟨b0, b1, b2, b3, b4, b5, b6, b7⟩, -⟩ := u2.all; clear hb2)
              | (go_at_call 81; (refine (matchOn1_any L W H h g cap b HE.out HHH.out hW7 hH7 r HT.out.1 HT.out.2 _ C2.out).mono ?_); rintro e w3 ⟨rfl, hb3⟩; rw [HHIT.out]; have u3 := isS_to hb3 u2 rfl; have C3 := hide (clo_to hb3 C2.out rfl); have O3 := hide (own_to hb3 O2.out rfl); have q3 := below_to hb3 q2 q2.size rfl rfl rfl rfl; obtain ⟨n0, ⟨d0, d1, d2, d3, d4, d5, d6, d7⟩, -⟩ := u3.all; clear hb3))
          have hz3 := q3.size
          have hO3 := own_lt2 O3.out
          clear d0 d1 d2 d3 d4 d5 d6 d7 n0 b0 b1 b2 b3 b4 b5 b6 b7 m0 a0 a1 a2 a3 a4 a5 a6 a7 l0
          go_wp2_with (at_builtin; refine wpList_append_fits _ rfl _ _ 42 rfl B 5 i0 1 Tryd.underlying42 HI.out HZ1.out B o.length 4 _ rfl (O3.out.alloc _) ⟨w3.heap.size, 0, none⟩ 1 1 [.int .u8 ((dirN k).toNat : Int)] rfl rfl ?c1 ?c2 (by omega) ?_)
          case c1 =>
            intro j u hj
            match j, hj with
            | 0, hj => simp at hj; subst hj; simp [Addr.add, World.cell?_alloc_mark]
          case c2 => intro u hu; simp at hu; subst hu; rfl
          · intro w4 hown4 hg4
            have hb4 : Below B (w3.alloc (.cells #[.int .u8 ((dirN k).toNat : Int)] 5)) w4 := (Below.refl B _).grown hg4 (by simp; omega) (fun j hj => by cases hj; exact Nat.le_refl _)
            have hO4 := hide (show w4.ownsRow B 5 1 (.slice (some ⟨B, 0, none⟩) (o.length + 1) 4) (o.length + 1) (bytesV o ++ [.int .u8 ((dirN k).toNat : Int)]) from hown4)
            have u4 : IsS w4 w.heap.size s 30 := (hb4.block _ HBL.out).trans (u3.alloc _)
            have C4 := hide (show CloAt w4 b h g cap L W H from clo_block HBC.out hb4 (clo_to ((Below.refl _ _).alloc (Nat.le_refl _) _) C3.out rfl))
            have q4 : Below w.heap.size w w4 := (q3.alloc hz3 _).grown hg4 (by simp; omega) (fun j hj => by cases hj; exact hBB)
            clear hown4 hg4 hb4
            go_wp2
            go_roundw
            case rel =>
              refine ⟨k + 1, by omega, by go_num, by rw [HS.out]; simp, ?_, u4, C4.out, q4⟩
              rw [HS.out, bytesV_snoc, List.length_append]
              exact hO4.out
            case measure => simp [intOf] <;> omega
        · have HFN := HF0.out
          rw [hF] at HFN
          have HF := hide HFN
          clear HFN
          go_region_held3 (fun w' => w'.cell? ⟨w.heap.size, 0, none⟩ = some (.int .i64 s.x) ∧ w'.cell? ⟨w.heap.size, 1, none⟩ = some (.int .i64 s.y) ∧ w'.cell? ⟨w.heap.size, 2, none⟩ = some (.int .i64 s.d.t) ∧ w'.cell? ⟨w.heap.size, 3, none⟩ = some (.int .i64 s.d.n) ∧ w'.cell? ⟨w.heap.size, 4, none⟩ = some (.int .i64 s.d.e) ∧ w'.cell? ⟨w.heap.size, 5, none⟩ = some (.int .i64 s.d.s) ∧ w'.cell? ⟨w.heap.size, 6, none⟩ = some (.int .i64 s.d.w) ∧ w'.cell? ⟨w.heap.size, 7, none⟩ = some (.int .i64 s.d.b)) (first | (refine ⟨?_, ?_, ?_, ?_, ?_, ?_, ?_, ?_⟩ <;> with_reducible assumption) | (refine ⟨?_, ?_, ?_, ?_, ?_, ?_, ?_, ?_⟩ <;> assumption))
            (first
              | (go_at_call 71; (refine (rollTo_any (dirN k) _ HDN.out).mono ?_); rintro e w' ⟨rfl, rfl⟩; rw [hF])
              | (go_at_call 89; (refine (HF.out _).mono ?_); rintro e w2 ⟨rfl, hb2⟩; have u2 := isS_to hb2 u rfl; have C2 := hide (clo_to hb2 HCL.out rfl); have O2 := hide (own_to hb2 HO.out rfl); have q2 := below_to hb2 q q.size rfl rfl rfl rfl; obtain ⟨m0, ⟨b0, b1, b2, b3, b4, b5, b6, b7⟩, -⟩ := u2.all; clear hb2)
              | (go_at_call 81; (refine (matchOn1_any L W H h g cap b HE.out HHH.out hW7 hH7 r HT.out.1 HT.out.2 _ C2.out).mono ?_); rintro e w3 ⟨rfl, hb3⟩; rw [HHIT.out]; have u3 := isS_to hb3 u2 rfl; have C3 := hide (clo_to hb3 C2.out rfl); have O3 := hide (own_to hb3 O2.out rfl); have q3 := below_to hb3 q2 q2.size rfl rfl rfl rfl; obtain ⟨n0, ⟨d0, d1, d2, d3, d4, d5, d6, d7⟩, -⟩ := u3.all; clear hb3))
          have hz3 := q3.size
          have hO3 := own_lt2 O3.out
          clear d0 d1 d2 d3 d4 d5 d6 d7 n0 b0 b1 b2 b3 b4 b5 b6 b7 m0 a0 a1 a2 a3 a4 a5 a6 a7 l0
          go_wp2_with (at_builtin; refine wpList_append_fits _ rfl _ _ 42 rfl B 5 i0 1 Tryd.underlying42 HI.out HZ1.out B o.length 4 _ rfl (O3.out.alloc _) ⟨w3.heap.size, 0, none⟩ 1 1 [.int .u8 ((dirN k).toNat : Int)] rfl rfl ?c1 ?c2 (by omega) ?_)
          case c1 =>
            intro j u hj
            match j, hj with
            | 0, hj => simp at hj; subst hj; simp [Addr.add, World.cell?_alloc_mark]
          case c2 => intro u hu; simp at hu; subst hu; rfl
          · intro w4 hown4 hg4
            have hb4 : Below B (w3.alloc (.cells #[.int .u8 ((dirN k).toNat : Int)] 5)) w4 := (Below.refl B _).grown hg4 (by simp; omega) (fun j hj => by cases hj; exact Nat.le_refl _)
            have hO4 := hide (show w4.ownsRow B 5 1 (.slice (some ⟨B, 0, none⟩) (o.length + 1) 4) (o.length + 1) (bytesV o ++ [.int .u8 ((dirN k).toNat : Int)]) from hown4)
            have u4 : IsS w4 w.heap.size s 30 := (hb4.block _ HBL.out).trans (u3.alloc _)
            have C4 := hide (show CloAt w4 b h g cap L W H from clo_block HBC.out hb4 (clo_to ((Below.refl _ _).alloc (Nat.le_refl _) _) C3.out rfl))
            have q4 : Below w.heap.size w w4 := (q3.alloc hz3 _).grown hg4 (by simp; omega) (fun j hj => by cases hj; exact hBB)
            clear hown4 hg4 hb4
            go_wp2
            go_roundw
            case rel =>
              refine ⟨k + 1, by omega, by go_num, by rw [HS.out]; simp, ?_, u4, C4.out, q4⟩
              rw [HS.out, bytesV_snoc, List.length_append]
              exact hO4.out
            case measure => simp [intOf] <;> omega
    · obtain rfl : k = 4 := by omega
      have hbk := bytes_backU O rfl
      go_wp2
      go_returns
      exact ⟨rfl, q⟩
end Go.Proofs.YtckajjocpheakaaDoor
