/- The law of MirrorNet. -/
import Derived.Test.YtkknjokacinlaaaMirR
import Derived.Test.YtkknjokacinlaaaNeMir
import Derived.Test.YtkknjokacinlaaaNeH
namespace Go.Proofs.Ytkknjokacinlaaa
set_option maxRecDepth 100000
set_option linter.all false
open Go.RowKit

/-- The mirrored text. -/
def mirS (l : List UInt8) : ByteArray := ⟨(mirTo l (width l) (splitP l).length).toArray⟩
theorem mirS_text {l : List UInt8} {W H : Nat} (h : Filled l W H) : mirS l = ⟨(textM (mirR l) H).toArray⟩ := by
  obtain ⟨b, hb⟩ : ∃ b, H = b + 1 := ⟨H - 1, by have := h.h1; omega⟩
  unfold mirS
  rw [h.ww, h.hh, hb, mirTo_text h.even (h.hh.trans hb)]
/-- What mirroredText holds. -/
structure MT (l : List UInt8) (W H h g : Nat) (w0 w : World) (y : Nat) : Prop where
  buf : BufAt w g (mirTo l W y)
  row : ∀ k, k < H → w.cell? ⟨h, k, none⟩ = some (.slice (some ⟨g, k * (W + 1), none⟩) W W)
  bel : Below w0.heap.size w0 w
  lt : h < w.heap.size
theorem mirroredText_any (s : ByteArray) (w : World) (hs : s.size ≤ 1048576) {W H : Nat} (hF : Filled s.data.toList W H) : Calls Try.prog 13 #[.string s] w fun e w' => e = .returned (.string (mirS s.data.toList)) ∧ Below w.heap.size w w' := by
  obtain ⟨cap, W1, hcv, hcap, B1, q1, hz⟩ := bytes_new s w
  have hcut := cutG_any s.data.toList w.heap.size s.size cap (by simp) hs hcap W1 B1
  have hsz : s.size = s.data.toList.length := by simp
  obtain ⟨l, hl⟩ : ∃ l, l = s.data.toList := ⟨_, rfl⟩
  rw [← hl] at hcut B1 hF hsz ⊢
  have hHH := hF.hh
  have hlen := even_len hF.even
  have hH6 := hF.h6
  have hW6 := hF.w6
  have hH1 := hF.h1
  have hW1 := hF.w1
  have HMS := hide (show mirS l = ⟨(mirTo l W H).toArray⟩ from by unfold mirS; rw [hF.ww, hF.hh])
  have HF := hide hF
  rw [hHH] at hcut hlen
  have HCUT := hide hcut
  have HB1 := hide B1
  have HQ1 := hide q1
  have hlb : l.length ≤ 48 := by
    have h1 : H * (W + 1) ≤ 6 * 7 := Nat.mul_le_mul hH6 (by omega)
    omega
  have HSZ := hide hsz
  clear hcut B1 q1 hl hs hz hF hsz
  go_enter Try.func13, Try.ntmps13
  go_wp2_with fail
  (with_reducible refine HCUT.out.mono ?_)
  rintro e w2 ⟨h, cap2, rfl, O2, hb2⟩
  have hR := rowsIn_new (bufAt_to hb2 HB1.out rfl) HF.out.hh.symm O2
  have hL := labAt_rows hR HF.out
  have hne := rows_ne hL (by omega) (by
    have : 1 * (1 + 1) ≤ H * (W + 1) := Nat.mul_le_mul hH1 (by omega)
    omega)
  have HM := hide (show MT l W H h w.heap.size w w2 0 from ⟨by rw [mirTo_zero]; exact hL.2.1, hL.2.2, below_after HQ1.out hb2 HQ1.out.size, hL.1⟩)
  clear O2 hb2 hR hL
  go_wp2
  go_loopw [11, 5] (fun i _ wr => ∃ y : Nat, y ≤ H ∧ i = .int .i64 (y : Int) ∧ MT l W H h w.heap.size w wr y) (fun i _ _ => H - (intOf i).toNat)
  case atStart => exact ⟨0, Nat.zero_le _, rfl, HM.out⟩
  case round =>
    obtain ⟨y, hy, rfl, T⟩ := hrel
    by_cases hlt : y < H
    · have hyi : (y : Int) < (H : Int) := by omega
      have hp : y * (W + 1) + W ≤ l.length := by
        have h1 : (y + 1) * (W + 1) ≤ H * (W + 1) := Nat.mul_le_mul_right _ hlt
        rw [Nat.succ_mul] at h1
        omega
      have c0 := T.row y hlt
      have HRV := hide (fun wx (hx : BufAt wx w.heap.size (mirTo l W y)) => reverse_any w.heap.size (y * (W + 1)) W W (mirTo l W y) ⟨hW1, hW6⟩ (by rw [mirTo_len]; exact hp) wx hx)
      rw [mirTo_row hp] at HRV
      generalize y * (W + 1) = p at c0 HRV
      have HT := hide T
      clear T hp
      go_wp2_with (go_at_call 24; (refine (HRV.out _ HT.out.buf).mono ?_); rintro e w3 ⟨rfl, B3, G3⟩; have HT3 := hide (show MT l W H h w.heap.size w w3 (y + 1) from ⟨B3, fun k hk => G3.cell (HT.out.row k hk) (fun e => hne (Option.some.inj e)), below_grown HT.out.bel G3 HT.out.bel.size (Nat.le_refl _), Nat.lt_of_lt_of_le HT.out.lt G3.size⟩); clear B3 G3)
      go_roundw
      case rel => exact ⟨y + 1, by omega, by go_num, HT3.out⟩
      case measure => simp [intOf] <;> omega
    · obtain rfl : y = H := by omega
      have hout := bytes_out (n := s.size) (cap := cap) T.buf (by rw [mirTo_len]; exact HSZ.out.symm)
      rw [← HMS.out] at hout
      have HT := hide T.bel
      clear T
      go_wp2
      go_returns
      exact ⟨rfl, HT.out⟩
theorem implMirror_no (s : ByteArray) (w : World) (hs : s.size ≤ 1048576) (hn : netB s.data.toList = false) : Calls Try.prog 6 #[.string s] w fun e w' => e = .returned (.tuple #[.string ⟨#[]⟩, .bool false]) ∧ Below w.heap.size w w' := by
  have HI := hide (fun wx => isNet_any s wx hs)
  simp only [hn] at HI
  clear hn
  go_enter Try.func6, Try.ntmps6
  go_wp2_with (go_at_call 12; (refine (HI.out _).mono ?_); rintro e w2 ⟨rfl, hb2⟩)
  go_returns
  exact ⟨rfl, hb2⟩
theorem implMirror_yes (s : ByteArray) (w : World) (hs : s.size ≤ 1048576) (hn : netB s.data.toList = true) : Calls Try.prog 6 #[.string s] w fun e w' => e = .returned (.tuple #[.string (mirS s.data.toList), .bool true]) ∧ Below w.heap.size w w' := by
  have h6 : sixB s.data.toList = true := by
    cases h : sixB s.data.toList
    · rw [net_six h] at hn; cases hn
    · rfl
  have HI := hide (fun wx => isNet_any s wx hs)
  simp only [hn] at HI
  have HM := hide (fun wx => mirroredText_any s wx hs (six_parts h6).1)
  generalize mirS s.data.toList = x at HM ⊢
  clear hn h6
  go_enter Try.func6, Try.ntmps6
  go_wp2_with (first | (go_at_call 12; (refine (HI.out _).mono ?_); rintro e w2 ⟨rfl, hb2⟩; have HB2 := hide hb2; clear hb2) | (go_at_call 13; (refine (HM.out _).mono ?_); rintro e w3 ⟨rfl, hb3⟩; have HB3 := hide (below_after HB2.out hb3 HB2.out.size)))
  go_returns
  exact ⟨rfl, HB3.out⟩
theorem specMirror_no (s : ByteArray) (w : World) (hn : netB s.data.toList = false) : Calls Try.prog 5 #[.string s] w fun e w' => e = .returned (.tuple #[.string ⟨#[]⟩, .bool false]) ∧ Below w.heap.size w w' := by
  have HN := hide hn
  clear hn
  go_enter Try.func5, Try.ntmps5
  go_wp2_with fail
  refine (neNet_any s _).mono ?_
  rintro e w2 (⟨hy, -⟩ | ⟨-, x, y, a, m, c, u, rfl, hb⟩)
  · rw [HN.out] at hy; cases hy
  · go_wp2
    go_returns
    exact ⟨rfl, hb.alloc hb.size _⟩
theorem mir_cell {l : List UInt8} {W H : Nat} (hF : Filled l W H) {k j : Nat} {c : UInt8} (hk : k < H) (h : (mirR l k)[j]? = some c) : (mcells (flatL l) W H 0)[k * W + j]? = some c := by
  have hrow := (even_row hF.even (k := k) (by rw [hF.hh]; exact hk)).1
  have hj : j < W := by
    have := (List.getElem?_eq_some_iff.1 h).1
    unfold mirR at this
    rw [List.length_reverse, hrow] at this
    exact this
  unfold mirR at h
  rw [List.getElem?_reverse (by rw [hrow]; exact hj), hrow] at h
  have e1 := even_at hF.even (k := k) (j := W - 1 - j) (by rw [hF.hh]; exact hk) (by omega)
  have e2 := (even_cell hF.even (k := k) (j := W - 1 - j) (by rw [hF.hh]; exact hk) (by omega)).1
  have e3 := cellI_flat hF.even (k := k) (j := W - 1 - j) (by rw [hF.hh]; exact hk) (by omega)
  rw [e1, h] at e2
  rw [← Option.some.inj e2] at e3
  have e4 : mcells (flatL l) W H 0 = gridM (flatL l) W H := by simp [mcells, rowM]
  rw [e4, gridM_get (flatL l) W H k j hk hj, List.getD_eq_getElem?_getD]
  unfold flatL
  rw [e3]
  rfl
set_option maxHeartbeats 1600000 in
theorem specMirror_yes (s : ByteArray) (w : World) (hn : netB s.data.toList = true) : Calls Try.prog 5 #[.string s] w fun e w' => e = .returned (.tuple #[.string (mirS s.data.toList), .bool true]) ∧ Below w.heap.size w w' := by
  have HNE := fun wx => neNet_any s wx
  obtain ⟨l, hl⟩ : ∃ l, l = s.data.toList := ⟨_, rfl⟩
  simp only [← hl] at HNE hn ⊢
  have h6 : sixB l = true := by
    cases h : sixB l
    · rw [net_six h] at hn; cases hn
    · rfl
  obtain ⟨W, hW⟩ : ∃ W, W = width l := ⟨_, rfl⟩
  obtain ⟨V, hV⟩ : ∃ V, V = (splitP l).length := ⟨_, rfl⟩
  obtain ⟨n, hnn⟩ : ∃ n, n = (flatL l).length := ⟨_, rfl⟩
  have hF : Filled l W V := by rw [hW, hV]; exact (six_parts h6).1
  have hW6 := hF.w6
  have hV6 := hF.h6
  have hW1 := hF.w1
  have hV1 := hF.h1
  obtain ⟨x, hx⟩ : ∃ x, x = mirS l := ⟨_, rfl⟩
  rw [← hx]
  have HX := hide (hx.trans (mirS_text hF))
  have HN := hide hn
  have HNE := hide HNE
  have hnW : n = W * V := by rw [hnn]; exact hF.toGrid6.flat_len
  have HNM := hide (fun gb cap wx (hx : ByN wx gb (flatL l)) => neMirror_any (flatL l) W V n ⟨hW1, hW6⟩ ⟨hV1, hV6⟩ hnW hnn.symm gb cap wx hx)
  have hml : (mcells (flatL l) W V 0).length = V * W := by rw [mcells_len]; omega
  have HMC := hide (fun k j c (hk : k < V) (h : (mirR l k)[j]? = some c) => mir_cell hF hk h)
  have HRL := hide (fun k (hk : k < V) => show (mirR l k).length = W from by unfold mirR; rw [List.length_reverse]; exact (even_row hF.even (k := k) (by rw [hF.hh]; exact hk)).1)
  rw [hml] at HNM
  have HML := hide hml
  clear hl hn h6 hx hF hnW hml
  go_enter Try.func5, Try.ntmps5
  go_wp2_with fail
  refine (HNE.out _).mono ?_
  rintro e w2 (⟨-, gb, cap, ob, rfl, hg, ho, A, R, hb⟩ | ⟨hy, -⟩)
  rotate_left
  · rw [HN.out] at hy; cases hy
  rw [← hW, ← hV, ← hnn]
  have q2 := hb.alloc hb.size (.cells #[.int .i64 (W : Int), .int .i64 (V : Int), .slice (some ⟨gb, 0, none⟩) n cap] 30)
  have A3 := byN_to (w1 := w2.alloc (.cells #[.int .i64 (W : Int), .int .i64 (V : Int), .slice (some ⟨gb, 0, none⟩) n cap] 30)) ((Below.refl _ _).alloc (Nat.le_refl _) _) A rfl
  obtain ⟨l0, ⟨a0, a1, a2⟩, -⟩ := (IsGN.new (w := w2) (x := (W : Int)) (y := (V : Int)) (v := .slice (some ⟨gb, 0, none⟩) n cap)).all
  have HQ2 := hide q2
  have HA3 := hide A3
  clear hb A R hW hV hnn q2 A3
  go_wp2_with fail
  refine (HNM.out _ _ _ HA3.out).mono ?_
  rintro e w3 ⟨g', c', rfl, O3, hb3⟩
  have hpos : 0 < V * W := Nat.mul_pos (by omega) (by omega)
  obtain ⟨gx, cx, hgx, hgx0, hgx1⟩ := own_form O3 hpos
  have hcap : V * W ≤ c' := by
    obtain ⟨-, h | ⟨g2, cap2, cur, hv, -, -, hnc, -⟩⟩ := O3
    · cases h.1
    · injection hv with _ _ e3; rw [e3]; exact hnc
  have hgl : g' < w3.heap.size := (O3.lt g' rfl).2
  have HB3 := hide (byN_own O3 HML.out.symm)
  have HNT := hide (neText_any (mirR l) W V (V * W) g' c' ⟨hW1, by omega⟩ ⟨hV1, by omega⟩ rfl hcap HRL.out w3 hgl (fun k hk j c h => HB3.out.2 _ c (HMC.out k j c hk h)))
  rw [← HX.out] at HNT
  have HQ3 := hide (below_after HQ2.out hb3 HQ2.out.size)
  clear O3 hb3 hgx hgx0 hgx1 hpos a0 a1 a2 l0
  generalize V * W = m at HNT hcap ⊢
  go_wp2_with (go_at_call 10; (with_reducible refine HNT.out.mono ?_); rintro e w4 ⟨rfl, hb4⟩; have HQ4 := hide (below_after HQ3.out hb4 HQ3.out.size))
  go_returns
  exact ⟨rfl, HQ4.out⟩
set_option maxHeartbeats 800000 in
theorem walk_MirrorNet (v : ByteArray) (hv : v.size ≤ maxLen) (w : World) : Calls Try.prog 3 #[.string v] w fun e w' => e = .returned (.bool true) ∧ Below w.heap.size w w' := by
  by_cases h1 : v.size ≤ 1048576
  · have h1i : (v.size : Int) ≤ 1048576 := by omega
    have key : ∀ (x : ByteArray) (ok : Bool), Hid (∀ wx, Calls Try.prog 5 #[.string v] wx fun e w' => e = .returned (.tuple #[.string x, .bool ok]) ∧ Below wx.heap.size wx w') → Hid (∀ wx, Calls Try.prog 6 #[.string v] wx fun e w' => e = .returned (.tuple #[.string x, .bool ok]) ∧ Below wx.heap.size wx w') → Calls Try.prog 3 #[.string v] w fun e w' => e = .returned (.bool true) ∧ Below w.heap.size w w' := by
      intro x ok HS HP
      have e1 : (ok != ok) = false := by simp
      have e2 : (x.toList != x.toList) = false := by simp
      go_enter Try.func3, Try.ntmps3
      go_wp2_with fail
      refine (HS.out _).mono ?_
      rintro e w1 ⟨rfl, hb1⟩
      go_wp2_with fail
      refine (HP.out _).mono ?_
      rintro e w2 ⟨rfl, hb2⟩
      go_wp2
      go_returns
      exact ⟨rfl, below_after hb1 hb2 hb1.size⟩
    cases hn : netB v.data.toList
    · exact key _ false (hide (fun wx => specMirror_no v wx hn)) (hide (fun wx => implMirror_no v wx h1 hn))
    · exact key _ true (hide (fun wx => specMirror_yes v wx hn)) (hide (fun wx => implMirror_yes v wx h1 hn))
  · have h1i : (1048576 : Int) < (v.size : Int) := by omega
    clear h1
    go_enter Try.func3, Try.ntmps3
    go_wp2
    go_returns
    exact ⟨rfl, Below.refl _ _⟩
end Go.Proofs.Ytkknjokacinlaaa
