/- The contract of impl.boxesAlong. Condition: texts of at most 1048576 bytes. -/
import Derived.Test.YtoojoghgbmpbpaaDoorBxRoll
import Derived.Test.YtoojoghgbmpbpaaDoorWalksA
import Derived.Test.YtoojoghgbmpbpaaDoorOwnK
import Derived.StillTailTactics
namespace Go.Proofs.YtoojoghgbmpbpaaDoor
set_option maxRecDepth 100000
set_option linter.all false
open Go.RowKit
attribute [local go_sem ↓] Go.wp_at_zero Go.wp_at_succ

def askX (l : List UInt8) (b : Bx) : Bool := isGd l && goodX (splitP l) b
/-- What the two ways hand back. -/
def AlongX (l : List UInt8) (b : Bx) (L : List UInt8) (w : World) (e : Ending) (w' : World) : Prop :=
  (goesX l b L = true ∧ ∃ g cap, e = .returned (.tuple #[.slice (some ⟨g, 0, none⟩) (L.length + 1) cap, .bool true]) ∧ w'.ownsRow w.heap.size 27 3 (.slice (some ⟨g, 0, none⟩) (L.length + 1) cap) (L.length + 1) (cellsX (waysX b L L.length)) ∧ Below w.heap.size w w') ∨
  (goesX l b L = false ∧ e = .returned (.tuple #[.slice none 0 0, .bool false]) ∧ Below w.heap.size w w')
theorem RowsAt.other {w : World} {g : Nat} {rs : List ByteArray} (h : RowsAt w g rs) {p : Addr} (hp : g ≠ p.block) (u : Value) : RowsAt (w.setCell p u) g rs := (Below.heap_setCell w p u g hp).trans h
theorem RowsAt.other3 {w : World} {g b : Nat} {rs : List ByteArray} (h : RowsAt w g rs) (hp : g ≠ b) (t : Bx) : RowsAt (((w.setCell ⟨b, 0, none⟩ (.int .i64 t.x)).setCell ⟨b, 1, none⟩ (.int .i64 t.y)).setCell ⟨b, 2, none⟩ (.int .i64 t.p)) g rs := ((h.other hp _).other hp _).other hp _
theorem own_setX {w : World} {B b n : Nat} {e : TypeId} {z : Nat} {v : Value} {xs : List Value} (h : w.ownsRow B e z v n xs) (hb : b < B) (t : Bx) : (((w.setCell ⟨b, 0, none⟩ (.int .i64 t.x)).setCell ⟨b, 1, none⟩ (.int .i64 t.y)).setCell ⟨b, 2, none⟩ (.int .i64 t.p)).ownsRow B e z v n xs :=
  ownsRow_setCell_below (ownsRow_setCell_below (ownsRow_setCell_below h hb _) hb _) hb _
/-- What holds at each head of the program's loop. -/
def BaI (s : ByteArray) (b : Bx) (L : List UInt8) (w : World) (B0 gR k : Nat) (v : Value) (wr : World) : Prop :=
  RowsAt wr gR (rowsB s) ∧ IsX wr w.heap.size (atX b L k) 27 ∧ wr.ownsRow B0 27 3 v (k + 1) (cellsX (waysX b L k)) ∧ Below w.heap.size w wr ∧ (∀ j, j ≤ k → goodX (splitP s.data.toList) (atX b L j) = true)

set_option maxHeartbeats 4000000 in
theorem boxesAlong_asked (s : ByteArray) (b : Bx) (v : ByteArray) (w : World) (hs : s.size ≤ 1048576) (hv : v.size ≤ maxLen) (hg : Glob w) (h : isGd s.data.toList = true) (h2 : goodX (splitP s.data.toList) b = true) (h3 : isWord v.data.toList = true) :
    Calls Tryd.prog 49 #[.string s, Bx.v b, .string v] w (AlongX s.data.toList b v.data.toList w) := by
  obtain ⟨i0, hi, hz0, hz1, hz2⟩ := info_parts info_box
  have HI := hide hi
  have HZ0 := hide hz0
  have HZ1 := hide hz1
  have HZ2 := hide hz2
  clear hi hz0 hz1 hz2
  have hlen : v.size ≤ 60 := by have := isWord_len h3; simpa using this
  have HVL := hide (show v.data.toList.length = v.size by simp)
  have HDIR := hide (fun (k : Nat) (hk : k < v.size) => (show 0 ≤ dirIx v[k].toNat from isWord_dir h3 (k := k) (by simpa using hk)))
  have H := hide h
  have HB := hide h2
  have HW := hide h3
  have X0 : IsX (w.alloc (.cells #[.int .i64 b.x, .int .i64 b.y, .int .i64 b.p] 27)) w.heap.size b 27 := IsX.new
  have q0 : Below w.heap.size w (w.alloc (.cells #[.int .i64 b.x, .int .i64 b.y, .int .i64 b.p] 27)) := by go_grown
  have HGL := hide (show Glob (w.alloc (.cells #[.int .i64 b.x, .int .i64 b.y, .int .i64 b.p] 27)) from glob_to (w0 := w) q0 hg rfl)
  have hz0 : (w.alloc (.cells #[.int .i64 b.x, .int .i64 b.y, .int .i64 b.p] 27)).heap.size = w.heap.size + 1 := by simp
  clear h h2 h3 hg
  go_enter Tryd.func49, Tryd.ntmps49
  go_wp2_with fail
  generalize w.alloc (.cells #[.int .i64 b.x, .int .i64 b.y, .int .i64 b.p] 27) = W0 at X0 q0 HGL hz0 ⊢
  refine (groundUnder_on s b _ hs HGL.out H.out HB.out).mono ?_
  rintro e w1 ⟨rfl, ha, hb1⟩
  have X1 := isX_to hb1 X0 rfl
  have q1 := below_to hb1 q0 q0.size rfl rfl rfl rfl
  have hga := ha.lt
  obtain ⟨gR, hgR⟩ : ∃ gR, gR = W0.heap.size + 1 := ⟨_, rfl⟩
  rw [← hgR] at ha hga ⊢
  have hgw : w.heap.size < gR := by omega
  clear hb1 X0 q0 HGL hz0 hgR
  go_wp2_with fail
  refine (isRolls_any v _ hv).mono ?_
  rintro e w2 ⟨rfl, rfl⟩
  rw [HW.out]
  have hlx := X1.lt
  have hC0 : ∀ j, j ≤ 0 → goodX (splitP s.data.toList) (atX b v.data.toList j) = true := by
    intro j hj
    obtain rfl : j = 0 := by omega
    exact HB.out
  have HST := hide (show BaI s b v.data.toList w w1.heap.size gR 0 (.slice (some ⟨w1.heap.size, 0, none⟩) 1 1) (w1.alloc (.cells #[.int .i64 b.x, .int .i64 b.y, .int .i64 b.p] 27)) from
    ⟨(Below.heap_alloc _ _ _ hga).trans ha, X1.alloc _, own_litX _ _ _ (Nat.le_refl _), q1.alloc q1.size _, hC0⟩)
  obtain ⟨l1, ⟨c0, c1, c2⟩, -⟩ := X1.all
  obtain ⟨B0, hB0⟩ : ∃ B0, B0 = w1.heap.size := ⟨_, rfl⟩
  rw [← hB0] at HST hga hlx
  go_wp2
  rw [← hB0]
  clear c0 c1 c2 l1 X1 q1 ha hC0 hB0
  go_loopw [29, 11, 10] (fun ki _ vv wr => ∃ (k : Nat) (u : Value), k ≤ v.size ∧ ki = .int .i64 (k : Int) ∧ vv = u ∧ BaI s b v.data.toList w B0 gR k u wr) (fun ki _ _ _ => v.size - (intOf ki).toNat)
  case atStart => exact ⟨0, _, by omega, rfl, rfl, HST.out⟩
  case round =>
    clear HST
    obtain ⟨k, u, hk, rfl, rfl, A, X, O, q, C⟩ := hrel
    obtain ⟨gq, cq, rfl, hgq, -⟩ := own_form O (by omega)
    by_cases hlt : k < v.size
    · have hki : (k : Int) < (v.size : Int) := by omega
      have hc : v.data.toList[k]? = some v[k] := by rw [List.getElem?_eq_getElem (by simpa using hlt)]; rfl
      have HS := hide (atX_succ b v.data.toList k v[k] hc)
      have HWY := hide (waysX_succ b v.data.toList k)
      have hd := HDIR.out k hlt
      have hnr := good_near H.out (C k (Nat.le_refl _))
      have HC := hide C
      generalize ht : atX b v.data.toList k = t at X HS hnr
      have HTP := hide (fun wx => tipped_any t v[k] hnr hd wx)
      generalize tipX t (dirIx v[k].toNat) = r at HS HTP
      generalize hxs : cellsX (waysX b v.data.toList k) = xs at O
      have HXS := hide hxs
      obtain ⟨l1, ⟨c0, c1, c2⟩, f0, f1, f2⟩ := X.all
      clear hnr hd C hc ht hxs
      go_upto_region 8 with (fail)
      go_still_tail 4, (by kernel_rfl)
      go_wp2_with fail
      refine (HTP.out _).mono ?_
      rintro e w2 ⟨rfl, hb2⟩
      have A2 := rowsAt_to hb2 A rfl
      have X2 := isX_to hb2 X rfl
      have O2 := own_to hb2 O rfl
      have q2 := below_to hb2 q q.size rfl rfl rfl rfl
      clear hb2 A X O q c0 c1 c2 f0 f1 f2 l1
      obtain ⟨l2, ⟨c0, c1, c2⟩, f0, f1, f2⟩ := X2.all
      go_upto_region 9 with (fail)
      have A3 := A2.other3 (show gR ≠ w.heap.size by omega) r
      have X3 := X2.set3 r
      have O3 := own_setX O2 (show w.heap.size < B0 by omega) r
      have q3 := below_setX q2 (Nat.le_refl _) r
      clear A2 X2 O2 q2 c0 c1 c2 f0 f1 f2 l2
      generalize ((w2.setCell ⟨w.heap.size, 0, none⟩ (.int .i64 r.x)).setCell ⟨w.heap.size, 1, none⟩ (.int .i64 r.y)).setCell ⟨w.heap.size, 2, none⟩ (.int .i64 r.p) = W3 at A3 X3 O3 q3 ⊢
      obtain ⟨l2, ⟨c0, c1, c2⟩, -⟩ := X3.all
      go_wp2_with fail
      clear c0 c1 c2 l2
      cases hgx : goodX (splitP s.data.toList) r
      · have HGX := hide hgx
        have HN := hide (goesX_no (l := s.data.toList) (b := b) (L := v.data.toList) (k := k) (by rw [HVL.out]; exact hlt) (by rw [HS.out]; exact hgx))
        clear hgx
        refine (isBoxOn_any s gR r _ hs H.out A3).mono ?_
        rintro e w4 ⟨rfl, hb4⟩
        rw [HGX.out]
        have q4 := below_to hb4 q3 q3.size rfl rfl rfl rfl
        clear hb4 A3 X3 O3 q3
        go_wp2
        go_returns
        exact .inr ⟨HN.out, rfl, q4⟩
      · have HGX := hide hgx
        have HC2 := hide (show ∀ j, j ≤ k + 1 → goodX (splitP s.data.toList) (atX b v.data.toList j) = true from by
          intro j hj
          by_cases he : j = k + 1
          · subst he
            rw [HS.out]
            exact hgx
          · exact HC.out j (by omega))
        clear hgx
        refine (isBoxOn_any s gR r _ hs H.out A3).mono ?_
        rintro e w4 ⟨rfl, hb4⟩
        rw [HGX.out]
        have q4 := below_to hb4 q3 q3.size rfl rfl rfl rfl
        have A4 := rowsAt_to hb4 A3 rfl
        have X4 := isX_to hb4 X3 rfl
        have HO4 := hide (own_to hb4 O3 rfl)
        clear hb4 A3 X3 O3 q3
        have hz4 := (HO4.out.lt gq rfl).2
        obtain ⟨l2, ⟨c0, c1, c2⟩, -⟩ := X4.all
        go_wp2_with (at_builtin; refine wpList_append_own_at _ rfl _ _ 61 rfl B0 27 i0 (.agg #[.int .i64 0, .int .i64 0, .int .i64 0]) 3 24 Tryd.underlying61 HI.out HZ0.out HZ1.out HZ2.out rfl (by decide) _ _ _ rfl (HO4.out.alloc _) ⟨w4.heap.size, 0, none⟩ 1 1 (bxC r) rfl rfl ?c1 ?c2 ?c3 ?c4 ?c5 ?_)
        case c1 => exact bxC_cell IsX.new
        case c2 => exact bxC_one _
        case c3 => unfold maxLen; omega
        case c4 => omega
        case c5 => simp; omega
        · intro v' w5 hown5 hg5 _ _
          have hbB := (Below.refl B0 _).grown hg5 (by simp; omega) (fun j hj => (HO4.out.lt j hj).1)
          have A5 : RowsAt w5 gR (rowsB s) := (hbB.block _ hga).trans ((Below.heap_alloc _ _ _ A4.lt).trans A4)
          have X5 : IsX w5 w.heap.size r 27 := (hbB.block _ hlx).trans (X4.alloc _)
          have q5 : Below w.heap.size w w5 := (q4.alloc q4.size _).grown hg5 (by have := q4.size; simp; omega) (fun j hj => by have := (HO4.out.lt j hj).1; omega)
          have HT5 := hide (show BaI s b v.data.toList w B0 gR (k + 1) v' w5 from ⟨A5, by rw [HS.out]; exact X5, by rw [HWY.out, cellsX_snoc, HXS.out, HS.out]; exact hown5, q5, HC2.out⟩)
          clear hown5 hg5 hbB A5 X5 q5 A4 X4 q4 c0 c1 c2 l2
          go_wp2
          go_roundw
          case rel => exact ⟨k + 1, _, by omega, by go_num, rfl, HT5.out⟩
          case measure => simp [intOf] <;> omega
    · obtain rfl : k = v.size := by omega
      have HY := hide (goesX_yes (l := s.data.toList) (b := b) (L := v.data.toList) (fun k hk => C (k + 1) (by rw [HVL.out] at hk; omega)))
      have HO := hide (own_mono O (show w.heap.size ≤ B0 by omega))
      clear O A X C
      go_wp2
      go_returns
      exact .inl ⟨HY.out, gq, cq, by rw [HVL.out]; rfl, by rw [HVL.out]; exact HO.out, q⟩
theorem boxesAlong_no (s : ByteArray) (b : Bx) (v : ByteArray) (w : World) (hs : s.size ≤ 1048576) (hv : v.size ≤ maxLen) (hg : Glob w) (h : askX s.data.toList b = false ∨ isWord v.data.toList = false) :
    Calls Tryd.prog 49 #[.string s, Bx.v b, .string v] w fun e w' => e = .returned (.tuple #[.slice none 0 0, .bool false]) ∧ Below w.heap.size w w' := by
  have X0 : IsX (w.alloc (.cells #[.int .i64 b.x, .int .i64 b.y, .int .i64 b.p] 27)) w.heap.size b 27 := IsX.new
  have q0 : Below w.heap.size w (w.alloc (.cells #[.int .i64 b.x, .int .i64 b.y, .int .i64 b.p] 27)) := by go_grown
  have HGL := hide (show Glob (w.alloc (.cells #[.int .i64 b.x, .int .i64 b.y, .int .i64 b.p] 27)) from glob_to (w0 := w) q0 hg rfl)
  cases hask : askX s.data.toList b
  · have key : ∀ W0 : World, Glob W0 → Calls Tryd.prog 44 #[.string s, Bx.v b] W0 fun e w' => e = .returned (.tuple #[.slice none 0 0, .bool false]) ∧ Below W0.heap.size W0 w' := by
      intro W0 hg0
      cases hgd : isGd s.data.toList
      · exact groundUnder_bad s b W0 hs hg0 hgd
      · exact groundUnder_off s b W0 hs hg0 hgd (by unfold askX at hask; rw [hgd, Bool.true_and] at hask; exact hask)
    have HK := hide key
    clear key h hg hask
    go_enter Tryd.func49, Tryd.ntmps49
    go_wp2_with fail
    generalize w.alloc (.cells #[.int .i64 b.x, .int .i64 b.y, .int .i64 b.p] 27) = W0 at X0 q0 HGL ⊢
    refine (HK.out _ HGL.out).mono ?_
    rintro e w1 ⟨rfl, hb1⟩
    have q1 := below_to hb1 q0 q0.size rfl rfl rfl rfl
    clear hb1
    go_wp2
    go_returns
    exact ⟨rfl, q1⟩
  · have hw : isWord v.data.toList = false := by
      rcases h with h | h
      · rw [hask] at h; cases h
      · exact h
    unfold askX at hask
    rw [Bool.and_eq_true] at hask
    have H := hide hask.1
    have HB := hide hask.2
    have HW := hide hw
    clear h hg hask hw
    go_enter Tryd.func49, Tryd.ntmps49
    go_wp2_with fail
    generalize w.alloc (.cells #[.int .i64 b.x, .int .i64 b.y, .int .i64 b.p] 27) = W0 at X0 q0 HGL ⊢
    refine (groundUnder_on s b _ hs HGL.out H.out HB.out).mono ?_
    rintro e w1 ⟨rfl, _, hb1⟩
    have q1 := below_to hb1 q0 q0.size rfl rfl rfl rfl
    clear hb1
    go_wp2_with fail
    refine (isRolls_any v _ hv).mono ?_
    rintro e w2 ⟨rfl, rfl⟩
    rw [HW.out]
    go_wp2
    go_returns
    exact ⟨rfl, q1⟩
end Go.Proofs.YtoojoghgbmpbpaaDoor
