/- Dice together: the model's AreDice and myAsked. -/
import Derived.Test.YtdndegonpdakkaaDoorTogS
namespace Go.Proofs.YtdndegonpdakkaaDoor
set_option maxRecDepth 100000
set_option linter.all false
open Go.RowKit

set_option maxHeartbeats 800000 in
theorem specAD_no (s : ByteArray) (gd : Nat) (L : List St) (n : Nat) (w : World) (hs : s.size ≤ 1048576) (h : isBd s.data.toList = false) : Calls Tryd.prog 11 #[.string s, .slice (some ⟨gd, 0, none⟩) n n] w fun e w' => e = .returned (.tuple #[.bool false, .bool false]) ∧ Below w.heap.size w w' := by
  have H := hide h
  clear h
  go_enter Tryd.func11, Tryd.ntmps11
  go_wp2_with fail
  refine (boRead_no s _ hs H.out).mono ?_
  rintro e w1 ⟨rfl, hb1⟩
  have q1 := hb1.alloc hb1.size (.cells #[.int .i64 0, .int .i64 0, .slice none 0 0] 50)
  go_wp2
  go_returns
  exact ⟨rfl, q1⟩
set_option maxHeartbeats 800000 in
theorem specAD_yes (s : ByteArray) (gd : Nat) (L : List St) (n : Nat) (hN : n = L.length) (w : World) (hs : s.size ≤ 1048576) (hD : StAt w gd 0 L) (h : isBd s.data.toList = true) : Calls Tryd.prog 11 #[.string s, .slice (some ⟨gd, 0, none⟩) n n] w fun e w' => e = .returned (.tuple #[.bool (tog s.data.toList L), .bool true]) ∧ Below w.heap.size w w' := by
  have H := hide h
  have HD := hide hD
  have HN := hide hN
  clear h hD hN
  go_enter Tryd.func11, Tryd.ntmps11
  go_wp2_with fail
  refine (boRead_yes s _ hs H.out).mono ?_
  rintro e w1 ⟨W, Hh, m, g, cap, hG, rfl, hA, hb1⟩
  have G1 := IsG.new (w := w1) (x := (W : Int)) (y := (Hh : Int)) (v := .slice (some ⟨g, 0, none⟩) m cap)
  have q1 := hb1.alloc hb1.size (.cells #[.int .i64 (W : Int), .int .i64 (Hh : Int), .slice (some ⟨g, 0, none⟩) m cap] 50)
  have A1 : BytesAt (w1.alloc (.cells #[.int .i64 (W : Int), .int .i64 (Hh : Int), .slice (some ⟨g, 0, none⟩) m cap] 50)) g (splitP s.data.toList).flatten := bytesAt_to (w0 := w1) ((Below.refl _ _).alloc (Nat.le_refl _) _) hA rfl
  have D1 := stAt_to (w0 := w) q1 HD.out rfl
  have HG := hide hG
  obtain ⟨l0, ⟨c0, c1, c2⟩, -⟩ := G1.all
  clear hb1 hA hG
  go_wp2_with fail
  refine (myGood_any s.data.toList W Hh m HG.out g cap gd L n HN.out _ A1 D1).mono ?_
  rintro e w2 ⟨rfl, hb2⟩
  have q2 := below_to hb2 q1 q1.size rfl rfl rfl rfl
  generalize hz : tog s.data.toList L = z
  have HZ := hide hz
  clear hz hb2
  go_wp2
  go_returns
  exact ⟨by rw [HZ.out]; rfl, q2⟩
/-- What AreDice says. -/
def adB (l : List UInt8) (L : List St) : Bool := isBd l && tog l L
theorem specAD_any (s : ByteArray) (gd : Nat) (L : List St) (n : Nat) (hN : n = L.length) (w : World) (hs : s.size ≤ 1048576) (hD : StAt w gd 0 L) : Calls Tryd.prog 11 #[.string s, .slice (some ⟨gd, 0, none⟩) n n] w fun e w' => e = .returned (.tuple #[.bool (adB s.data.toList L), .bool (isBd s.data.toList)]) ∧ Below w.heap.size w w' := by
  unfold adB
  cases h : isBd s.data.toList
  · exact specAD_no s gd L n w hs h
  · exact specAD_yes s gd L n hN w hs hD h

set_option maxHeartbeats 800000 in
theorem myAsked_bad (s : ByteArray) (v : Value) (w : World) (hs : s.size ≤ 1048576) (h : isBd s.data.toList = false) : Calls Tryd.prog 41 #[.string s, v] w fun e w' => e = .returned (.tuple #[.agg #[.int .i64 0, .int .i64 0, .slice none 0 0], .bool false]) ∧ Below w.heap.size w w' := by
  have H := hide h
  clear h
  go_enter Tryd.func41, Tryd.ntmps41
  go_wp2_with fail
  refine (boRead_no s _ hs H.out).mono ?_
  rintro e w1 ⟨rfl, hb1⟩
  have R0 := isG_to hb1 (IsG.new (w := w) (x := 0) (y := 0) (v := .slice none 0 0)) rfl
  have q0 : Below w.heap.size w w1 := below_after (by go_grown) hb1 (by simp)
  have R1 := R0.alloc (.cells #[.int .i64 0, .int .i64 0, .slice none 0 0] 50)
  have G1 := IsG.new (w := w1) (x := 0) (y := 0) (v := .slice none 0 0)
  have q1 := q0.alloc q0.size (.cells #[.int .i64 0, .int .i64 0, .slice none 0 0] 50)
  have hz := R0.lt
  clear hb1 q0 R0
  go_wp2_with fail
  generalize hB : w1.heap.size = B at G1 hz ⊢
  generalize w1.alloc (.cells #[.int .i64 0, .int .i64 0, .slice none 0 0] 50) = W1 at R1 G1 q1 ⊢
  clear hB
  obtain ⟨l1, ⟨c0, c1, c2⟩, f0, f1, f2⟩ := R1.all
  obtain ⟨l2, ⟨d0, d1, d2⟩, -⟩ := G1.all
  first | go_region_with (fail) | fail "region"
  all_goals
    go_wp2
    refine bodyPost_ret (ret_grid2 Tryd.results41 rfl rfl (R1.set3 0 0 (.slice none 0 0))) rfl ⟨rfl, ?_⟩
    exact (below_set3 (b := w.heap.size) q1 (Nat.le_refl _) _ _ _).drew

set_option maxHeartbeats 1600000 in
theorem myAsked_in (s : ByteArray) (gd : Nat) (L : List St) (nd : Nat) (hN : nd = L.length) (w : World) (hs : s.size ≤ 1048576) (hD : StAt w gd 0 L) (h : isBd s.data.toList = true) : Calls Tryd.prog 41 #[.string s, .slice (some ⟨gd, 0, none⟩) nd nd] w fun e w' => ∃ W H n g cap, GridOk s.data.toList W H n ∧ e = .returned (.tuple #[gridV W H n g cap, .bool (tog s.data.toList L)]) ∧ BytesAt w' g (splitP s.data.toList).flatten ∧ Below w.heap.size w w' := by
  have H := hide h
  have HN := hide hN
  have HD := hide hD
  clear h hN hD
  generalize hst : tog s.data.toList L = st
  have HST := hide hst
  clear hst
  go_enter Tryd.func41, Tryd.ntmps41
  go_wp2_with fail
  refine (boRead_yes s _ hs H.out).mono ?_
  rintro e w1 ⟨W, Hh, n, g, cap, hG, rfl, hA, hb1⟩
  have R0 := isG_to hb1 (IsG.new (w := w) (x := 0) (y := 0) (v := .slice none 0 0)) rfl
  have q0 : Below w.heap.size w w1 := below_after (by go_grown) hb1 (by simp)
  have R1 := R0.alloc (.cells #[.int .i64 (W : Int), .int .i64 (Hh : Int), .slice (some ⟨g, 0, none⟩) n cap] 50)
  have G1 := IsG.new (w := w1) (x := (W : Int)) (y := (Hh : Int)) (v := .slice (some ⟨g, 0, none⟩) n cap)
  have A1 : BytesAt (w1.alloc (.cells #[.int .i64 (W : Int), .int .i64 (Hh : Int), .slice (some ⟨g, 0, none⟩) n cap] 50)) g (splitP s.data.toList).flatten := bytesAt_to (w0 := w1) ((Below.refl _ _).alloc (Nat.le_refl _) _) hA rfl
  have q1 := q0.alloc q0.size (.cells #[.int .i64 (W : Int), .int .i64 (Hh : Int), .slice (some ⟨g, 0, none⟩) n cap] 50)
  have D1 := stAt_to (w0 := w) q1 HD.out rfl
  have HG := hide hG
  have hz := R0.lt
  clear hb1 q0 R0 hA hG
  go_wp2_with fail
  generalize hB : w1.heap.size = B at G1 hz ⊢
  generalize w1.alloc (.cells #[.int .i64 (W : Int), .int .i64 (Hh : Int), .slice (some ⟨g, 0, none⟩) n cap] 50) = W1 at R1 G1 A1 D1 q1 ⊢
  clear hB
  have HA := hide (show BytesAt W1.drew g (splitP s.data.toList).flatten from A1)
  have HD1 := hide (show StAt W1.drew gd 0 L from D1)
  clear A1 D1
  obtain ⟨l1, ⟨c0, c1, c2⟩, f0, f1, f2⟩ := R1.all
  obtain ⟨l2, ⟨d0, d1, d2⟩, -⟩ := G1.all
  go_region_held3 (fun w' => w'.cell? ⟨B, 0, none⟩ = some (.int .i64 (W : Int)) ∧ w'.cell? ⟨B, 1, none⟩ = some (.int .i64 (Hh : Int)) ∧ w'.cell? ⟨B, 2, none⟩ = some (.slice (some ⟨g, 0, none⟩) n cap)) (first | (refine ⟨?_, ?_, ?_⟩ <;> assumption) | (simp [go_sem, World.cell?_alloc_past]; done) | (refine ⟨?_, ?_, ?_⟩ <;> (rw [cell_set3 (by omega)]; assumption)))
    (first
      | (go_at_call 36; (refine (myGood_any s.data.toList W Hh n HG.out g cap gd L nd HN.out _ HA.out HD1.out).mono ?_); rintro e w2 ⟨rfl, hb2⟩; rw [HST.out]; have R2 := isG_to hb2 R1 rfl; have G2 := isG_to hb2 G1 rfl; have A2 := hide (bytesAt_to hb2 HA.out rfl); have Q2 := below_to hb2 q1 q1.size rfl rfl rfl rfl; obtain ⟨m1, ⟨x0, x1, x2⟩, g0, g1, g2⟩ := R2.all; obtain ⟨m2, ⟨y0, y1, y2⟩, -⟩ := G2.all; clear hb2))
  go_wp2
  have hneq : ∀ (wx : World) (p : Addr) (u : Value), BytesAt wx g (splitP s.data.toList).flatten → p.block ≠ g → BytesAt (wx.setCell p u) g (splitP s.data.toList).flatten := fun wx p u hh hp => by
    obtain ⟨cur, h1, h2⟩ := hh
    exact ⟨cur, (Below.heap_setCell wx p u g (fun e => hp e.symm)).trans h1, h2⟩
  have hgne : w.heap.size ≠ g := fun e => by
    subst e
    obtain ⟨cur, h1, _⟩ := A2.out
    have h3 := R2
    unfold IsG at h3
    rw [h1] at h3
    simp at h3
  refine bodyPost_ret (ret_grid2 Tryd.results41 rfl rfl (R2.set3 (W : Int) (Hh : Int) (.slice (some ⟨g, 0, none⟩) n cap))) rfl ⟨W, Hh, n, g, cap, HG.out, rfl, ?_, ?_⟩
  · exact hneq _ _ _ (hneq _ _ _ (hneq _ _ _ A2.out hgne) hgne) hgne
  · exact below_set3 Q2 (Nat.le_refl _) _ _ _
end Go.Proofs.YtdndegonpdakkaaDoor
