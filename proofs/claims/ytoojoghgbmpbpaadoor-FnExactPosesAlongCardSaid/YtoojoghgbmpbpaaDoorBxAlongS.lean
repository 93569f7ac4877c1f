/- The contract of spec.bxAlong. Condition: texts of at most 1048576 bytes. -/
import Derived.Test.YtoojoghgbmpbpaaDoorBxAlongI
import Derived.Deep.Cut
import Derived.Deep.CutRange
import Derived.Deep.RegionHeld3
namespace Go.Proofs.YtoojoghgbmpbpaaDoor
set_option maxRecDepth 100000
set_option linter.all false
open Go.RowKit
attribute [local go_sem ↓] Go.wp_at_zero Go.wp_at_succ

theorem bytesX_block {w w' : World} {g : Nat} {L : List UInt8} (h : BytesAt w g L) (e : w'.heap[g]? = w.heap[g]?) : BytesAt w' g L := by
  obtain ⟨cur, h1, h2⟩ := h
  exact ⟨cur, e.trans h1, h2⟩
theorem bytesX_other3 {w : World} {g b : Nat} {L : List UInt8} (h : BytesAt w g L) (hp : g ≠ b) (t : Bx) : BytesAt (((w.setCell ⟨b, 0, none⟩ (.int .i64 t.x)).setCell ⟨b, 1, none⟩ (.int .i64 t.y)).setCell ⟨b, 2, none⟩ (.int .i64 t.p)) g L := by
  obtain ⟨cur, h1, h2⟩ := h
  exact ⟨cur, (Below.heap_setCell _ _ _ g hp).trans ((Below.heap_setCell _ _ _ g hp).trans ((Below.heap_setCell _ _ _ g hp).trans h1)), h2⟩
theorem isG_other3 {w : World} {c b : Nat} {x y : Int} {v : Value} (h : IsG w c x y v) (hp : c ≠ b) (t : Bx) : IsG (((w.setCell ⟨b, 0, none⟩ (.int .i64 t.x)).setCell ⟨b, 1, none⟩ (.int .i64 t.y)).setCell ⟨b, 2, none⟩ (.int .i64 t.p)) c x y v := ((h.other hp _).other hp _).other hp _
theorem alongX_cutA {w wr w2 : World} {B0 gB g n cap : Nat} {v : Value} {m W Hh : Nat} {t r : Bx} {xs : List Value} {L : List UInt8} (G : IsG wr gB (W : Int) (Hh : Int) (.slice (some ⟨g, 0, none⟩) n cap)) (X : IsX wr w.heap.size t 27) (O : wr.ownsRow B0 27 3 v m xs) (A : BytesAt wr g L) (q : Below w.heap.size w wr)
    (hb : Below (wr.alloc (.cells #[.int .i64 0, .int .i64 0, .int .i64 0] 27)).drew.heap.size (wr.alloc (.cells #[.int .i64 0, .int .i64 0, .int .i64 0] 27)).drew w2) (N : IsX w2 wr.heap.size ⟨0, 0, 0⟩ 27) :
    IsX (((w2.setCell ⟨wr.heap.size, 0, none⟩ (.int .i64 r.x)).setCell ⟨wr.heap.size, 1, none⟩ (.int .i64 r.y)).setCell ⟨wr.heap.size, 2, none⟩ (.int .i64 r.p)) wr.heap.size r 27 ∧
    IsG (((w2.setCell ⟨wr.heap.size, 0, none⟩ (.int .i64 r.x)).setCell ⟨wr.heap.size, 1, none⟩ (.int .i64 r.y)).setCell ⟨wr.heap.size, 2, none⟩ (.int .i64 r.p)) gB (W : Int) (Hh : Int) (.slice (some ⟨g, 0, none⟩) n cap) ∧
    IsX (((w2.setCell ⟨wr.heap.size, 0, none⟩ (.int .i64 r.x)).setCell ⟨wr.heap.size, 1, none⟩ (.int .i64 r.y)).setCell ⟨wr.heap.size, 2, none⟩ (.int .i64 r.p)) w.heap.size t 27 ∧
    (((w2.setCell ⟨wr.heap.size, 0, none⟩ (.int .i64 r.x)).setCell ⟨wr.heap.size, 1, none⟩ (.int .i64 r.y)).setCell ⟨wr.heap.size, 2, none⟩ (.int .i64 r.p)).ownsRow B0 27 3 v m xs ∧
    BytesAt (((w2.setCell ⟨wr.heap.size, 0, none⟩ (.int .i64 r.x)).setCell ⟨wr.heap.size, 1, none⟩ (.int .i64 r.y)).setCell ⟨wr.heap.size, 2, none⟩ (.int .i64 r.p)) g L ∧
    Below w.heap.size w (((w2.setCell ⟨wr.heap.size, 0, none⟩ (.int .i64 r.x)).setCell ⟨wr.heap.size, 1, none⟩ (.int .i64 r.y)).setCell ⟨wr.heap.size, 2, none⟩ (.int .i64 r.p)) := by
  have h0 : Below wr.heap.size wr (wr.alloc (.cells #[.int .i64 0, .int .i64 0, .int .i64 0] 27)) := (Below.refl _ _).alloc (Nat.le_refl _) _
  have hw : Below wr.heap.size wr w2 := below_to hb h0 h0.size rfl rfl rfl rfl
  have hb3 := below_setX hw (Nat.le_refl _) r
  exact ⟨N.set3 r, isG_to hb3 G rfl, isX_to hb3 X rfl, own_to hb3 O rfl, bytesAt_to hb3 A rfl, below_after q hb3 q.size⟩
theorem alongX_cutB {w wr w2 : World} {B0 gB g n cap : Nat} {v : Value} {m W Hh : Nat} {t r : Bx} {xs : List Value} {L : List UInt8} (G : IsG wr gB (W : Int) (Hh : Int) (.slice (some ⟨g, 0, none⟩) n cap)) (X : IsX wr w.heap.size t 27) (O : wr.ownsRow B0 27 3 v m xs) (A : BytesAt wr g L) (q : Below w.heap.size w wr)
    (hb : Below wr.drew.heap.size wr.drew w2) :
    IsX (w2.alloc (.cells #[.int .i64 r.x, .int .i64 r.y, .int .i64 r.p] 27)) w2.heap.size r 27 ∧
    IsG (w2.alloc (.cells #[.int .i64 r.x, .int .i64 r.y, .int .i64 r.p] 27)) gB (W : Int) (Hh : Int) (.slice (some ⟨g, 0, none⟩) n cap) ∧
    IsX (w2.alloc (.cells #[.int .i64 r.x, .int .i64 r.y, .int .i64 r.p] 27)) w.heap.size t 27 ∧
    (w2.alloc (.cells #[.int .i64 r.x, .int .i64 r.y, .int .i64 r.p] 27)).ownsRow B0 27 3 v m xs ∧
    BytesAt (w2.alloc (.cells #[.int .i64 r.x, .int .i64 r.y, .int .i64 r.p] 27)) g L ∧
    Below w.heap.size w (w2.alloc (.cells #[.int .i64 r.x, .int .i64 r.y, .int .i64 r.p] 27)) := by
  have q2 : Below w.heap.size w w2 := below_to hb q q.size rfl rfl rfl rfl
  exact ⟨IsX.new, (isG_to hb G rfl).alloc _, (isX_to hb X rfl).alloc _, (own_to hb O rfl).alloc _, bytesAt_to ((Below.refl _ _).alloc (Nat.le_refl _) _) (bytesAt_to hb A rfl) rfl, q2.alloc q2.size _⟩
theorem dir_le {c : UInt8} (h : 0 ≤ dirIx c.toNat) : 0 ≤ dirIx c.toNat ∧ dirIx c.toNat ≤ 3 := by
  rcases dir_cases c h with rfl | rfl | rfl | rfl <;> decide
/-- What holds at each head of the model's loop. -/
def SaI (l : List UInt8) (b : Bx) (L : List UInt8) (w : World) (B0 gB g n cap W Hh k : Nat) (v : Value) (wr : World) : Prop :=
  IsG wr gB (W : Int) (Hh : Int) (.slice (some ⟨g, 0, none⟩) n cap) ∧ IsX wr w.heap.size (atX b L k) 27 ∧ wr.ownsRow B0 27 3 v (k + 1) (cellsX (waysX b L k)) ∧ BytesAt wr g (splitP l).flatten ∧ Below w.heap.size w wr ∧ (∀ j, j ≤ k → goodX (splitP l) (atX b L j) = true)

set_option maxHeartbeats 8000000 in
theorem bxAlong_asked (s : ByteArray) (b : Bx) (v : ByteArray) (w : World) (hs : s.size ≤ 1048576) (hv : v.size ≤ maxLen) (h : isGd s.data.toList = true) (h2 : goodX (splitP s.data.toList) b = true) (h3 : isWord v.data.toList = true) :
    Calls Tryd.prog 48 #[.string s, Bx.v b, .string v] w (AlongX s.data.toList b v.data.toList w) := by
  obtain ⟨i0, hi, hz0, hz1, hz2⟩ := info_parts info_box
  have HI := hide hi
  have HZ0 := hide hz0
  have HZ1 := hide hz1
  have HZ2 := hide hz2
  clear hi hz0 hz1 hz2
  have hlen : v.size ≤ 60 := by have := isWord_len h3; simpa using this
  have HVL := hide (show v.data.toList.length = v.size by simp)
  have HDIR := hide (fun (k : Nat) (hk : k < v.size) => (show 0 ≤ dirIx v[k].toNat from isWord_dir h3 (k := k) (by simpa using hk)))
  have H := hide h
  have HB := hide h2
  have HW := hide h3
  have X0 : IsX (w.alloc (.cells #[.int .i64 b.x, .int .i64 b.y, .int .i64 b.p] 27)) w.heap.size b 27 := IsX.new
  have q0 : Below w.heap.size w (w.alloc (.cells #[.int .i64 b.x, .int .i64 b.y, .int .i64 b.p] 27)) := by go_grown
  clear h h2 h3
  go_enter Tryd.func48, Tryd.ntmps48
  go_wp2_with fail
  generalize w.alloc (.cells #[.int .i64 b.x, .int .i64 b.y, .int .i64 b.p] 27) = W0 at X0 q0 ⊢
  refine (bxAsked_in s b _ hs H.out).mono ?_
  rintro e w1 ⟨W, Hh, n, g, cap, hG, rfl, hA, hb1⟩
  rw [HB.out]
  have HG := hide hG
  have X1 := isX_to hb1 X0 rfl
  have q1 := below_to hb1 q0 q0.size rfl rfl rfl rfl
  have hlx := X1.lt
  have hgl := hA.lt
  have X2 := X1.alloc (.cells #[.int .i64 (W : Int), .int .i64 (Hh : Int), .slice (some ⟨g, 0, none⟩) n cap] 44)
  have G2 : IsG (w1.alloc (.cells #[.int .i64 (W : Int), .int .i64 (Hh : Int), .slice (some ⟨g, 0, none⟩) n cap] 44)) w1.heap.size (W : Int) (Hh : Int) (.slice (some ⟨g, 0, none⟩) n cap) := IsG.new
  have A2 : BytesAt (w1.alloc (.cells #[.int .i64 (W : Int), .int .i64 (Hh : Int), .slice (some ⟨g, 0, none⟩) n cap] 44)) g (splitP s.data.toList).flatten := bytesAt_to ((Below.refl _ _).alloc (Nat.le_refl _) _) hA rfl
  have q2 := q1.alloc q1.size (.cells #[.int .i64 (W : Int), .int .i64 (Hh : Int), .slice (some ⟨g, 0, none⟩) n cap] 44)
  have hz2 : (w1.alloc (.cells #[.int .i64 (W : Int), .int .i64 (Hh : Int), .slice (some ⟨g, 0, none⟩) n cap] 44)).heap.size = w1.heap.size + 1 := by simp
  clear hb1 X0 q0 hG X1 q1 hA
  go_wp2_with fail
  generalize w1.alloc (.cells #[.int .i64 (W : Int), .int .i64 (Hh : Int), .slice (some ⟨g, 0, none⟩) n cap] 44) = W2 at X2 G2 A2 q2 hz2 ⊢
  refine (diWord_any v _ hv).mono ?_
  rintro e w3 ⟨rfl, rfl⟩
  rw [HW.out]
  have hC0 : ∀ j, j ≤ 0 → goodX (splitP s.data.toList) (atX b v.data.toList j) = true := by
    intro j hj
    obtain rfl : j = 0 := by omega
    exact HB.out
  have HST := hide (show SaI s.data.toList b v.data.toList w W2.heap.size w1.heap.size g n cap W Hh 0 (.slice (some ⟨W2.heap.size, 0, none⟩) 1 1) (W2.alloc (.cells #[.int .i64 b.x, .int .i64 b.y, .int .i64 b.p] 27)) from
    ⟨G2.alloc _, X2.alloc _, own_litX _ _ _ (Nat.le_refl _), bytesAt_to ((Below.refl _ _).alloc (Nat.le_refl _) _) A2 rfl, q2.alloc q2.size _, hC0⟩)
  obtain ⟨l1, ⟨c0, c1, c2⟩, -⟩ := X2.all
  have hzz : w1.heap.size < W2.heap.size := by omega
  clear hz2
  generalize w1.heap.size = gB at HST hzz hlx hgl G2 ⊢
  go_wp2
  clear c0 c1 c2 l1 X2 G2 A2 q2 hC0
  generalize W2.heap.size = B0 at HST hzz ⊢
  go_loopw [10, 11] (fun vv ki wr => ∃ (k : Nat) (u : Value), k ≤ v.size ∧ ki = .int .i64 (k : Int) ∧ vv = u ∧ SaI s.data.toList b v.data.toList w B0 gB g n cap W Hh k u wr) (fun _ ki _ => v.size - (intOf ki).toNat)
  case atStart => exact ⟨0, _, by omega, rfl, rfl, HST.out⟩
  case round =>
    clear HST
    obtain ⟨k, u, hk, rfl, rfl, G, X, O, A, q, C⟩ := hrel
    obtain ⟨gq, cq, rfl, hgq, -⟩ := own_form O (by omega)
    by_cases hlt : k < v.size
    · have hki : (k : Int) < (v.size : Int) := by omega
      have hc : v.data.toList[k]? = some v[k] := by rw [List.getElem?_eq_getElem (by simpa using hlt)]; rfl
      have HS := hide (atX_succ b v.data.toList k v[k] hc)
      have HWY := hide (waysX_succ b v.data.toList k)
      have D1 := hide (dirS_one v k hlt)
      have hd := dir_le (HDIR.out k hlt)
      have hnr := good_near H.out (C k (Nat.le_refl _))
      have HC := hide C
      generalize ht : atX b v.data.toList k = t at X HS hnr
      generalize dirIx v[k].toNat = d at HS D1 hd
      have HBR := hide (fun (wx : World) (hAx : BytesAt wx g (splitP s.data.toList).flatten) => bxRoll_any s.data.toList W Hh n HG.out g cap t d wx hAx hnr hd)
      have HRR := hide (show rolX s.data.toList t d = if goodX (splitP s.data.toList) (tipX t d) = true then tipX t d else zeroX from rfl)
      generalize rolX s.data.toList t d = r at HBR HRR
      generalize hgx : goodX (splitP s.data.toList) (tipX t d) = bo at HBR HRR
      have HGX := hide hgx
      generalize hxs : cellsX (waysX b v.data.toList k) = xs at O
      have HXS := hide hxs
      have slq : ∀ wx : World, (Instr.slice 9 (.string v) (some (.int .i64 (k : Int))) (some (.int .i64 ((k : Int) + 1))) none).run Tryd.prog wx = .ok (.string (v.extract k (k + 1))) wx := fun wx => by
        have := run_slice_string (P := Tryd.prog) (w := wx) 9 v .i64 .i64 (k : Int) ((k : Int) + 1) Tryd.underlying9 (by omega) (by omega) (by omega)
        rw [this, Int.toNat_natCast, show ((k : Int) + 1).toNat = k + 1 from by omega]
      have w1q : IntKind.i64.wrap ((k : Int) + 1) = (k : Int) + 1 := IntWalk.i64_in _ (by omega)
      have HA1 := hide (show BytesAt wr.drew g (splitP s.data.toList).flatten from A)
      have HA2 := hide (show BytesAt (wr.alloc (.cells #[.int .i64 0, .int .i64 0, .int .i64 0] 27)).drew g (splitP s.data.toList).flatten from bytesAt_to (((Below.refl _ wr).alloc (Nat.le_refl _) (.cells #[.int .i64 0, .int .i64 0, .int .i64 0] 27)).drew) A rfl)
      have HAo := hide A
      have HO := hide O
      clear A O hxs ht hc hnr C hd hgx
      have hneG : w.heap.size ≠ gB := by omega
      obtain ⟨l0, ⟨a0, a1, a2⟩, -⟩ := X.all
      obtain ⟨l1, ⟨b0, b1, b2⟩, -⟩ := G.all
      go_upto_region 8 with (fail)
      go_cut [12, 13] from 29 to 53 (fun p qv wx => ∃ bb, p = .pointer (some ⟨bb, 0, none⟩) ∧ qv = .bool bo ∧ IsX wx bb r 27 ∧ IsG wx gB (W : Int) (Hh : Int) (.slice (some ⟨g, 0, none⟩) n cap) ∧ IsX wx w.heap.size t 27 ∧ wx.ownsRow B0 27 3 (.slice (some ⟨gq, 0, none⟩) (k + 1) cq) (k + 1) xs ∧ BytesAt wx g (splitP s.data.toList).flatten ∧ Below w.heap.size w wx)
      case first =>
        go_region_held3 (fun w' => w'.cell? ⟨w.heap.size, 0, none⟩ = some (.int .i64 t.x) ∧ w'.cell? ⟨w.heap.size, 1, none⟩ = some (.int .i64 t.y) ∧ w'.cell? ⟨w.heap.size, 2, none⟩ = some (.int .i64 t.p) ∧ w'.cell? ⟨gB, 0, none⟩ = some (.int .i64 (W : Int)) ∧ w'.cell? ⟨gB, 1, none⟩ = some (.int .i64 (Hh : Int)) ∧ w'.cell? ⟨gB, 2, none⟩ = some (.slice (some ⟨g, 0, none⟩) n cap)) (first | (refine ⟨?_, ?_, ?_, ?_, ?_, ?_⟩ <;> with_reducible assumption) | (refine ⟨?_, ?_, ?_, ?_, ?_, ?_⟩ <;> (rw [cell_set3X (by omega)]; with_reducible assumption)) | (refine ⟨?_, ?_, ?_, ?_, ?_, ?_⟩ <;> (refine (((Below.refl _ _).alloc (Nat.le_refl _) _).cell (by first | exact l0 | exact l1 | exact m0 | exact m1)).trans ?_; with_reducible assumption)) | (refine ⟨?_, ?_, ?_, ?_, ?_, ?_⟩ <;> assumption))
          (first
            | (go_at_call 40; (refine (diDir_any _ _).mono ?_); rintro e w' ⟨rfl, rfl⟩; rw [D1.out])
            | (go_at_call 41; (refine (HBR.out _ (by first | (with_reducible exact HA1.out) | (with_reducible exact HA2.out))).mono ?_); rintro e w2 ⟨rfl, hb2⟩; (first | (have hA : Below (wr.alloc (.cells #[.int .i64 0, .int .i64 0, .int .i64 0] 27)).drew.heap.size (wr.alloc (.cells #[.int .i64 0, .int .i64 0, .int .i64 0] 27)).drew w2 := (by with_reducible exact hb2); have NA := isX_to hA (IsX.new (w := wr) (q := ⟨0, 0, 0⟩) (ty := 27)) rfl; obtain ⟨l2, ⟨c0, c1, c2⟩, f0, f1, f2⟩ := NA.all; obtain ⟨m0, ⟨x0, x1, x2⟩, -⟩ := (isX_to hA (X.alloc (.cells #[.int .i64 0, .int .i64 0, .int .i64 0] 27)) rfl).all; obtain ⟨m1, ⟨y0, y1, y2⟩, -⟩ := (isG_to hA (G.alloc (.cells #[.int .i64 0, .int .i64 0, .int .i64 0] 27)) rfl).all) | (have hB : Below wr.drew.heap.size wr.drew w2 := (by with_reducible exact hb2); obtain ⟨m0, ⟨x0, x1, x2⟩, -⟩ := (isX_to hB X rfl).all; obtain ⟨m1, ⟨y0, y1, y2⟩, -⟩ := (isG_to hB G rfl).all))))
        all_goals
          go_wp2_with fail
          go_meet
          refine ⟨_, rfl, rfl, ?_⟩
          first
            | (with_reducible exact (alongX_cutA (r := r) G X HO.out HAo.out q hA NA))
            | (with_reducible exact (alongX_cutB (r := r) G X HO.out HAo.out q hB))
      obtain ⟨bb, rfl, rfl, N2, G2, X2, O2, A2, q2⟩ := hcut
      clear a0 a1 a2 l0 b0 b1 b2 l1 G X q HA1 HA2 HAo HO slq w1q HBR
      have HO2 := hide O2
      have HA2 := hide A2
      clear O2 A2
      cases bo
      · have HN := hide (goesX_no (l := s.data.toList) (b := b) (L := v.data.toList) (k := k) (by rw [HVL.out]; exact hlt) (by rw [HS.out]; exact HGX.out))
        go_wp2
        go_returns
        exact .inr ⟨HN.out, rfl, q2⟩
      · have hr : r = tipX t d := by simpa using HRR.out
        have HR := hide hr
        have HC2 := hide (show ∀ j, j ≤ k + 1 → goodX (splitP s.data.toList) (atX b v.data.toList j) = true from by
          intro j hj
          by_cases he : j = k + 1
          · subst he
            rw [HS.out]
            exact HGX.out
          · exact HC.out j (by omega))
        clear HRR hr
        obtain ⟨l2, ⟨n0, n1, n2⟩, -⟩ := N2.all
        obtain ⟨l3, ⟨c0, c1, c2⟩, f0, f1, f2⟩ := X2.all
        go_upto_region 12 with (fail)
        have X3 := X2.set3 r
        have G3 := isG_other3 G2 (show gB ≠ w.heap.size by omega) r
        have HO3 := hide (own_setX HO2.out (show w.heap.size < B0 by omega) r)
        have hgne : g ≠ w.heap.size := by
          rintro rfl
          obtain ⟨cur, h1, _⟩ := HA2.out
          have h3 := X2
          unfold IsX at h3
          rw [h1] at h3
          simp at h3
        have HA3 := hide (bytesX_other3 HA2.out hgne r)
        have q3 := below_setX q2 (Nat.le_refl _) r
        clear n0 n1 n2 l2 c0 c1 c2 f0 f1 f2 l3 N2 G2 X2 HO2 HA2 q2 hgne
        generalize ((wc.setCell ⟨w.heap.size, 0, none⟩ (.int .i64 r.x)).setCell ⟨w.heap.size, 1, none⟩ (.int .i64 r.y)).setCell ⟨w.heap.size, 2, none⟩ (.int .i64 r.p) = W3 at X3 G3 HO3 HA3 q3 ⊢
        have hz3 := (HO3.out.lt gq rfl).2
        obtain ⟨l4, ⟨c0, c1, c2⟩, -⟩ := X3.all
        go_wp2_with (at_builtin; refine wpList_append_own_at _ rfl _ _ 61 rfl B0 27 i0 (.agg #[.int .i64 0, .int .i64 0, .int .i64 0]) 3 24 Tryd.underlying61 HI.out HZ0.out HZ1.out HZ2.out rfl (by decide) _ _ _ rfl (HO3.out.alloc _) ⟨W3.heap.size, 0, none⟩ 1 1 (bxC r) rfl rfl ?c1 ?c2 ?c3 ?c4 ?c5 ?_)
        case c1 => exact bxC_cell IsX.new
        case c2 => exact bxC_one _
        case c3 => unfold maxLen; omega
        case c4 => omega
        case c5 => simp; omega
        · intro v' w5 hown5 hg5 _ _
          have hbB := (Below.refl B0 _).grown hg5 (by simp; omega) (fun j hj => (HO3.out.lt j hj).1)
          have G5 : IsG w5 gB (W : Int) (Hh : Int) (.slice (some ⟨g, 0, none⟩) n cap) := (hbB.block _ (by omega)).trans (G3.alloc _)
          have X5 : IsX w5 w.heap.size r 27 := (hbB.block _ (by omega)).trans (X3.alloc _)
          have A5 : BytesAt w5 g (splitP s.data.toList).flatten := bytesX_block (bytesAt_to ((Below.refl _ _).alloc (Nat.le_refl _) _) HA3.out rfl) (hbB.block g (by omega))
          have q5 : Below w.heap.size w w5 := (q3.alloc q3.size _).grown hg5 (by have := q3.size; simp; omega) (fun j hj => by have := (HO3.out.lt j hj).1; omega)
          have HT5 := hide (show SaI s.data.toList b v.data.toList w B0 gB g n cap W Hh (k + 1) v' w5 from ⟨G5, by rw [HS.out, ← HR.out]; exact X5, by rw [HWY.out, cellsX_snoc, HXS.out, HS.out, ← HR.out]; exact hown5, A5, q5, HC2.out⟩)
          clear hown5 hg5 hbB G5 X5 A5 q5 X3 G3 HO3 HA3 q3 c0 c1 c2 l4
          go_wp2
          go_roundw
          case rel => exact ⟨k + 1, _, by omega, by go_num, rfl, HT5.out⟩
          case measure => simp [intOf] <;> omega
    · obtain rfl : k = v.size := by omega
      have HY := hide (goesX_yes (l := s.data.toList) (b := b) (L := v.data.toList) (fun k hk => C (k + 1) (by rw [HVL.out] at hk; omega)))
      have HO := hide (own_mono O (show w.heap.size ≤ B0 by omega))
      clear O A X C G
      go_wp2
      go_returns
      exact .inl ⟨HY.out, gq, cq, by rw [HVL.out]; rfl, by rw [HVL.out]; exact HO.out, q⟩
theorem bxAlong_no (s : ByteArray) (b : Bx) (v : ByteArray) (w : World) (hs : s.size ≤ 1048576) (hv : v.size ≤ maxLen) (h : askX s.data.toList b = false ∨ isWord v.data.toList = false) :
    Calls Tryd.prog 48 #[.string s, Bx.v b, .string v] w fun e w' => e = .returned (.tuple #[.slice none 0 0, .bool false]) ∧ Below w.heap.size w w' := by
  have q0 : Below w.heap.size w (w.alloc (.cells #[.int .i64 b.x, .int .i64 b.y, .int .i64 b.p] 27)) := by go_grown
  cases hgd : isGd s.data.toList
  · have H := hide hgd
    clear h hgd
    go_enter Tryd.func48, Tryd.ntmps48
    go_wp2_with fail
    generalize w.alloc (.cells #[.int .i64 b.x, .int .i64 b.y, .int .i64 b.p] 27) = W0 at q0 ⊢
    refine (bxAsked_bad s b _ hs H.out).mono ?_
    rintro e w1 ⟨rfl, hb1⟩
    have q1 := below_to hb1 q0 q0.size rfl rfl rfl rfl
    clear hb1
    go_wp2
    go_returns
    exact ⟨rfl, q1.alloc q1.size _⟩
  · cases hgx : goodX (splitP s.data.toList) b
    · have H := hide hgd
      have HX := hide hgx
      clear h hgd hgx
      go_enter Tryd.func48, Tryd.ntmps48
      go_wp2_with fail
      generalize w.alloc (.cells #[.int .i64 b.x, .int .i64 b.y, .int .i64 b.p] 27) = W0 at q0 ⊢
      refine (bxAsked_in s b _ hs H.out).mono ?_
      rintro e w1 ⟨W, Hh, n, g, cap, _, rfl, _, hb1⟩
      rw [HX.out]
      have q1 := below_to hb1 q0 q0.size rfl rfl rfl rfl
      clear hb1
      go_wp2
      go_returns
      exact ⟨rfl, q1.alloc q1.size _⟩
    · have hw : isWord v.data.toList = false := by
        rcases h with h | h
        · unfold askX at h
          rw [hgd, hgx] at h
          cases h
        · exact h
      have H := hide hgd
      have HX := hide hgx
      have HW := hide hw
      clear h hgd hgx hw
      go_enter Tryd.func48, Tryd.ntmps48
      go_wp2_with fail
      generalize w.alloc (.cells #[.int .i64 b.x, .int .i64 b.y, .int .i64 b.p] 27) = W0 at q0 ⊢
      refine (bxAsked_in s b _ hs H.out).mono ?_
      rintro e w1 ⟨W, Hh, n, g, cap, _, rfl, _, hb1⟩
      rw [HX.out]
      have q1 := below_to hb1 q0 q0.size rfl rfl rfl rfl
      have q2 := q1.alloc q1.size (.cells #[.int .i64 (W : Int), .int .i64 (Hh : Int), .slice (some ⟨g, 0, none⟩) n cap] 44)
      clear hb1 q1
      go_wp2_with fail
      refine (diWord_any v _ hv).mono ?_
      rintro e w2 ⟨rfl, rfl⟩
      rw [HW.out]
      go_wp2
      go_returns
      exact ⟨rfl, q2⟩
end Go.Proofs.YtoojoghgbmpbpaaDoor
