/- The contract of spec.boAlong. -/
import Derived.Test.YtgehcjmhgfhkdaaDoorWays
namespace Go.Proofs.YtgehcjmhgfhkdaaDoor
set_option maxRecDepth 100000
set_option linter.all false
open Go.RowKit

theorem along_cutA {w wr w2 : World} {g n cap gq k cq W Hh : Nat} {t r : St} {xs : List Value} {L : List UInt8} (G : IsG wr w.heap.size (W : Int) (Hh : Int) (.slice (some ⟨g, 0, none⟩) n cap)) (S : IsS wr (w.heap.size + 1) t 32) (O : wr.ownsRow (w.heap.size + 2) 32 8 (.slice (some ⟨gq, 0, none⟩) (k + 1) cq) (k + 1) xs) (A : BytesAt wr g L) (q : Below w.heap.size w wr)
    (hb : Below (wr.alloc (.cells #[.int .i64 0, .int .i64 0, .int .i64 0, .int .i64 0, .int .i64 0, .int .i64 0, .int .i64 0, .int .i64 0] 32)).drew.heap.size (wr.alloc (.cells #[.int .i64 0, .int .i64 0, .int .i64 0, .int .i64 0, .int .i64 0, .int .i64 0, .int .i64 0, .int .i64 0] 32)).drew w2) (N : IsS w2 wr.heap.size ⟨0, 0, ⟨0, 0, 0, 0, 0, 0⟩⟩ 32) : IsS (((((((((w2.setCell ⟨wr.heap.size, 0, none⟩ (.int .i64 r.x)).setCell ⟨wr.heap.size, 1, none⟩ (.int .i64 r.y)).setCell ⟨wr.heap.size, 2, none⟩ (.int .i64 r.d.t)).setCell ⟨wr.heap.size, 3, none⟩ (.int .i64 r.d.n)).setCell ⟨wr.heap.size, 4, none⟩ (.int .i64 r.d.e)).setCell ⟨wr.heap.size, 5, none⟩ (.int .i64 r.d.s)).setCell ⟨wr.heap.size, 6, none⟩ (.int .i64 r.d.w)).setCell ⟨wr.heap.size, 7, none⟩ (.int .i64 r.d.b))) wr.heap.size r 32 ∧ IsG ((((((((w2.setCell ⟨wr.heap.size, 0, none⟩ (.int .i64 r.x)).setCell ⟨wr.heap.size, 1, none⟩ (.int .i64 r.y)).setCell ⟨wr.heap.size, 2, none⟩ (.int .i64 r.d.t)).setCell ⟨wr.heap.size, 3, none⟩ (.int .i64 r.d.n)).setCell ⟨wr.heap.size, 4, none⟩ (.int .i64 r.d.e)).setCell ⟨wr.heap.size, 5, none⟩ (.int .i64 r.d.s)).setCell ⟨wr.heap.size, 6, none⟩ (.int .i64 r.d.w)).setCell ⟨wr.heap.size, 7, none⟩ (.int .i64 r.d.b)) w.heap.size (W : Int) (Hh : Int) (.slice (some ⟨g, 0, none⟩) n cap) ∧ IsS ((((((((w2.setCell ⟨wr.heap.size, 0, none⟩ (.int .i64 r.x)).setCell ⟨wr.heap.size, 1, none⟩ (.int .i64 r.y)).setCell ⟨wr.heap.size, 2, none⟩ (.int .i64 r.d.t)).setCell ⟨wr.heap.size, 3, none⟩ (.int .i64 r.d.n)).setCell ⟨wr.heap.size, 4, none⟩ (.int .i64 r.d.e)).setCell ⟨wr.heap.size, 5, none⟩ (.int .i64 r.d.s)).setCell ⟨wr.heap.size, 6, none⟩ (.int .i64 r.d.w)).setCell ⟨wr.heap.size, 7, none⟩ (.int .i64 r.d.b)) (w.heap.size + 1) t 32 ∧ ((((((((w2.setCell ⟨wr.heap.size, 0, none⟩ (.int .i64 r.x)).setCell ⟨wr.heap.size, 1, none⟩ (.int .i64 r.y)).setCell ⟨wr.heap.size, 2, none⟩ (.int .i64 r.d.t)).setCell ⟨wr.heap.size, 3, none⟩ (.int .i64 r.d.n)).setCell ⟨wr.heap.size, 4, none⟩ (.int .i64 r.d.e)).setCell ⟨wr.heap.size, 5, none⟩ (.int .i64 r.d.s)).setCell ⟨wr.heap.size, 6, none⟩ (.int .i64 r.d.w)).setCell ⟨wr.heap.size, 7, none⟩ (.int .i64 r.d.b)).ownsRow (w.heap.size + 2) 32 8 (.slice (some ⟨gq, 0, none⟩) (k + 1) cq) (k + 1) xs ∧ BytesAt ((((((((w2.setCell ⟨wr.heap.size, 0, none⟩ (.int .i64 r.x)).setCell ⟨wr.heap.size, 1, none⟩ (.int .i64 r.y)).setCell ⟨wr.heap.size, 2, none⟩ (.int .i64 r.d.t)).setCell ⟨wr.heap.size, 3, none⟩ (.int .i64 r.d.n)).setCell ⟨wr.heap.size, 4, none⟩ (.int .i64 r.d.e)).setCell ⟨wr.heap.size, 5, none⟩ (.int .i64 r.d.s)).setCell ⟨wr.heap.size, 6, none⟩ (.int .i64 r.d.w)).setCell ⟨wr.heap.size, 7, none⟩ (.int .i64 r.d.b)) g L ∧ Below w.heap.size w ((((((((w2.setCell ⟨wr.heap.size, 0, none⟩ (.int .i64 r.x)).setCell ⟨wr.heap.size, 1, none⟩ (.int .i64 r.y)).setCell ⟨wr.heap.size, 2, none⟩ (.int .i64 r.d.t)).setCell ⟨wr.heap.size, 3, none⟩ (.int .i64 r.d.n)).setCell ⟨wr.heap.size, 4, none⟩ (.int .i64 r.d.e)).setCell ⟨wr.heap.size, 5, none⟩ (.int .i64 r.d.s)).setCell ⟨wr.heap.size, 6, none⟩ (.int .i64 r.d.w)).setCell ⟨wr.heap.size, 7, none⟩ (.int .i64 r.d.b)) := by
  have q2 : Below w.heap.size w w2 := below_to hb (q.alloc q.size _) (by have := q.size; simp; omega) rfl rfl rfl rfl
  have hb8 : Below wr.heap.size wr (((((((((w2.setCell ⟨wr.heap.size, 0, none⟩ (.int .i64 r.x)).setCell ⟨wr.heap.size, 1, none⟩ (.int .i64 r.y)).setCell ⟨wr.heap.size, 2, none⟩ (.int .i64 r.d.t)).setCell ⟨wr.heap.size, 3, none⟩ (.int .i64 r.d.n)).setCell ⟨wr.heap.size, 4, none⟩ (.int .i64 r.d.e)).setCell ⟨wr.heap.size, 5, none⟩ (.int .i64 r.d.s)).setCell ⟨wr.heap.size, 6, none⟩ (.int .i64 r.d.w)).setCell ⟨wr.heap.size, 7, none⟩ (.int .i64 r.d.b))) := below_set8 (below_to hb ((Below.refl wr.heap.size wr).alloc (Nat.le_refl _) (.cells #[.int .i64 0, .int .i64 0, .int .i64 0, .int .i64 0, .int .i64 0, .int .i64 0, .int .i64 0, .int .i64 0] 32)) (by simp) rfl rfl rfl rfl) (Nat.le_refl _) r
  exact ⟨N.set8 r, isG_to hb8 G rfl, isS_to hb8 S rfl, own_to hb8 O rfl, bytesAt_to hb8 A rfl, below_set8 q2 q.size r⟩
theorem along_cutB {w wr w2 : World} {g n cap gq k cq W Hh : Nat} {t r : St} {xs : List Value} {L : List UInt8} (G : IsG wr w.heap.size (W : Int) (Hh : Int) (.slice (some ⟨g, 0, none⟩) n cap)) (S : IsS wr (w.heap.size + 1) t 32) (O : wr.ownsRow (w.heap.size + 2) 32 8 (.slice (some ⟨gq, 0, none⟩) (k + 1) cq) (k + 1) xs) (A : BytesAt wr g L) (q : Below w.heap.size w wr)
    (hb : Below wr.drew.heap.size wr.drew w2) : IsS (w2.alloc (.cells #[.int .i64 r.x, .int .i64 r.y, .int .i64 r.d.t, .int .i64 r.d.n, .int .i64 r.d.e, .int .i64 r.d.s, .int .i64 r.d.w, .int .i64 r.d.b] 32)) w2.heap.size r 32 ∧ IsG (w2.alloc (.cells #[.int .i64 r.x, .int .i64 r.y, .int .i64 r.d.t, .int .i64 r.d.n, .int .i64 r.d.e, .int .i64 r.d.s, .int .i64 r.d.w, .int .i64 r.d.b] 32)) w.heap.size (W : Int) (Hh : Int) (.slice (some ⟨g, 0, none⟩) n cap) ∧ IsS (w2.alloc (.cells #[.int .i64 r.x, .int .i64 r.y, .int .i64 r.d.t, .int .i64 r.d.n, .int .i64 r.d.e, .int .i64 r.d.s, .int .i64 r.d.w, .int .i64 r.d.b] 32)) (w.heap.size + 1) t 32 ∧ (w2.alloc (.cells #[.int .i64 r.x, .int .i64 r.y, .int .i64 r.d.t, .int .i64 r.d.n, .int .i64 r.d.e, .int .i64 r.d.s, .int .i64 r.d.w, .int .i64 r.d.b] 32)).ownsRow (w.heap.size + 2) 32 8 (.slice (some ⟨gq, 0, none⟩) (k + 1) cq) (k + 1) xs ∧ BytesAt (w2.alloc (.cells #[.int .i64 r.x, .int .i64 r.y, .int .i64 r.d.t, .int .i64 r.d.n, .int .i64 r.d.e, .int .i64 r.d.s, .int .i64 r.d.w, .int .i64 r.d.b] 32)) g L ∧ Below w.heap.size w (w2.alloc (.cells #[.int .i64 r.x, .int .i64 r.y, .int .i64 r.d.t, .int .i64 r.d.n, .int .i64 r.d.e, .int .i64 r.d.s, .int .i64 r.d.w, .int .i64 r.d.b] 32)) := by
  have q2 : Below w.heap.size w w2 := below_to hb q q.size rfl rfl rfl rfl
  exact ⟨IsS.new, (isG_to hb G rfl).alloc _, (isS_to hb S rfl).alloc _, (own_to hb O rfl).alloc _, bytesAt_to ((Below.refl _ _).alloc (Nat.le_refl _) _) (bytesAt_to hb A rfl) rfl, q2.alloc q2.size _⟩
theorem bytes_block {w w' : World} {g : Nat} {L : List UInt8} (h : BytesAt w g L) (e : w'.heap[g]? = w.heap[g]?) : BytesAt w' g L := by
  obtain ⟨cur, h1, h2⟩ := h
  exact ⟨cur, e.trans h1, h2⟩
theorem own_set8 {w2 : World} {B c n : Nat} {e : TypeId} {z : Nat} {v : Value} {xs : List Value} {r : St} (h : w2.ownsRow B e z v n xs) (hc : c < B) : (((((((((w2.setCell ⟨c, 0, none⟩ (.int .i64 r.x)).setCell ⟨c, 1, none⟩ (.int .i64 r.y)).setCell ⟨c, 2, none⟩ (.int .i64 r.d.t)).setCell ⟨c, 3, none⟩ (.int .i64 r.d.n)).setCell ⟨c, 4, none⟩ (.int .i64 r.d.e)).setCell ⟨c, 5, none⟩ (.int .i64 r.d.s)).setCell ⟨c, 6, none⟩ (.int .i64 r.d.w)).setCell ⟨c, 7, none⟩ (.int .i64 r.d.b))).ownsRow B e z v n xs :=
  ownsRow_setCell_below (ownsRow_setCell_below (ownsRow_setCell_below (ownsRow_setCell_below (ownsRow_setCell_below (ownsRow_setCell_below (ownsRow_setCell_below (ownsRow_setCell_below h hc _) hc _) hc _) hc _) hc _) hc _) hc _) hc _
/-- What the model's way hands back. -/
def AlongPost (s : St) (L : List UInt8) (K : Nat) (w : World) (e : Ending) (w' : World) : Prop := ∃ gq cq, e = .returned (.slice (some ⟨gq, 0, none⟩) (K + 1) cq) ∧ w'.ownsRow w.heap.size 32 8 (.slice (some ⟨gq, 0, none⟩) (K + 1) cq) (K + 1) (cellsS (waysT s L K)) ∧ Below w.heap.size w w'

set_option maxHeartbeats 16000000 in
theorem boAlong_any (l : List UInt8) (W Hh n : Nat) (hg : GridOk l W Hh n) (g cap : Nat) (s : St) (v : ByteArray) (w : World) (hv : v.size ≤ 60) (hA : BytesAt w g (splitP l).flatten) (hs : floorL l s.x s.y = true) :
    Calls Tryd.prog 66 #[gridV W Hh n g cap, St.v s, .string v] w (AlongPost s v.data.toList (stopT l s v.data.toList) w) := by
  have hb := hide hg.1
  have HG := hide hg
  have hgl := hA.lt
  have HA0 := hide (show BytesAt (((w.alloc (.cells #[.int .i64 (W : Int), .int .i64 (Hh : Int), .slice (some ⟨g, 0, none⟩) n cap] 77)).alloc (.cells #[.int .i64 s.x, .int .i64 s.y, .int .i64 s.d.t, .int .i64 s.d.n, .int .i64 s.d.e, .int .i64 s.d.s, .int .i64 s.d.w, .int .i64 s.d.b] 32)).alloc (.cells #[.int .i64 s.x, .int .i64 s.y, .int .i64 s.d.t, .int .i64 s.d.n, .int .i64 s.d.e, .int .i64 s.d.s, .int .i64 s.d.w, .int .i64 s.d.b] 32)) g (splitP l).flatten from bytesAt_to (w0 := w) (by go_grown) hA rfl)
  obtain ⟨i0, hi, hz0, hz1, hz2⟩ := info_parts info_state
  have HI := hide hi
  have HZ0 := hide hz0
  have HZ1 := hide hz1
  have HZ2 := hide hz2
  clear hg hA hi hz0 hz1 hz2
  go_enter Tryd.func66, Tryd.ntmps66
  go_wp2
  go_loopw [7, 8] (fun o i wr => ∃ k : Nat, k ≤ v.size ∧ i = .int .i64 (k : Int) ∧ wr.ownsRow (w.heap.size + 2) 32 8 o (k + 1) (cellsS (waysT s v.data.toList k)) ∧ IsG wr w.heap.size (W : Int) (Hh : Int) (.slice (some ⟨g, 0, none⟩) n cap) ∧ IsS wr (w.heap.size + 1) (atT s v.data.toList k) 32 ∧ floorL l (atT s v.data.toList k).x (atT s v.data.toList k).y = true ∧ (∀ j c, j < k → v.data.toList[j]? = some c → canT l (atT s v.data.toList j) (dirIx c.toNat) = true) ∧ BytesAt wr g (splitP l).flatten ∧ Below w.heap.size w wr) (fun _ i _ => v.size - (intOf i).toNat)
  case atStart =>
    refine ⟨0, Nat.zero_le _, rfl, ⟨by rw [cellsS_len, waysT_len], .inr ⟨w.heap.size + 2, 1, #[.int .i64 s.x, .int .i64 s.y, .int .i64 s.d.t, .int .i64 s.d.n, .int .i64 s.d.e, .int .i64 s.d.s, .int .i64 s.d.w, .int .i64 s.d.b], rfl, Nat.le_refl _, ?_, Nat.le_refl _, by unfold maxLen; omega, rfl, rfl⟩⟩, (IsG.new.alloc _).alloc _, ?_, hs, fun j c hj => absurd hj (by omega), HA0.out, by go_grown⟩
    · have h := IsS.new (w := (w.alloc (.cells #[.int .i64 (W : Int), .int .i64 (Hh : Int), .slice (some ⟨g, 0, none⟩) n cap] 77)).alloc (.cells #[.int .i64 s.x, .int .i64 s.y, .int .i64 s.d.t, .int .i64 s.d.n, .int .i64 s.d.e, .int .i64 s.d.s, .int .i64 s.d.w, .int .i64 s.d.b] 32)) (s := s) (ty := 32)
      rw [World.size_alloc, World.size_alloc] at h
      exact h
    · exact (IsS.new2 (w := w) (o := (.cells #[.int .i64 (W : Int), .int .i64 (Hh : Int), .slice (some ⟨g, 0, none⟩) n cap] 77)) (s := s) (ty := 32)).alloc _
  case round =>
    obtain ⟨k, hk, rfl, O, G, S, F, C, A, q⟩ := hrel
    clear HA0
    obtain ⟨gq, cq, rfl, hgq, -⟩ := own_form O (by omega)
    by_cases hlt : k < v.size
    · have hc : v.data.toList[k]? = some v[k] := by rw [List.getElem?_eq_getElem (by simpa using hlt)]; rfl
      have HS := hide (atT_succ s v.data.toList k v[k] hc)
      have HW := hide (waysT_succ s v.data.toList k)
      have D1 := hide (dirS_one v k hlt)
      have HSTOP := hide (fun hcan : canT l (atT s v.data.toList k) (dirIx v[k].toNat) = false => stop_at l v.data.toList s k (by simpa using hk) C (fun c h => by rw [hc] at h; cases h; exact hcan))
      have HCC := hide (fun hcan : canT l (atT s v.data.toList k) (dirIx v[k].toNat) = true => (show ∀ j c, j < k + 1 → v.data.toList[j]? = some c → canT l (atT s v.data.toList j) (dirIx c.toNat) = true from fun j c hj hjc => by
        rcases Nat.lt_or_ge j k with h | h
        · exact C j c h hjc
        · obtain rfl : j = k := by omega
          rw [hc] at hjc
          cases hjc
          exact hcan))
      obtain ⟨hx, hy⟩ := floor_near hb.out F
      generalize ht : atT s v.data.toList k = t at S F HS HSTOP HCC hx hy
      generalize hd : dirIx v[k].toNat = d at HS D1 HSTOP HCC
      have HRT := hide (show rolT l t d = (if canT l t d = true then rollT t d else ⟨0, 0, ⟨0, 0, 0, 0, 0, 0⟩⟩) from rfl)
      have HFL := hide (fun (h : canT l t d = true) => can_floor h)
      have HBR := hide (fun (wx : World) (hAx : BytesAt wx g (splitP l).flatten) => boRoll_any l W Hh n HG.out g cap t d wx hAx hx hy)
      generalize hxs : cellsS (waysT s v.data.toList k) = xs at O
      have HXS := hide hxs
      generalize rolT l t d = r at HBR HRT
      generalize canT l t d = b at HBR HRT HFL HSTOP HCC
      have HT := hide ht
      have slq : ∀ wx : World, (Instr.slice 9 (.string v) (some (.int .i64 (k : Int))) (some (.int .i64 ((k : Int) + 1))) none).run Tryd.prog wx = .ok (.string (v.extract k (k + 1))) wx := fun wx => by
        have := run_slice_string (P := Tryd.prog) (w := wx) 9 v .i64 .i64 (k : Int) ((k : Int) + 1) Tryd.underlying9 (by omega) (by omega) (by omega)
        rw [this, Int.toNat_natCast, show ((k : Int) + 1).toNat = k + 1 from by omega]
      have w1q : IntKind.i64.wrap ((k : Int) + 1) = (k : Int) + 1 := IntWalk.i64_in _ (by omega)
      have HA1 := hide (show BytesAt wr.drew g (splitP l).flatten from A)
      have HA2 := hide (show BytesAt (wr.alloc (.cells #[.int .i64 0, .int .i64 0, .int .i64 0, .int .i64 0, .int .i64 0, .int .i64 0, .int .i64 0, .int .i64 0] 32)).drew g (splitP l).flatten from bytesAt_to (((Below.refl _ wr).alloc (Nat.le_refl _) (.cells #[.int .i64 0, .int .i64 0, .int .i64 0, .int .i64 0, .int .i64 0, .int .i64 0, .int .i64 0, .int .i64 0] 32)).drew) A rfl)
      have HAo := hide A
      have HO := hide O
      clear A O hxs ht hc hx hy F C hd
      have hneG : w.heap.size + 1 ≠ w.heap.size := by omega
      obtain ⟨l0, ⟨a0, a1, a2, a3, a4, a5, a6, a7⟩, -⟩ := S.all
      obtain ⟨l1, ⟨b0, b1, b2⟩, -⟩ := G.all
      go_upto_region 5 with (fail)
      go_cut [9, 10] from 13 to 38 (fun p qv wx => ∃ bb, p = .pointer (some ⟨bb, 0, none⟩) ∧ qv = .bool b ∧ IsS wx bb r 32 ∧ IsG wx w.heap.size (W : Int) (Hh : Int) (.slice (some ⟨g, 0, none⟩) n cap) ∧ IsS wx (w.heap.size + 1) t 32 ∧ wx.ownsRow (w.heap.size + 2) 32 8 (.slice (some ⟨gq, 0, none⟩) (k + 1) cq) (k + 1) xs ∧ BytesAt wx g (splitP l).flatten ∧ Below w.heap.size w wx)
      case first =>
        go_region_held3 (fun w' => w'.cell? ⟨w.heap.size + 1, 0, none⟩ = some (.int .i64 t.x) ∧ w'.cell? ⟨w.heap.size + 1, 1, none⟩ = some (.int .i64 t.y) ∧ w'.cell? ⟨w.heap.size + 1, 2, none⟩ = some (.int .i64 t.d.t) ∧ w'.cell? ⟨w.heap.size + 1, 3, none⟩ = some (.int .i64 t.d.n) ∧ w'.cell? ⟨w.heap.size + 1, 4, none⟩ = some (.int .i64 t.d.e) ∧ w'.cell? ⟨w.heap.size + 1, 5, none⟩ = some (.int .i64 t.d.s) ∧ w'.cell? ⟨w.heap.size + 1, 6, none⟩ = some (.int .i64 t.d.w) ∧ w'.cell? ⟨w.heap.size + 1, 7, none⟩ = some (.int .i64 t.d.b) ∧ w'.cell? ⟨w.heap.size, 0, none⟩ = some (.int .i64 (W : Int)) ∧ w'.cell? ⟨w.heap.size, 1, none⟩ = some (.int .i64 (Hh : Int)) ∧ w'.cell? ⟨w.heap.size, 2, none⟩ = some (.slice (some ⟨g, 0, none⟩) n cap)) (first | (refine ⟨?_, ?_, ?_, ?_, ?_, ?_, ?_, ?_, ?_, ?_, ?_⟩ <;> with_reducible assumption) | (refine ⟨?_, ?_, ?_, ?_, ?_, ?_, ?_, ?_, ?_, ?_, ?_⟩ <;> (rw [cell_set8 (by omega)]; with_reducible assumption)) | (refine ⟨?_, ?_, ?_, ?_, ?_, ?_, ?_, ?_, ?_, ?_, ?_⟩ <;> (refine (((Below.refl _ _).alloc (Nat.le_refl _) _).cell (by first | exact l0 | exact l1 | exact m0 | exact m1)).trans ?_; with_reducible assumption)) | (refine ⟨?_, ?_, ?_, ?_, ?_, ?_, ?_, ?_, ?_, ?_, ?_⟩ <;> assumption))
          (first
            | (go_at_call 65; (refine (diDir_any _ _).mono ?_); rintro e w' ⟨rfl, rfl⟩; rw [D1.out])
            | (go_at_call 93; (refine (HBR.out _ (by first | (with_reducible exact HA1.out) | (with_reducible exact HA2.out))).mono ?_); rintro e w2 ⟨rfl, hb2⟩; (first | (have hA : Below (wr.alloc (.cells #[.int .i64 0, .int .i64 0, .int .i64 0, .int .i64 0, .int .i64 0, .int .i64 0, .int .i64 0, .int .i64 0] 32)).drew.heap.size (wr.alloc (.cells #[.int .i64 0, .int .i64 0, .int .i64 0, .int .i64 0, .int .i64 0, .int .i64 0, .int .i64 0, .int .i64 0] 32)).drew w2 := (by with_reducible exact hb2); have NA := isS_to hA (IsS.new (w := wr) (s := ⟨0, 0, ⟨0, 0, 0, 0, 0, 0⟩⟩) (ty := 32)) rfl; obtain ⟨l2, ⟨c0, c1, c2, c3, c4, c5, c6, c7⟩, f0, f1, f2, f3, f4, f5, f6, f7⟩ := NA.all; obtain ⟨m0, ⟨x0, x1, x2, x3, x4, x5, x6, x7⟩, -⟩ := (isS_to hA (S.alloc (.cells #[.int .i64 0, .int .i64 0, .int .i64 0, .int .i64 0, .int .i64 0, .int .i64 0, .int .i64 0, .int .i64 0] 32)) rfl).all; obtain ⟨m1, ⟨y0, y1, y2⟩, -⟩ := (isG_to hA (G.alloc (.cells #[.int .i64 0, .int .i64 0, .int .i64 0, .int .i64 0, .int .i64 0, .int .i64 0, .int .i64 0, .int .i64 0] 32)) rfl).all) | (have hB : Below wr.drew.heap.size wr.drew w2 := (by with_reducible exact hb2); obtain ⟨m0, ⟨x0, x1, x2, x3, x4, x5, x6, x7⟩, -⟩ := (isS_to hB S rfl).all; obtain ⟨m1, ⟨y0, y1, y2⟩, -⟩ := (isG_to hB G rfl).all))))
        all_goals
          go_wp2_with fail
          go_meet
          refine ⟨_, rfl, rfl, ?_⟩
          first
            | (with_reducible exact (along_cutA (r := r) G S HO.out HAo.out q hA NA))
            | (with_reducible exact (along_cutB (r := r) G S HO.out HAo.out q hB))
      obtain ⟨bb, rfl, rfl, N2, G2, S2, O2, A2, q2⟩ := hcut
      clear a0 a1 a2 a3 a4 a5 a6 a7 l0 b0 b1 b2 l1 G S q HA1 HA2 HAo HO slq w1q HBR
      have HO2 := hide O2
      have HA2 := hide A2
      clear O2 A2
      cases b
      · have HST := hide (HSTOP.out rfl)
        clear HSTOP HCC HFL
        go_wp2
        go_returns
        exact ⟨gq, cq, by rw [HST.out]; rfl, by rw [HST.out, HXS.out]; exact own_mono HO2.out (by omega), q2⟩
      · have hr : r = rollT t d := by simpa using HRT.out
        have HR := hide hr
        have HF2 := hide (HFL.out rfl)
        have HC2 := hide (HCC.out rfl)
        clear HSTOP HCC HFL HRT hr
        obtain ⟨l2, ⟨n0, n1, n2, n3, n4, n5, n6, n7⟩, -⟩ := N2.all
        obtain ⟨l3, ⟨c0, c1, c2, c3, c4, c5, c6, c7⟩, f0, f1, f2, f3, f4, f5, f6, f7⟩ := S2.all
        go_upto_region 9 with (fail)
        have hb8 : Below (w.heap.size + 1) wc (((((((((wc.setCell ⟨(w.heap.size + 1), 0, none⟩ (.int .i64 r.x)).setCell ⟨(w.heap.size + 1), 1, none⟩ (.int .i64 r.y)).setCell ⟨(w.heap.size + 1), 2, none⟩ (.int .i64 r.d.t)).setCell ⟨(w.heap.size + 1), 3, none⟩ (.int .i64 r.d.n)).setCell ⟨(w.heap.size + 1), 4, none⟩ (.int .i64 r.d.e)).setCell ⟨(w.heap.size + 1), 5, none⟩ (.int .i64 r.d.s)).setCell ⟨(w.heap.size + 1), 6, none⟩ (.int .i64 r.d.w)).setCell ⟨(w.heap.size + 1), 7, none⟩ (.int .i64 r.d.b))) := below_set8 (Below.refl _ _) (Nat.le_refl _) r
        have S3 := S2.set8 r
        have G3 : IsG (((((((((wc.setCell ⟨(w.heap.size + 1), 0, none⟩ (.int .i64 r.x)).setCell ⟨(w.heap.size + 1), 1, none⟩ (.int .i64 r.y)).setCell ⟨(w.heap.size + 1), 2, none⟩ (.int .i64 r.d.t)).setCell ⟨(w.heap.size + 1), 3, none⟩ (.int .i64 r.d.n)).setCell ⟨(w.heap.size + 1), 4, none⟩ (.int .i64 r.d.e)).setCell ⟨(w.heap.size + 1), 5, none⟩ (.int .i64 r.d.s)).setCell ⟨(w.heap.size + 1), 6, none⟩ (.int .i64 r.d.w)).setCell ⟨(w.heap.size + 1), 7, none⟩ (.int .i64 r.d.b))) w.heap.size (W : Int) (Hh : Int) (.slice (some ⟨g, 0, none⟩) n cap) := (hb8.block w.heap.size (by omega)).trans G2
        have HO3 := hide (own_set8 (r := r) HO2.out (show w.heap.size + 1 < w.heap.size + 2 from by omega))
        have HA3 := hide (bytes_block HA2.out (hb8.block g (by omega)))
        have q3 := below_set8 q2 (show w.heap.size ≤ w.heap.size + 1 from by omega) r
        clear hb8 n0 n1 n2 n3 n4 n5 n6 n7 l2 c0 c1 c2 c3 c4 c5 c6 c7 f0 f1 f2 f3 f4 f5 f6 f7 l3 N2 G2 S2 HO2 HA2 q2
        generalize ((((((((wc.setCell ⟨(w.heap.size + 1), 0, none⟩ (.int .i64 r.x)).setCell ⟨(w.heap.size + 1), 1, none⟩ (.int .i64 r.y)).setCell ⟨(w.heap.size + 1), 2, none⟩ (.int .i64 r.d.t)).setCell ⟨(w.heap.size + 1), 3, none⟩ (.int .i64 r.d.n)).setCell ⟨(w.heap.size + 1), 4, none⟩ (.int .i64 r.d.e)).setCell ⟨(w.heap.size + 1), 5, none⟩ (.int .i64 r.d.s)).setCell ⟨(w.heap.size + 1), 6, none⟩ (.int .i64 r.d.w)).setCell ⟨(w.heap.size + 1), 7, none⟩ (.int .i64 r.d.b)) = W3 at S3 G3 HO3 HA3 q3 ⊢
        obtain ⟨l4, ⟨c0, c1, c2, c3, c4, c5, c6, c7⟩, -⟩ := S3.all
        go_wp2_with (at_builtin; refine wpList_append_own_at _ rfl _ _ 62 rfl (w.heap.size + 2) 32 i0 (.agg #[.int .i64 0, .int .i64 0, .int .i64 0, .int .i64 0, .int .i64 0, .int .i64 0, .int .i64 0, .int .i64 0]) 8 64 Tryd.underlying62 HI.out HZ0.out HZ1.out HZ2.out rfl (by decide) _ _ _ rfl (HO3.out.alloc _) ⟨W3.heap.size, 0, none⟩ 1 1 (scells r) rfl rfl ?c1 ?c2 ?c3 ?c4 ?c5 ?_)
        case c1 => exact scells_cell IsS.new
        case c2 => exact scells_one _
        case c3 => unfold maxLen; omega
        case c4 => omega
        case c5 => have := l4; simp; omega
        · intro v' w4 hown4 hg4 _ _
          have hbB := (Below.refl (w.heap.size + 2) _).grown hg4 (by have := l4; simp; omega) (fun k hk => (HO3.out.lt k hk).1)
          have G4 : IsG w4 w.heap.size (W : Int) (Hh : Int) (.slice (some ⟨g, 0, none⟩) n cap) := (hbB.block _ (by omega)).trans (G3.alloc _)
          have S4 : IsS w4 (w.heap.size + 1) r 32 := (hbB.block _ (by omega)).trans (S3.alloc _)
          have HA4 := hide (show BytesAt w4 g (splitP l).flatten from bytes_block (bytesAt_to ((Below.refl _ _).alloc (Nat.le_refl _) _) HA3.out rfl) (hbB.block g (by omega)))
          have q4 : Below w.heap.size w w4 := (q3.alloc q3.size _).grown hg4 (by have := q3.size; simp; omega) (fun k hk => by have := (HO3.out.lt k hk).1; omega)
          have HO4 := hide (show w4.ownsRow (w.heap.size + 2) 32 8 v' (k + 1 + 1) (cellsS (waysT s v.data.toList (k + 1))) from by
            rw [HW.out, cellsS_snoc, HXS.out, HS.out, ← HR.out]
            exact hown4)
          clear hown4 hg4 hbB S3 G3 HO3 HA3 q3 c0 c1 c2 c3 c4 c5 c6 c7 l4
          go_wp2
          go_roundw
          case rel =>
            refine ⟨k + 1, by omega, by go_num, HO4.out, G4, ?_, ?_, HC2.out, HA4.out, q4⟩
            · rw [HS.out, ← HR.out]
              exact S4
            · rw [HS.out]
              exact HF2.out
          case measure => simp [intOf] <;> omega
    · obtain rfl : k = v.size := by omega
      have HST := hide (stop_at l v.data.toList s v.size (by simp) C (fun c h => by rw [List.getElem?_eq_none (by simp)] at h; cases h))
      have HO := hide O
      clear O
      go_wp2
      go_returns
      exact ⟨gq, cq, by rw [HST.out]; rfl, by rw [HST.out]; exact own_mono HO.out (by omega), q⟩
end Go.Proofs.YtgehcjmhgfhkdaaDoor
