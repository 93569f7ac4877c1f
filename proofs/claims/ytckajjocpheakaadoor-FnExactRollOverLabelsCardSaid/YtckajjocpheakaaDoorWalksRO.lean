/- FnExactRollOverLabels's walk: the model's side, and the law. -/
import Derived.Test.YtckajjocpheakaaDoorWalksROI
namespace Go.Proofs.YtckajjocpheakaaDoor
set_option maxRecDepth 100000
set_option linter.all false
open Go.RowKit

theorem rl_cutA {w wr w2 : World} {b1 g n cap gl W H : Nat} {t r : St} {L1 L2 : List UInt8} (G : IsG wr b1 (W : Int) (H : Int) (.slice (some ⟨g, 0, none⟩) n cap)) (S : IsS wr w.heap.size t 30) (R : IsS wr (w.heap.size + 1) ⟨0, 0, ⟨0, 0, 0, 0, 0, 0⟩⟩ 30) (A : BytesAt wr g L1) (AL : BytesAt wr gl L2) (q : Below w.heap.size w wr)
    (hb : Below (wr.alloc (.cells #[.int .i64 0, .int .i64 0, .int .i64 0, .int .i64 0, .int .i64 0, .int .i64 0, .int .i64 0, .int .i64 0] 30)).drew.heap.size (wr.alloc (.cells #[.int .i64 0, .int .i64 0, .int .i64 0, .int .i64 0, .int .i64 0, .int .i64 0, .int .i64 0, .int .i64 0] 30)).drew w2) (N : IsS w2 wr.heap.size ⟨0, 0, ⟨0, 0, 0, 0, 0, 0⟩⟩ 30) : IsS ((((((((w2.setCell ⟨wr.heap.size, 0, none⟩ (.int .i64 r.x)).setCell ⟨wr.heap.size, 1, none⟩ (.int .i64 r.y)).setCell ⟨wr.heap.size, 2, none⟩ (.int .i64 r.d.t)).setCell ⟨wr.heap.size, 3, none⟩ (.int .i64 r.d.n)).setCell ⟨wr.heap.size, 4, none⟩ (.int .i64 r.d.e)).setCell ⟨wr.heap.size, 5, none⟩ (.int .i64 r.d.s)).setCell ⟨wr.heap.size, 6, none⟩ (.int .i64 r.d.w)).setCell ⟨wr.heap.size, 7, none⟩ (.int .i64 r.d.b)) wr.heap.size r 30 ∧ IsG ((((((((w2.setCell ⟨wr.heap.size, 0, none⟩ (.int .i64 r.x)).setCell ⟨wr.heap.size, 1, none⟩ (.int .i64 r.y)).setCell ⟨wr.heap.size, 2, none⟩ (.int .i64 r.d.t)).setCell ⟨wr.heap.size, 3, none⟩ (.int .i64 r.d.n)).setCell ⟨wr.heap.size, 4, none⟩ (.int .i64 r.d.e)).setCell ⟨wr.heap.size, 5, none⟩ (.int .i64 r.d.s)).setCell ⟨wr.heap.size, 6, none⟩ (.int .i64 r.d.w)).setCell ⟨wr.heap.size, 7, none⟩ (.int .i64 r.d.b)) b1 (W : Int) (H : Int) (.slice (some ⟨g, 0, none⟩) n cap) ∧ IsS ((((((((w2.setCell ⟨wr.heap.size, 0, none⟩ (.int .i64 r.x)).setCell ⟨wr.heap.size, 1, none⟩ (.int .i64 r.y)).setCell ⟨wr.heap.size, 2, none⟩ (.int .i64 r.d.t)).setCell ⟨wr.heap.size, 3, none⟩ (.int .i64 r.d.n)).setCell ⟨wr.heap.size, 4, none⟩ (.int .i64 r.d.e)).setCell ⟨wr.heap.size, 5, none⟩ (.int .i64 r.d.s)).setCell ⟨wr.heap.size, 6, none⟩ (.int .i64 r.d.w)).setCell ⟨wr.heap.size, 7, none⟩ (.int .i64 r.d.b)) w.heap.size t 30 ∧ IsS ((((((((w2.setCell ⟨wr.heap.size, 0, none⟩ (.int .i64 r.x)).setCell ⟨wr.heap.size, 1, none⟩ (.int .i64 r.y)).setCell ⟨wr.heap.size, 2, none⟩ (.int .i64 r.d.t)).setCell ⟨wr.heap.size, 3, none⟩ (.int .i64 r.d.n)).setCell ⟨wr.heap.size, 4, none⟩ (.int .i64 r.d.e)).setCell ⟨wr.heap.size, 5, none⟩ (.int .i64 r.d.s)).setCell ⟨wr.heap.size, 6, none⟩ (.int .i64 r.d.w)).setCell ⟨wr.heap.size, 7, none⟩ (.int .i64 r.d.b)) (w.heap.size + 1) ⟨0, 0, ⟨0, 0, 0, 0, 0, 0⟩⟩ 30 ∧ BytesAt ((((((((w2.setCell ⟨wr.heap.size, 0, none⟩ (.int .i64 r.x)).setCell ⟨wr.heap.size, 1, none⟩ (.int .i64 r.y)).setCell ⟨wr.heap.size, 2, none⟩ (.int .i64 r.d.t)).setCell ⟨wr.heap.size, 3, none⟩ (.int .i64 r.d.n)).setCell ⟨wr.heap.size, 4, none⟩ (.int .i64 r.d.e)).setCell ⟨wr.heap.size, 5, none⟩ (.int .i64 r.d.s)).setCell ⟨wr.heap.size, 6, none⟩ (.int .i64 r.d.w)).setCell ⟨wr.heap.size, 7, none⟩ (.int .i64 r.d.b)) g L1 ∧ BytesAt ((((((((w2.setCell ⟨wr.heap.size, 0, none⟩ (.int .i64 r.x)).setCell ⟨wr.heap.size, 1, none⟩ (.int .i64 r.y)).setCell ⟨wr.heap.size, 2, none⟩ (.int .i64 r.d.t)).setCell ⟨wr.heap.size, 3, none⟩ (.int .i64 r.d.n)).setCell ⟨wr.heap.size, 4, none⟩ (.int .i64 r.d.e)).setCell ⟨wr.heap.size, 5, none⟩ (.int .i64 r.d.s)).setCell ⟨wr.heap.size, 6, none⟩ (.int .i64 r.d.w)).setCell ⟨wr.heap.size, 7, none⟩ (.int .i64 r.d.b)) gl L2 ∧ Below w.heap.size w ((((((((w2.setCell ⟨wr.heap.size, 0, none⟩ (.int .i64 r.x)).setCell ⟨wr.heap.size, 1, none⟩ (.int .i64 r.y)).setCell ⟨wr.heap.size, 2, none⟩ (.int .i64 r.d.t)).setCell ⟨wr.heap.size, 3, none⟩ (.int .i64 r.d.n)).setCell ⟨wr.heap.size, 4, none⟩ (.int .i64 r.d.e)).setCell ⟨wr.heap.size, 5, none⟩ (.int .i64 r.d.s)).setCell ⟨wr.heap.size, 6, none⟩ (.int .i64 r.d.w)).setCell ⟨wr.heap.size, 7, none⟩ (.int .i64 r.d.b)) := by
  have q2 : Below w.heap.size w w2 := below_to hb (q.alloc q.size _) (by have := q.size; simp; omega) rfl rfl rfl rfl
  have hb8 : Below wr.heap.size wr ((((((((w2.setCell ⟨wr.heap.size, 0, none⟩ (.int .i64 r.x)).setCell ⟨wr.heap.size, 1, none⟩ (.int .i64 r.y)).setCell ⟨wr.heap.size, 2, none⟩ (.int .i64 r.d.t)).setCell ⟨wr.heap.size, 3, none⟩ (.int .i64 r.d.n)).setCell ⟨wr.heap.size, 4, none⟩ (.int .i64 r.d.e)).setCell ⟨wr.heap.size, 5, none⟩ (.int .i64 r.d.s)).setCell ⟨wr.heap.size, 6, none⟩ (.int .i64 r.d.w)).setCell ⟨wr.heap.size, 7, none⟩ (.int .i64 r.d.b)) := below_set8 (below_to hb ((Below.refl wr.heap.size wr).alloc (Nat.le_refl _) (.cells #[.int .i64 0, .int .i64 0, .int .i64 0, .int .i64 0, .int .i64 0, .int .i64 0, .int .i64 0, .int .i64 0] 30)) (by simp) rfl rfl rfl rfl) (Nat.le_refl _) r
  exact ⟨N.set8 r, isG_to hb8 G rfl, isS_to hb8 S rfl, isS_to hb8 R rfl, bytesAt_to hb8 A rfl, bytesAt_to hb8 AL rfl, below_set8 q2 q.size r⟩
theorem rl_cutB {w wr w2 : World} {b1 g n cap gl W H : Nat} {t r : St} {L1 L2 : List UInt8} (G : IsG wr b1 (W : Int) (H : Int) (.slice (some ⟨g, 0, none⟩) n cap)) (S : IsS wr w.heap.size t 30) (R : IsS wr (w.heap.size + 1) ⟨0, 0, ⟨0, 0, 0, 0, 0, 0⟩⟩ 30) (A : BytesAt wr g L1) (AL : BytesAt wr gl L2) (q : Below w.heap.size w wr)
    (hb : Below wr.drew.heap.size wr.drew w2) : IsS (w2.alloc (.cells #[.int .i64 r.x, .int .i64 r.y, .int .i64 r.d.t, .int .i64 r.d.n, .int .i64 r.d.e, .int .i64 r.d.s, .int .i64 r.d.w, .int .i64 r.d.b] 30)) w2.heap.size r 30 ∧ IsG (w2.alloc (.cells #[.int .i64 r.x, .int .i64 r.y, .int .i64 r.d.t, .int .i64 r.d.n, .int .i64 r.d.e, .int .i64 r.d.s, .int .i64 r.d.w, .int .i64 r.d.b] 30)) b1 (W : Int) (H : Int) (.slice (some ⟨g, 0, none⟩) n cap) ∧ IsS (w2.alloc (.cells #[.int .i64 r.x, .int .i64 r.y, .int .i64 r.d.t, .int .i64 r.d.n, .int .i64 r.d.e, .int .i64 r.d.s, .int .i64 r.d.w, .int .i64 r.d.b] 30)) w.heap.size t 30 ∧ IsS (w2.alloc (.cells #[.int .i64 r.x, .int .i64 r.y, .int .i64 r.d.t, .int .i64 r.d.n, .int .i64 r.d.e, .int .i64 r.d.s, .int .i64 r.d.w, .int .i64 r.d.b] 30)) (w.heap.size + 1) ⟨0, 0, ⟨0, 0, 0, 0, 0, 0⟩⟩ 30 ∧ BytesAt (w2.alloc (.cells #[.int .i64 r.x, .int .i64 r.y, .int .i64 r.d.t, .int .i64 r.d.n, .int .i64 r.d.e, .int .i64 r.d.s, .int .i64 r.d.w, .int .i64 r.d.b] 30)) g L1 ∧ BytesAt (w2.alloc (.cells #[.int .i64 r.x, .int .i64 r.y, .int .i64 r.d.t, .int .i64 r.d.n, .int .i64 r.d.e, .int .i64 r.d.s, .int .i64 r.d.w, .int .i64 r.d.b] 30)) gl L2 ∧ Below w.heap.size w (w2.alloc (.cells #[.int .i64 r.x, .int .i64 r.y, .int .i64 r.d.t, .int .i64 r.d.n, .int .i64 r.d.e, .int .i64 r.d.s, .int .i64 r.d.w, .int .i64 r.d.b] 30)) := by
  have q2 : Below w.heap.size w w2 := below_to hb q q.size rfl rfl rfl rfl
  exact ⟨IsS.new, (isG_to hb G rfl).alloc _, (isS_to hb S rfl).alloc _, (isS_to hb R rfl).alloc _, (bytesAt_to hb A rfl).allocP _, (bytesAt_to hb AL rfl).allocP _, q2.alloc q2.size _⟩
theorem s_other8 {w : World} {b c : Nat} {s : St} {ty : TypeId} (h : IsS w b s ty) (hne : b ≠ c) (r : St) : IsS ((((((((w.setCell ⟨c, 0, none⟩ (.int .i64 r.x)).setCell ⟨c, 1, none⟩ (.int .i64 r.y)).setCell ⟨c, 2, none⟩ (.int .i64 r.d.t)).setCell ⟨c, 3, none⟩ (.int .i64 r.d.n)).setCell ⟨c, 4, none⟩ (.int .i64 r.d.e)).setCell ⟨c, 5, none⟩ (.int .i64 r.d.s)).setCell ⟨c, 6, none⟩ (.int .i64 r.d.w)).setCell ⟨c, 7, none⟩ (.int .i64 r.d.b)) b s ty := (((((((h.other (p := ⟨c, 0, none⟩) hne _).other (p := ⟨c, 1, none⟩) hne _).other (p := ⟨c, 2, none⟩) hne _).other (p := ⟨c, 3, none⟩) hne _).other (p := ⟨c, 4, none⟩) hne _).other (p := ⟨c, 5, none⟩) hne _).other (p := ⟨c, 6, none⟩) hne _).other (p := ⟨c, 7, none⟩) hne _
theorem g_other8 {w : World} {b c : Nat} {x y : Int} {v : Value} (h : IsG w b x y v) (hne : b ≠ c) (r : St) : IsG ((((((((w.setCell ⟨c, 0, none⟩ (.int .i64 r.x)).setCell ⟨c, 1, none⟩ (.int .i64 r.y)).setCell ⟨c, 2, none⟩ (.int .i64 r.d.t)).setCell ⟨c, 3, none⟩ (.int .i64 r.d.n)).setCell ⟨c, 4, none⟩ (.int .i64 r.d.e)).setCell ⟨c, 5, none⟩ (.int .i64 r.d.s)).setCell ⟨c, 6, none⟩ (.int .i64 r.d.w)).setCell ⟨c, 7, none⟩ (.int .i64 r.d.b)) b x y v := (((((((h.other (p := ⟨c, 0, none⟩) hne _).other (p := ⟨c, 1, none⟩) hne _).other (p := ⟨c, 2, none⟩) hne _).other (p := ⟨c, 3, none⟩) hne _).other (p := ⟨c, 4, none⟩) hne _).other (p := ⟨c, 5, none⟩) hne _).other (p := ⟨c, 6, none⟩) hne _).other (p := ⟨c, 7, none⟩) hne _
theorem b_other8 {w : World} {b c : Nat} {L : List UInt8} (h : BytesAt w b L) (hne : b ≠ c) (r : St) : BytesAt ((((((((w.setCell ⟨c, 0, none⟩ (.int .i64 r.x)).setCell ⟨c, 1, none⟩ (.int .i64 r.y)).setCell ⟨c, 2, none⟩ (.int .i64 r.d.t)).setCell ⟨c, 3, none⟩ (.int .i64 r.d.n)).setCell ⟨c, 4, none⟩ (.int .i64 r.d.e)).setCell ⟨c, 5, none⟩ (.int .i64 r.d.s)).setCell ⟨c, 6, none⟩ (.int .i64 r.d.w)).setCell ⟨c, 7, none⟩ (.int .i64 r.d.b)) b L := (((((((h.other (p := ⟨c, 0, none⟩) hne _).other (p := ⟨c, 1, none⟩) hne _).other (p := ⟨c, 2, none⟩) hne _).other (p := ⟨c, 3, none⟩) hne _).other (p := ⟨c, 4, none⟩) hne _).other (p := ⟨c, 5, none⟩) hne _).other (p := ⟨c, 6, none⟩) hne _).other (p := ⟨c, 7, none⟩) hne _
theorem g_ne_s {w : World} {b c : Nat} {x y : Int} {v : Value} {s : St} (h : IsG w b x y v) (h2 : IsS w c s 30) : b ≠ c := by
  rintro rfl
  unfold IsG at h
  unfold IsS at h2
  rw [h2] at h
  injection h with h
  injection h with _ h3
  exact absurd h3 (by decide)
theorem b_ne_s {w : World} {b c : Nat} {L : List UInt8} {s : St} (h : BytesAt w b L) (h2 : IsS w c s 30) : b ≠ c := by
  rintro rfl
  obtain ⟨cur, h1, _⟩ := h
  unfold IsS at h2
  rw [h1] at h2
  injection h2 with h2
  injection h2 with _ h3
  exact absurd h3 (by decide)

/-- What prRoll hands back: the state rolled, or the zero state. -/
def rlT (l : List UInt8) (s : St) (k : Int) : St := if hitAt l (rollT s k) = true then rollT s k else ⟨0, 0, ⟨0, 0, 0, 0, 0, 0⟩⟩
theorem prRoll_any (l : List UInt8) (W H n g cap gl capl : Nat) (hg : GridOk (unlab l) W H n) (s : St) (k : Int) (w : World) (hA : BytesAt w g (splitP (unlab l)).flatten) (hAL : BytesAt w gl (splitP l).flatten) (hx : -100000 ≤ s.x ∧ s.x ≤ 100000) (hy : -100000 ≤ s.y ∧ s.y ≤ 100000) (h0 : 0 ≤ (rollT s k).d.t) (h9 : (rollT s k).d.t ≤ 9) :
    Calls Tryd.prog 60 #[gridV W H n g cap, .slice (some ⟨gl, 0, none⟩) n capl, St.v s, .int .i64 k] w fun e w' => e = .returned (.tuple #[St.v (rlT l s k), .bool (hitAt l (rollT s k))]) ∧ Below w.heap.size w w' := by
  cases h : hitAt l (rollT s k)
  · unfold rlT
    rw [h, if_neg (by decide)]
    exact prRoll_no l W H n g cap gl capl hg s k w hA hAL hx hy h
  · unfold rlT
    rw [h, if_pos rfl]
    exact prRoll_yes l W H n g cap gl capl hg s k w hA hAL hx hy h0 h9 h
theorem below1 {w w1 : World} {o1 o2 : Obj} (hb : Below ((w.alloc o1).alloc o2).heap.size ((w.alloc o1).alloc o2) w1) : Below w.heap.size w w1 := below_after (w0 := (w.alloc o1).alloc o2) (by go_grown) hb (by simp; omega)
set_option maxHeartbeats 1600000 in
theorem specRO_bad (s : ByteArray) (t : St) (v : ByteArray) (w : World) (h : isLab s.data.toList = false) : Calls Tryd.prog 30 #[.string s, St.v t, .string v] w fun e w' => e = .returned (.tuple #[St.v ⟨0, 0, ⟨0, 0, 0, 0, 0, 0⟩⟩, .bool false]) ∧ Below w.heap.size w w' := by
  have HH := hide h
  clear h
  go_enter Tryd.func30, Tryd.ntmps30
  go_wp2_with fail
  refine (prAsked_bad s t _ HH.out).mono ?_
  rintro e w1 ⟨lv, rfl, hb1⟩
  have R1 := (isS_to hb1 (IsS.new2 (w := w) (o := (.cells #[.int .i64 t.x, .int .i64 t.y, .int .i64 t.d.t, .int .i64 t.d.n, .int .i64 t.d.e, .int .i64 t.d.s, .int .i64 t.d.w, .int .i64 t.d.b] 30)) (s := ⟨0, 0, ⟨0, 0, 0, 0, 0, 0⟩⟩) (ty := 30)) rfl).alloc (.cells #[.int .i64 0, .int .i64 0, .slice none 0 0] 44)
  have q1 := below1 hb1
  have q2 := q1.alloc q1.size (.cells #[.int .i64 0, .int .i64 0, .slice none 0 0] 44)
  clear hb1 q1
  go_upto_region 2 with (fail)
  generalize w1.alloc (.cells #[.int .i64 0, .int .i64 0, .slice none 0 0] 44) = w2 at R1 q2 ⊢
  obtain ⟨l4, ⟨c0, c1, c2, c3, c4, c5, c6, c7⟩, f0, f1, f2, f3, f4, f5, f6, f7⟩ := R1.all
  go_wp2
  refine bodyPost_ret (ret_state2 Tryd.results30 rfl rfl (R1.set8 ⟨0, 0, ⟨0, 0, 0, 0, 0, 0⟩⟩)) rfl ⟨rfl, ?_⟩
  exact below_set8 q2 (show w.heap.size ≤ w.heap.size + 1 from by omega) ⟨0, 0, ⟨0, 0, 0, 0, 0, 0⟩⟩
set_option maxHeartbeats 1600000 in
theorem specRO_off (s : ByteArray) (t : St) (v : ByteArray) (w : World) (h : isLab s.data.toList = true) (h2 : stL (unlab s.data.toList) t = false) : Calls Tryd.prog 30 #[.string s, St.v t, .string v] w fun e w' => e = .returned (.tuple #[St.v ⟨0, 0, ⟨0, 0, 0, 0, 0, 0⟩⟩, .bool false]) ∧ Below w.heap.size w w' := by
  have HH := hide h
  have H2 := hide h2
  clear h h2
  go_enter Tryd.func30, Tryd.ntmps30
  go_wp2_with fail
  refine (prAsked_in s t _ HH.out).mono ?_
  rintro e w1 ⟨W, H, n, g, cap, gl, capl, hG, rfl, hA, hcp, hAL, hb1⟩
  rw [H2.out]
  have R1 := (isS_to hb1 (IsS.new2 (w := w) (o := (.cells #[.int .i64 t.x, .int .i64 t.y, .int .i64 t.d.t, .int .i64 t.d.n, .int .i64 t.d.e, .int .i64 t.d.s, .int .i64 t.d.w, .int .i64 t.d.b] 30)) (s := ⟨0, 0, ⟨0, 0, 0, 0, 0, 0⟩⟩) (ty := 30)) rfl).alloc (.cells #[.int .i64 (W : Int), .int .i64 (H : Int), .slice (some ⟨g, 0, none⟩) n cap] 44)
  have q1 := below1 hb1
  have q2 := q1.alloc q1.size (.cells #[.int .i64 (W : Int), .int .i64 (H : Int), .slice (some ⟨g, 0, none⟩) n cap] 44)
  clear hb1 q1 hA hcp hAL hG
  go_upto_region 2 with (fail)
  generalize w1.alloc (.cells #[.int .i64 (W : Int), .int .i64 (H : Int), .slice (some ⟨g, 0, none⟩) n cap] 44) = w2 at R1 q2 ⊢
  obtain ⟨l4, ⟨c0, c1, c2, c3, c4, c5, c6, c7⟩, f0, f1, f2, f3, f4, f5, f6, f7⟩ := R1.all
  go_wp2
  refine bodyPost_ret (ret_state2 Tryd.results30 rfl rfl (R1.set8 ⟨0, 0, ⟨0, 0, 0, 0, 0, 0⟩⟩)) rfl ⟨rfl, ?_⟩
  exact below_set8 q2 (show w.heap.size ≤ w.heap.size + 1 from by omega) ⟨0, 0, ⟨0, 0, 0, 0, 0, 0⟩⟩
set_option maxHeartbeats 1600000 in
theorem specRO_word (s : ByteArray) (t : St) (v : ByteArray) (w : World) (hv : v.size ≤ maxLen) (h : isLab s.data.toList = true) (h2 : stL (unlab s.data.toList) t = true) (h3 : isWord v.data.toList = false) : Calls Tryd.prog 30 #[.string s, St.v t, .string v] w fun e w' => e = .returned (.tuple #[St.v ⟨0, 0, ⟨0, 0, 0, 0, 0, 0⟩⟩, .bool false]) ∧ Below w.heap.size w w' := by
  have HH := hide h
  have H2 := hide h2
  have H3 := hide h3
  clear h h2 h3
  go_enter Tryd.func30, Tryd.ntmps30
  go_wp2_with fail
  refine (prAsked_in s t _ HH.out).mono ?_
  rintro e w1 ⟨W, H, n, g, cap, gl, capl, hG, rfl, hA, hcp, hAL, hb1⟩
  rw [H2.out]
  have R1 := (isS_to hb1 (IsS.new2 (w := w) (o := (.cells #[.int .i64 t.x, .int .i64 t.y, .int .i64 t.d.t, .int .i64 t.d.n, .int .i64 t.d.e, .int .i64 t.d.s, .int .i64 t.d.w, .int .i64 t.d.b] 30)) (s := ⟨0, 0, ⟨0, 0, 0, 0, 0, 0⟩⟩) (ty := 30)) rfl).alloc (.cells #[.int .i64 (W : Int), .int .i64 (H : Int), .slice (some ⟨g, 0, none⟩) n cap] 44)
  have q1 := below1 hb1
  have q2 := q1.alloc q1.size (.cells #[.int .i64 (W : Int), .int .i64 (H : Int), .slice (some ⟨g, 0, none⟩) n cap] 44)
  clear hb1 q1 hA hcp hAL hG
  go_upto_region 2 with (fail)
  generalize w1.heap.size = b1
  generalize w1.alloc (.cells #[.int .i64 (W : Int), .int .i64 (H : Int), .slice (some ⟨g, 0, none⟩) n cap] 44) = w2 at R1 q2 ⊢
  obtain ⟨l4, ⟨c0, c1, c2, c3, c4, c5, c6, c7⟩, f0, f1, f2, f3, f4, f5, f6, f7⟩ := R1.all
  go_wp2_with (go_at_call 62; refine (diWord_any v _ hv).mono ?_; rintro e w' ⟨rfl, rfl⟩; rw [H3.out])
  refine bodyPost_ret (ret_state2 Tryd.results30 rfl rfl (R1.set8 ⟨0, 0, ⟨0, 0, 0, 0, 0, 0⟩⟩)) rfl ⟨rfl, ?_⟩
  exact below_set8 q2 (show w.heap.size ≤ w.heap.size + 1 from by omega) ⟨0, 0, ⟨0, 0, 0, 0, 0, 0⟩⟩
set_option maxHeartbeats 1600000 in
theorem specRO_miss (s : ByteArray) (t : St) (v : ByteArray) (w : World) (hv : v.size ≤ maxLen) (h : isLab s.data.toList = true) (h2 : stL (unlab s.data.toList) t = true) (h3 : isWord v.data.toList = true) (h4 : hitAt s.data.toList t = false) : Calls Tryd.prog 30 #[.string s, St.v t, .string v] w fun e w' => e = .returned (.tuple #[St.v ⟨0, 0, ⟨0, 0, 0, 0, 0, 0⟩⟩, .bool false]) ∧ Below w.heap.size w w' := by
  have HH := hide h
  have H2 := hide h2
  have H3 := hide h3
  have H4 := hide (show hitB (cellI (splitP s.data.toList) t.x t.y) t.d.t = false from h4)
  have HF := hide (st_floor h2).1
  clear h h2 h3 h4
  go_enter Tryd.func30, Tryd.ntmps30
  go_wp2_with fail
  refine (prAsked_in s t _ HH.out).mono ?_
  rintro e w1 ⟨W, H, n, g, cap, gl, capl, hG, rfl, hA, hcp, hAL, hb1⟩
  rw [H2.out]
  have S2 := (isS_to hb1 ((IsS.new (w := w) (s := t) (ty := 30)).alloc (.cells #[.int .i64 0, .int .i64 0, .int .i64 0, .int .i64 0, .int .i64 0, .int .i64 0, .int .i64 0, .int .i64 0] 30)) rfl).alloc (.cells #[.int .i64 (W : Int), .int .i64 (H : Int), .slice (some ⟨g, 0, none⟩) n cap] 44)
  have R2 := (isS_to hb1 (IsS.new2 (w := w) (o := (.cells #[.int .i64 t.x, .int .i64 t.y, .int .i64 t.d.t, .int .i64 t.d.n, .int .i64 t.d.e, .int .i64 t.d.s, .int .i64 t.d.w, .int .i64 t.d.b] 30)) (s := ⟨0, 0, ⟨0, 0, 0, 0, 0, 0⟩⟩) (ty := 30)) rfl).alloc (.cells #[.int .i64 (W : Int), .int .i64 (H : Int), .slice (some ⟨g, 0, none⟩) n cap] 44)
  have G2 := IsG.new (w := w1) (x := (W : Int)) (y := (H : Int)) (v := .slice (some ⟨g, 0, none⟩) n cap)
  have q1 := below1 hb1
  have q2 := q1.alloc q1.size (.cells #[.int .i64 (W : Int), .int .i64 (H : Int), .slice (some ⟨g, 0, none⟩) n cap] 44)
  have HA := hide (hA.allocP (.cells #[.int .i64 (W : Int), .int .i64 (H : Int), .slice (some ⟨g, 0, none⟩) n cap] 44))
  have HAL := hide (hAL.allocP (.cells #[.int .i64 (W : Int), .int .i64 (H : Int), .slice (some ⟨g, 0, none⟩) n cap] 44))
  have HGR := hide hG
  clear hb1 q1 hA hcp hAL hG
  go_upto_region 2 with (fail)
  generalize w1.heap.size = b1 at G2 ⊢
  generalize w1.alloc (.cells #[.int .i64 (W : Int), .int .i64 (H : Int), .slice (some ⟨g, 0, none⟩) n cap] 44) = w2 at S2 R2 G2 q2 HA HAL ⊢
  obtain ⟨l0, ⟨a0, a1, a2, a3, a4, a5, a6, a7⟩, -⟩ := S2.all
  obtain ⟨l1, ⟨b0, b1', b2⟩, -⟩ := G2.all
  go_wp2_with fail
  refine (diWord_any v _ hv).mono ?_
  rintro e w' ⟨rfl, rfl⟩
  rw [H3.out]
  go_wp2_with fail
  refine (prMatch_any s.data.toList W H n g cap gl capl HGR.out t HF.out _ HAL.out).mono ?_
  rintro e w3 ⟨rfl, hb3⟩
  have R3 := isS_to hb3 R2 rfl
  have q3 := below_to hb3 q2 q2.size rfl rfl rfl rfl
  clear a0 a1 a2 a3 a4 a5 a6 a7 l0 b0 b1' b2 l1
  rw [H4.out]
  obtain ⟨l4, ⟨c0, c1, c2, c3, c4, c5, c6, c7⟩, f0, f1, f2, f3, f4, f5, f6, f7⟩ := R3.all
  go_wp2
  refine bodyPost_ret (ret_state2 Tryd.results30 rfl rfl (R3.set8 ⟨0, 0, ⟨0, 0, 0, 0, 0, 0⟩⟩)) rfl ⟨rfl, ?_⟩
  exact below_set8 q3 (show w.heap.size ≤ w.heap.size + 1 from by omega) ⟨0, 0, ⟨0, 0, 0, 0, 0, 0⟩⟩
set_option maxHeartbeats 16000000 in
theorem specRO_on (s : ByteArray) (t : St) (v : ByteArray) (w : World) (hv : v.size ≤ maxLen) (h : isLab s.data.toList = true) (h2 : stL (unlab s.data.toList) t = true) (h3 : isWord v.data.toList = true) (h4 : hitAt s.data.toList t = true) : Calls Tryd.prog 30 #[.string s, St.v t, .string v] w fun e w' => e = .returned (.tuple #[St.v (rlV s.data.toList t v.data.toList), .bool (rlB s.data.toList t v.data.toList)]) ∧ Below w.heap.size w w' := by
  have HH := hide h
  have H2 := hide h2
  have H3 := hide h3
  have H4 := hide (show hitB (cellI (splitP s.data.toList) t.x t.y) t.d.t = true from h4)
  have HF := hide (st_floor h2).1
  have hgd := (st_floor h2).2
  have hl : v.data.toList.length = v.size := by simp
  have hlen : v.size ≤ 60 := by have := isWord_len h3; simpa using this
  have HEQ := hide (show rlB s.data.toList t v.data.toList = hitsT s.data.toList t v.data.toList (v.size + 1) from by unfold rlB; rw [onL_eq h, h2, h3, hl]; rfl)
  have HV := hide (show rlB s.data.toList t v.data.toList = true → rlV s.data.toList t v.data.toList = atT t v.data.toList v.size from fun h => by rw [rl_yes h, hl])
  have HT := hide (show ∀ j, 0 ≤ (atT t v.data.toList j).d.t ∧ (atT t v.data.toList j).d.t ≤ 9 from fun j => good_top (way_good v.data.toList j hgd))
  have HS0 := hide (show hitsT s.data.toList t v.data.toList 1 = true from by rw [hitsT, hitsT, Bool.true_and]; exact h4)
  clear h h2 h3 h4 hgd
  go_enter Tryd.func30, Tryd.ntmps30
  go_wp2_with fail
  refine (prAsked_in s t _ HH.out).mono ?_
  rintro e w1 ⟨W, H, n, g, cap, gl, capl, hG, rfl, hA, hcp, hAL, hb1⟩
  rw [H2.out]
  have hbd := hide hG.1
  have S2 := (isS_to hb1 ((IsS.new (w := w) (s := t) (ty := 30)).alloc (.cells #[.int .i64 0, .int .i64 0, .int .i64 0, .int .i64 0, .int .i64 0, .int .i64 0, .int .i64 0, .int .i64 0] 30)) rfl).alloc (.cells #[.int .i64 (W : Int), .int .i64 (H : Int), .slice (some ⟨g, 0, none⟩) n cap] 44)
  have R2 := (isS_to hb1 (IsS.new2 (w := w) (o := (.cells #[.int .i64 t.x, .int .i64 t.y, .int .i64 t.d.t, .int .i64 t.d.n, .int .i64 t.d.e, .int .i64 t.d.s, .int .i64 t.d.w, .int .i64 t.d.b] 30)) (s := ⟨0, 0, ⟨0, 0, 0, 0, 0, 0⟩⟩) (ty := 30)) rfl).alloc (.cells #[.int .i64 (W : Int), .int .i64 (H : Int), .slice (some ⟨g, 0, none⟩) n cap] 44)
  have G2 := IsG.new (w := w1) (x := (W : Int)) (y := (H : Int)) (v := .slice (some ⟨g, 0, none⟩) n cap)
  have q1 := below1 hb1
  have q2 := q1.alloc q1.size (.cells #[.int .i64 (W : Int), .int .i64 (H : Int), .slice (some ⟨g, 0, none⟩) n cap] 44)
  have HA := hide (hA.allocP (.cells #[.int .i64 (W : Int), .int .i64 (H : Int), .slice (some ⟨g, 0, none⟩) n cap] 44))
  have HAL := hide (hAL.allocP (.cells #[.int .i64 (W : Int), .int .i64 (H : Int), .slice (some ⟨g, 0, none⟩) n cap] 44))
  have HGR := hide hG
  clear hb1 q1 hA hcp hAL hG
  go_upto_region 2 with (fail)
  generalize w1.heap.size = b1 at G2 ⊢
  generalize w1.alloc (.cells #[.int .i64 (W : Int), .int .i64 (H : Int), .slice (some ⟨g, 0, none⟩) n cap] 44) = w2 at S2 R2 G2 q2 HA HAL ⊢
  obtain ⟨l0, ⟨a0, a1, a2, a3, a4, a5, a6, a7⟩, -⟩ := S2.all
  obtain ⟨l1, ⟨b0, b1', b2⟩, -⟩ := G2.all
  go_wp2_with fail
  refine (diWord_any v _ hv).mono ?_
  rintro e w' ⟨rfl, rfl⟩
  rw [H3.out]
  go_wp2_with fail
  refine (prMatch_any s.data.toList W H n g cap gl capl HGR.out t HF.out _ HAL.out).mono ?_
  rintro e w3 ⟨rfl, hb3⟩
  have R3 := isS_to hb3 R2 rfl
  have q3 := below_to hb3 q2 q2.size rfl rfl rfl rfl
  clear a0 a1 a2 a3 a4 a5 a6 a7 l0 b0 b1' b2 l1
  rw [H4.out]
  have S3 := hide (isS_to hb3 S2 rfl)
  have G3 := hide (isG_to hb3 G2 rfl)
  have A3 := hide (bytesAt_to hb3 HA.out rfl)
  have AL3 := hide (bytesAt_to hb3 HAL.out rfl)
  have HR3 := hide R3
  clear hb3 R3
  go_wp2
  go_loopw [11] (fun i wr => ∃ k : Nat, k ≤ v.size ∧ i = .int .i64 (k : Int) ∧ IsS wr w.heap.size (atT t v.data.toList k) 30 ∧ IsS wr (w.heap.size + 1) ⟨0, 0, ⟨0, 0, 0, 0, 0, 0⟩⟩ 30 ∧ IsG wr b1 (W : Int) (H : Int) (.slice (some ⟨g, 0, none⟩) n cap) ∧ BytesAt wr g (splitP (unlab s.data.toList)).flatten ∧ BytesAt wr gl (splitP s.data.toList).flatten ∧ hitsT s.data.toList t v.data.toList (k + 1) = true ∧ Below w.heap.size w wr) (fun i _ => v.size - (intOf i).toNat)
  case atStart => exact ⟨0, Nat.zero_le _, rfl, S3.out, HR3.out, G3.out, A3.out, AL3.out, HS0.out, q3⟩
  case round =>
    obtain ⟨k, hk, rfl, S, R, G, A, AL, hok, q⟩ := hrel
    clear S3 HR3 G3 A3 AL3 q3
    by_cases hlt : k < v.size
    · have hc : v.data.toList[k]? = some v[k] := by rw [List.getElem?_eq_getElem (by simpa using hlt)]; rfl
      have HSU := hide (atT_succ t v.data.toList k v[k] hc)
      have D1 := hide (dirS_one v k hlt)
      have hT1 := HT.out (k + 1)
      rw [HSU.out] at hT1
      have hfl := hit_floor (HT.out k).1 (HT.out k).2 (hitsT_all _ _ _ _ hok k (by omega))
      obtain ⟨hx, hy⟩ := floor_near hbd.out hfl
      have HKS := hide (show hitsT s.data.toList t v.data.toList (k + 1 + 1) = (hitsT s.data.toList t v.data.toList (k + 1) && hitAt s.data.toList (atT t v.data.toList (k + 1))) from rfl)
      rw [hok, Bool.true_and, HSU.out] at HKS
      have HNO := hide (show hitsT s.data.toList t v.data.toList (k + 1 + 1) = false → rlB s.data.toList t v.data.toList = false from fun h => by rw [HEQ.out]; exact hitsT_mono _ _ _ _ (k + 1 + 1) (by omega) h)
      clear hok hfl
      generalize ht : atT t v.data.toList k = u at S HSU HKS hT1 hx hy
      generalize hd : dirIx v[k].toNat = d at HSU D1 HKS hT1
      have HBR := hide (fun (wx : World) (hAx : BytesAt wx g (splitP (unlab s.data.toList)).flatten) (hALx : BytesAt wx gl (splitP s.data.toList).flatten) => prRoll_any s.data.toList W H n g cap gl capl HGR.out u d wx hAx hALx hx hy hT1.1 hT1.2)
      have HRT := hide (show rlT s.data.toList u d = (if hitAt s.data.toList (rollT u d) = true then rollT u d else ⟨0, 0, ⟨0, 0, 0, 0, 0, 0⟩⟩) from rfl)
      generalize rlT s.data.toList u d = r at HBR HRT
      generalize hitAt s.data.toList (rollT u d) = b at HBR HRT HKS
      have slq : ∀ wx : World, (Instr.slice 9 (.string v) (some (.int .i64 (k : Int))) (some (.int .i64 ((k : Int) + 1))) none).run Tryd.prog wx = .ok (.string (v.extract k (k + 1))) wx := fun wx => by
        have := run_slice_string (P := Tryd.prog) (w := wx) 9 v .i64 .i64 (k : Int) ((k : Int) + 1) Tryd.underlying9 (by omega) (by omega) (by omega)
        rw [this, Int.toNat_natCast, show ((k : Int) + 1).toNat = k + 1 from by omega]
      have w1q : IntKind.i64.wrap ((k : Int) + 1) = (k : Int) + 1 := IntWalk.i64_in _ (by omega)
      have HA1 := hide (show BytesAt wr.drew g (splitP (unlab s.data.toList)).flatten from A)
      have HA2 := hide (show BytesAt (wr.alloc (.cells #[.int .i64 0, .int .i64 0, .int .i64 0, .int .i64 0, .int .i64 0, .int .i64 0, .int .i64 0, .int .i64 0] 30)).drew g (splitP (unlab s.data.toList)).flatten from A.allocP _)
      have HL1 := hide (show BytesAt wr.drew gl (splitP s.data.toList).flatten from AL)
      have HL2 := hide (show BytesAt (wr.alloc (.cells #[.int .i64 0, .int .i64 0, .int .i64 0, .int .i64 0, .int .i64 0, .int .i64 0, .int .i64 0, .int .i64 0] 30)).drew gl (splitP s.data.toList).flatten from AL.allocP _)
      have HAo := hide A
      have HALo := hide AL
      clear A AL hc hx hy hT1 hd
      have HTT := hide ht
      clear ht
      obtain ⟨l0, ⟨a0, a1, a2, a3, a4, a5, a6, a7⟩, -⟩ := S.all
      obtain ⟨l1, ⟨b0, b1', b2⟩, -⟩ := G.all
      go_upto_region 7 with (fail)
      go_cut [12, 13] from 36 to 58 (fun p qv wx => ∃ bb, p = .pointer (some ⟨bb, 0, none⟩) ∧ qv = .bool b ∧ IsS wx bb r 30 ∧ IsG wx b1 (W : Int) (H : Int) (.slice (some ⟨g, 0, none⟩) n cap) ∧ IsS wx w.heap.size u 30 ∧ IsS wx (w.heap.size + 1) ⟨0, 0, ⟨0, 0, 0, 0, 0, 0⟩⟩ 30 ∧ BytesAt wx g (splitP (unlab s.data.toList)).flatten ∧ BytesAt wx gl (splitP s.data.toList).flatten ∧ Below w.heap.size w wx)
      case first =>
        go_region_held3 (fun w' => w'.cell? ⟨w.heap.size, 0, none⟩ = some (.int .i64 u.x) ∧ w'.cell? ⟨w.heap.size, 1, none⟩ = some (.int .i64 u.y) ∧ w'.cell? ⟨w.heap.size, 2, none⟩ = some (.int .i64 u.d.t) ∧ w'.cell? ⟨w.heap.size, 3, none⟩ = some (.int .i64 u.d.n) ∧ w'.cell? ⟨w.heap.size, 4, none⟩ = some (.int .i64 u.d.e) ∧ w'.cell? ⟨w.heap.size, 5, none⟩ = some (.int .i64 u.d.s) ∧ w'.cell? ⟨w.heap.size, 6, none⟩ = some (.int .i64 u.d.w) ∧ w'.cell? ⟨w.heap.size, 7, none⟩ = some (.int .i64 u.d.b) ∧ w'.cell? ⟨b1, 0, none⟩ = some (.int .i64 (W : Int)) ∧ w'.cell? ⟨b1, 1, none⟩ = some (.int .i64 (H : Int)) ∧ w'.cell? ⟨b1, 2, none⟩ = some (.slice (some ⟨g, 0, none⟩) n cap)) (first | (refine ⟨?_, ?_, ?_, ?_, ?_, ?_, ?_, ?_, ?_, ?_, ?_⟩ <;> with_reducible assumption) | (refine ⟨?_, ?_, ?_, ?_, ?_, ?_, ?_, ?_, ?_, ?_, ?_⟩ <;> (rw [cell_set8 (by omega)]; with_reducible assumption)) | (refine ⟨?_, ?_, ?_, ?_, ?_, ?_, ?_, ?_, ?_, ?_, ?_⟩ <;> (refine (((Below.refl _ _).alloc (Nat.le_refl _) _).cell (by first | exact l0 | exact l1 | exact m0 | exact m1)).trans ?_; with_reducible assumption)) | (refine ⟨?_, ?_, ?_, ?_, ?_, ?_, ?_, ?_, ?_, ?_, ?_⟩ <;> assumption))
          (first
            | (go_at_call 63; (refine (diDir_any _ _).mono ?_); rintro e w' ⟨rfl, rfl⟩; rw [D1.out])
            | (go_at_call 60; (refine (HBR.out _ (by first | (with_reducible exact HA1.out) | (with_reducible exact HA2.out)) (by first | (with_reducible exact HL1.out) | (with_reducible exact HL2.out))).mono ?_); rintro e w2 ⟨rfl, hb2⟩; (first | (have hA : Below (wr.alloc (.cells #[.int .i64 0, .int .i64 0, .int .i64 0, .int .i64 0, .int .i64 0, .int .i64 0, .int .i64 0, .int .i64 0] 30)).drew.heap.size (wr.alloc (.cells #[.int .i64 0, .int .i64 0, .int .i64 0, .int .i64 0, .int .i64 0, .int .i64 0, .int .i64 0, .int .i64 0] 30)).drew w2 := (by with_reducible exact hb2); have NA := isS_to hA (IsS.new (w := wr) (s := ⟨0, 0, ⟨0, 0, 0, 0, 0, 0⟩⟩) (ty := 30)) rfl; obtain ⟨l2, ⟨c0, c1, c2, c3, c4, c5, c6, c7⟩, f0, f1, f2, f3, f4, f5, f6, f7⟩ := NA.all; obtain ⟨m0, ⟨x0, x1, x2, x3, x4, x5, x6, x7⟩, -⟩ := (isS_to hA (S.alloc (.cells #[.int .i64 0, .int .i64 0, .int .i64 0, .int .i64 0, .int .i64 0, .int .i64 0, .int .i64 0, .int .i64 0] 30)) rfl).all; obtain ⟨m1, ⟨y0, y1, y2⟩, -⟩ := (isG_to hA (G.alloc (.cells #[.int .i64 0, .int .i64 0, .int .i64 0, .int .i64 0, .int .i64 0, .int .i64 0, .int .i64 0, .int .i64 0] 30)) rfl).all) | (have hB : Below wr.drew.heap.size wr.drew w2 := (by with_reducible exact hb2); obtain ⟨m0, ⟨x0, x1, x2, x3, x4, x5, x6, x7⟩, -⟩ := (isS_to hB S rfl).all; obtain ⟨m1, ⟨y0, y1, y2⟩, -⟩ := (isG_to hB G rfl).all))))
        all_goals
          go_wp2_with fail
          go_meet
          refine ⟨_, rfl, rfl, ?_⟩
          first
            | (with_reducible exact (rl_cutA (r := r) G S R HAo.out HALo.out q hA NA))
            | (with_reducible exact (rl_cutB (r := r) G S R HAo.out HALo.out q hB))
      obtain ⟨bb, rfl, rfl, N2, G2, S2, R2, A2, AL2, q2⟩ := hcut
      clear a0 a1 a2 a3 a4 a5 a6 a7 l0 b0 b1' b2 l1 G S R q HA1 HA2 HL1 HL2 HAo HALo slq w1q HBR
      have HA2 := hide A2
      have HL2 := hide AL2
      clear A2 AL2
      cases b
      · have HB := hide (HNO.out HKS.out)
        clear HNO HKS HRT
        obtain ⟨l4, ⟨c0, c1, c2, c3, c4, c5, c6, c7⟩, f0, f1, f2, f3, f4, f5, f6, f7⟩ := R2.all
        go_wp2
        refine bodyPost_ret (ret_state2 Tryd.results30 rfl rfl (R2.set8 ⟨0, 0, ⟨0, 0, 0, 0, 0, 0⟩⟩)) rfl ⟨by rw [HB.out, rl_no HB.out], ?_⟩
        exact below_set8 q2 (show w.heap.size ≤ w.heap.size + 1 from by omega) ⟨0, 0, ⟨0, 0, 0, 0, 0, 0⟩⟩
      · have HRR := hide (show r = rollT u d from by simpa using HRT.out)
        clear HRT HNO
        obtain ⟨l2, ⟨n0, n1, n2, n3, n4, n5, n6, n7⟩, -⟩ := N2.all
        obtain ⟨l3, ⟨c0, c1, c2, c3, c4, c5, c6, c7⟩, f0, f1, f2, f3, f4, f5, f6, f7⟩ := S2.all
        have S4 := hide (S2.set8 r)
        have q4 := below_set8 q2 (Nat.le_refl w.heap.size) r
        have hw8 : Below (w.heap.size + 1) wc ((((((((wc.setCell ⟨w.heap.size, 0, none⟩ (.int .i64 r.x)).setCell ⟨w.heap.size, 1, none⟩ (.int .i64 r.y)).setCell ⟨w.heap.size, 2, none⟩ (.int .i64 r.d.t)).setCell ⟨w.heap.size, 3, none⟩ (.int .i64 r.d.n)).setCell ⟨w.heap.size, 4, none⟩ (.int .i64 r.d.e)).setCell ⟨w.heap.size, 5, none⟩ (.int .i64 r.d.s)).setCell ⟨w.heap.size, 6, none⟩ (.int .i64 r.d.w)).setCell ⟨w.heap.size, 7, none⟩ (.int .i64 r.d.b)) → True := fun _ => trivial
        have R4 := hide (show IsS ((((((((wc.setCell ⟨w.heap.size, 0, none⟩ (.int .i64 r.x)).setCell ⟨w.heap.size, 1, none⟩ (.int .i64 r.y)).setCell ⟨w.heap.size, 2, none⟩ (.int .i64 r.d.t)).setCell ⟨w.heap.size, 3, none⟩ (.int .i64 r.d.n)).setCell ⟨w.heap.size, 4, none⟩ (.int .i64 r.d.e)).setCell ⟨w.heap.size, 5, none⟩ (.int .i64 r.d.s)).setCell ⟨w.heap.size, 6, none⟩ (.int .i64 r.d.w)).setCell ⟨w.heap.size, 7, none⟩ (.int .i64 r.d.b)) (w.heap.size + 1) ⟨0, 0, ⟨0, 0, 0, 0, 0, 0⟩⟩ 30 from s_other8 R2 (by omega) r)
        have G4 := hide (show IsG ((((((((wc.setCell ⟨w.heap.size, 0, none⟩ (.int .i64 r.x)).setCell ⟨w.heap.size, 1, none⟩ (.int .i64 r.y)).setCell ⟨w.heap.size, 2, none⟩ (.int .i64 r.d.t)).setCell ⟨w.heap.size, 3, none⟩ (.int .i64 r.d.n)).setCell ⟨w.heap.size, 4, none⟩ (.int .i64 r.d.e)).setCell ⟨w.heap.size, 5, none⟩ (.int .i64 r.d.s)).setCell ⟨w.heap.size, 6, none⟩ (.int .i64 r.d.w)).setCell ⟨w.heap.size, 7, none⟩ (.int .i64 r.d.b)) b1 (W : Int) (H : Int) (.slice (some ⟨g, 0, none⟩) n cap) from g_other8 G2 (g_ne_s G2 S2) r)
        have A4 := hide (show BytesAt ((((((((wc.setCell ⟨w.heap.size, 0, none⟩ (.int .i64 r.x)).setCell ⟨w.heap.size, 1, none⟩ (.int .i64 r.y)).setCell ⟨w.heap.size, 2, none⟩ (.int .i64 r.d.t)).setCell ⟨w.heap.size, 3, none⟩ (.int .i64 r.d.n)).setCell ⟨w.heap.size, 4, none⟩ (.int .i64 r.d.e)).setCell ⟨w.heap.size, 5, none⟩ (.int .i64 r.d.s)).setCell ⟨w.heap.size, 6, none⟩ (.int .i64 r.d.w)).setCell ⟨w.heap.size, 7, none⟩ (.int .i64 r.d.b)) g (splitP (unlab s.data.toList)).flatten from b_other8 HA2.out (b_ne_s HA2.out S2) r)
        have AL4 := hide (show BytesAt ((((((((wc.setCell ⟨w.heap.size, 0, none⟩ (.int .i64 r.x)).setCell ⟨w.heap.size, 1, none⟩ (.int .i64 r.y)).setCell ⟨w.heap.size, 2, none⟩ (.int .i64 r.d.t)).setCell ⟨w.heap.size, 3, none⟩ (.int .i64 r.d.n)).setCell ⟨w.heap.size, 4, none⟩ (.int .i64 r.d.e)).setCell ⟨w.heap.size, 5, none⟩ (.int .i64 r.d.s)).setCell ⟨w.heap.size, 6, none⟩ (.int .i64 r.d.w)).setCell ⟨w.heap.size, 7, none⟩ (.int .i64 r.d.b)) gl (splitP s.data.toList).flatten from b_other8 HL2.out (b_ne_s HL2.out S2) r)
        clear hw8 N2 G2 S2 R2 HA2 HL2 q2
        go_wp2
        go_roundw
        case rel => exact ⟨k + 1, by omega, by go_num, by rw [HSU.out, ← HRR.out]; exact S4.out, R4.out, G4.out, A4.out, AL4.out, HKS.out, q4⟩
        case measure => simp [intOf] <;> omega
    · obtain rfl : k = v.size := by omega
      have HB := hide (show rlB s.data.toList t v.data.toList = true from by rw [HEQ.out]; exact hok)
      have HVV := hide (HV.out HB.out)
      clear A AL G hok
      generalize hu : atT t v.data.toList v.size = u at S
      have HU := hide hu
      clear hu
      obtain ⟨l3, ⟨a0, a1, a2, a3, a4, a5, a6, a7⟩, -⟩ := S.all
      obtain ⟨l4, ⟨c0, c1, c2, c3, c4, c5, c6, c7⟩, f0, f1, f2, f3, f4, f5, f6, f7⟩ := R.all
      go_wp2
      refine bodyPost_ret (ret_state2 Tryd.results30 rfl rfl (R.set8 u)) rfl ⟨by rw [HB.out, HVV.out, HU.out], ?_⟩
      exact below_set8 q (show w.heap.size ≤ w.heap.size + 1 from by omega) u
theorem specRO_any (s : ByteArray) (t : St) (v : ByteArray) (w : World) (_hs : s.size ≤ 1048576) (hv : v.size ≤ 1048576) : Calls Tryd.prog 30 #[.string s, St.v t, .string v] w fun e w' => e = .returned (.tuple #[St.v (rlV s.data.toList t v.data.toList), .bool (rlB s.data.toList t v.data.toList)]) ∧ Below w.heap.size w w' := by
  have no : rlB s.data.toList t v.data.toList = false → (Calls Tryd.prog 30 #[.string s, St.v t, .string v] w fun e w' => e = .returned (.tuple #[St.v ⟨0, 0, ⟨0, 0, 0, 0, 0, 0⟩⟩, .bool false]) ∧ Below w.heap.size w w') → Calls Tryd.prog 30 #[.string s, St.v t, .string v] w fun e w' => e = .returned (.tuple #[St.v (rlV s.data.toList t v.data.toList), .bool (rlB s.data.toList t v.data.toList)]) ∧ Below w.heap.size w w' := fun h hc => by
    rw [h, rl_no h]
    exact hc
  cases h : isLab s.data.toList
  · exact no (by unfold rlB; rw [onL_no h]; rfl) (specRO_bad s t v w h)
  · cases h2 : stL (unlab s.data.toList) t
    · exact no (by unfold rlB; rw [onL_eq h, h2]; rfl) (specRO_off s t v w h h2)
    · cases h3 : isWord v.data.toList
      · exact no (by unfold rlB; rw [h3]; simp) (specRO_word s t v w (bigLen hv) h h2 h3)
      · cases h4 : hitAt s.data.toList t
        · exact no (by unfold rlB; rw [hitsT_mono s.data.toList t v.data.toList _ 1 (by omega) (by rw [hitsT, hitsT, Bool.true_and]; exact h4)]; simp) (specRO_miss s t v w (bigLen hv) h h2 h3 h4)
        · exact specRO_on s t v w (bigLen hv) h h2 h3 h4

set_option maxHeartbeats 1600000 in
theorem walk_RollOverLabels (v : ByteArray) (hv : v.size ≤ maxLen) (t : St) (htx : (Lit.int .i64 t.x).wf = true) (hty : (Lit.int .i64 t.y).wf = true) (u : ByteArray) (hu : u.size ≤ maxLen) (w : World) (hg : Glob w) : Calls Tryd.prog 11 #[.string v, St.v t, .string u] w fun e w' => e = .returned (.bool true) ∧ Below w.heap.size w w' := by
  have HGL := hide hg
  clear hg
  by_cases h0 : v.size ≤ 1048576
  · have HS0 := hide h0
    by_cases h1 : u.size ≤ 1048576
    · have HS1 := hide h1
      go_enter Tryd.func11, Tryd.ntmps11
      go_wp2_with fail
      refine (toState_any t _).mono ?_
      rintro e w1 ⟨rfl, hb1⟩
      have u1 := isS_to hb1 (IsS.new (w := w) (s := t) (ty := 25)) rfl
      have q1 : Below w.heap.size w w1 := below_after (by go_grown) hb1 (by simp)
      clear hb1
      go_wp2_with fail
      refine (specRO_any v t u _ HS0.out HS1.out).mono ?_
      rintro e w2 ⟨rfl, hb2⟩
      have u2 := isS_to hb2 u1 rfl
      have q2 := below_to hb2 q1 q1.size rfl rfl rfl rfl
      clear hb2 u1 q1
      generalize hz0 : rlV v.data.toList t u.data.toList = z0
      have HZ0 := hide hz0
      clear hz0
      generalize hz1 : rlB v.data.toList t u.data.toList = z1
      have HZ1 := hide hz1
      clear hz1
      obtain ⟨l1, ⟨c0, c1, c2, c3, c4, c5, c6, c7⟩, -⟩ := u2.all
      go_wp2_with fail
      clear c0 c1 c2 c3 c4 c5 c6 c7 l1
      refine (toState_any t _).mono ?_
      rintro e w3 ⟨rfl, hb3⟩
      have v3 := isS_to hb3 (IsS.new (w := w2) (s := z0) (ty := 30)) rfl
      have q3 : Below w.heap.size w w3 := below_to hb3 (q2.alloc q2.size (.cells #[.int .i64 z0.x, .int .i64 z0.y, .int .i64 z0.d.t, .int .i64 z0.d.n, .int .i64 z0.d.e, .int .i64 z0.d.s, .int .i64 z0.d.w, .int .i64 z0.d.b] 30)) (by have := q2.size; simp; omega) rfl rfl rfl rfl
      have hg3 := hide (show Glob w3 from by
        have hl := HGL.out.lt
        obtain ⟨m, hm⟩ := HGL.out
        exact ⟨m, (q3.cell (p := ⟨0, 0, none⟩) hl).trans hm⟩)
      clear hb3 u2 q2
      go_wp2_with fail
      refine (implRO_any v t u _ HS0.out HS1.out hg3.out).mono ?_
      rintro e w4 ⟨rfl, hb4⟩
      rw [HZ0.out, HZ1.out]
      have q4 := below_to hb4 q3 q3.size rfl rfl rfl rfl
      have v4 := isS_to hb4 v3 rfl
      obtain ⟨l4, ⟨c0, c1, c2, c3, c4, c5, c6, c7⟩, -⟩ := v4.all
      clear hb4 v3 q3
      go_wp2_with fail
      clear c0 c1 c2 c3 c4 c5 c6 c7
      refine (eqState_self z0 _).mono ?_
      rintro e w5 ⟨rfl, hb5⟩
      have q5 : Below w.heap.size w w5 := below_after (q4.alloc q4.size _) hb5 (by simp; have := q4.size; omega)
      have e1 : (z1 != z1) = false := by simp
      go_wp2
      go_returns
      exact ⟨rfl, q5⟩
    · go_enter Tryd.func11, Tryd.ntmps11
      go_wp2
      go_returns
      exact ⟨rfl, by go_grown⟩
  · go_enter Tryd.func11, Tryd.ntmps11
    go_wp2
    go_returns
    exact ⟨rfl, by go_grown⟩
end Go.Proofs.YtckajjocpheakaaDoor
