/- The walks of the law of CanRoll. -/
import Derived.Test.YtccaaphmkgjdeaaDoorRolls
import Derived.Laws.IdiomStrings
import Derived.Deep.CutRange
namespace Go.Proofs.YtccaaphmkgjdeaaDoor
set_option maxRecDepth 100000
open Go.RowKit

theorem diDirsU_any (w : World) : Calls Tryd.prog 62 #[] w fun e w' => e = .returned (.string ⟨#[110, 101, 115, 119]⟩) ∧ w = w' := by
  go_enter Tryd.func62, Tryd.ntmps62
  go_wp2
  go_ret
  exact ⟨rfl, rfl⟩
/-- The sign of a direction's number. -/
def dirN : Nat → UInt8
  | 0 => 110
  | 1 => 101
  | 2 => 115
  | _ => 119
theorem dixU : ∀ (j : Nat) (_ : j < 4) (wx : World), (Instr.index 9 (.string ⟨#[110, 101, 115, 119]⟩) (.int .i64 (j : Int))).run Tryd.prog wx = .ok (.int .u8 ((dirN j).toNat : Int)) wx
  | 0, _, _ => by kernel_rfl
  | 1, _, _ => by kernel_rfl
  | 2, _, _ => by kernel_rfl
  | 3, _, _ => by kernel_rfl
theorem dslU : ∀ (j : Nat) (_ : j < 4) (wx : World), (Instr.slice 9 (.string ⟨#[110, 101, 115, 119]⟩) (some (.int .i64 (j : Int))) (some (.int .i64 ((j : Int) + 1))) none).run Tryd.prog wx = .ok (.string ⟨#[dirN j]⟩) wx
  | 0, _, _ => by kernel_rfl
  | 1, _, _ => by kernel_rfl
  | 2, _, _ => by kernel_rfl
  | 3, _, _ => by kernel_rfl
theorem dirIx_N : ∀ (j : Nat) (_ : j < 4), dirIx (dirN j).toNat = (j : Int)
  | 0, _ => rfl
  | 1, _ => rfl
  | 2, _ => rfl
  | 3, _ => rfl
theorem info_u8U : (Tryd.prog.info? 5).map (fun i => (i.zero, i.size, i.bytes)) = some (some (.int .u8 0), 1, 1) := by kernel_rfl
theorem bytes_backU {w : World} {base g n cap : Nat} {l : List UInt8} (h : w.ownsRow base 5 1 (.slice (some ⟨g, 0, none⟩) n cap) n (bytesV l)) (hn : l.length = n) :
    (convert 57 9 (.slice (some ⟨g, 0, none⟩) n cap)).run Tryd.prog w = .ok (.string ⟨l.toArray⟩) w := by
  subst hn
  refine run_convert_bytes_back w _ _ 5 _ cap l Tryd.underlying57 Tryd.underlying5 Tryd.underlying9 (fun j hj => ?_)
  exact h.cells rfl j _ (by simp [bytesV, List.getElem?_eq_getElem hj])
theorem own_to {w w0 w1 : World} {B : Nat} {e : TypeId} {z : Nat} {v : Value} {n : Nat} {xs : List Value} (hb : Below w0.heap.size w0 w1) (h : w.ownsRow B e z v n xs) (eq : w0.heap = w.heap) : w1.ownsRow B e z v n xs := by
  obtain ⟨h1, h2⟩ := h
  refine ⟨h1, ?_⟩
  rcases h2 with h | ⟨g, cap, cur, hv, hb', hg, rest⟩
  · exact .inl h
  · refine .inr ⟨g, cap, cur, hv, hb', ?_, rest⟩
    have hl : g < w.heap.size := by
      rcases Nat.lt_or_ge g w.heap.size with hlt | hge
      · exact hlt
      · rw [Array.getElem?_eq_none hge] at hg; cases hg
    rw [hb.block g (by rw [eq]; exact hl), eq]
    exact hg
theorem own_lt2 {w : World} {B C : Nat} {e : TypeId} {z n m cap : Nat} {xs : List Value} (h : w.ownsRow B e z (.slice (some ⟨C, 0, none⟩) n cap) m xs) : C < w.heap.size := by
  rcases h.2 with ⟨h0, _⟩ | ⟨g, cap', cur, hv, _, hg, _⟩
  · cases h0
  · injection hv with hv
    injection hv with hv
    injection hv with hv
    subst hv
    rcases Nat.lt_or_ge C w.heap.size with hlt | hge
    · exact hlt
    · rw [Array.getElem?_eq_none hge] at hg; cases hg
/-- A state on a board stands near. -/
theorem st_near {l : List UInt8} (h : isBd l = true) {s : St} (h2 : stL l s = true) : (-100000 ≤ s.x ∧ s.x ≤ 100000) ∧ (-100000 ≤ s.y ∧ s.y ≤ 100000) := by
  unfold stL floorL at h2
  cases hi : inL l s.x s.y
  · rw [cellI_out h hi] at h2
    exact absurd h2 (by simp)
  · obtain ⟨_, a, _, b, _⟩ := bd_facts h
    unfold inL at hi
    simp only [Bool.and_eq_true, decide_eq_true_eq] at hi
    omega
/-- The directions in which a state can be rolled. -/
def canW (l : List UInt8) (s : St) : Nat → List UInt8
  | 0 => []
  | k + 1 => if canT l s (k : Int) = true then canW l s k ++ [dirN k] else canW l s k
theorem canW_len (l : List UInt8) (s : St) : ∀ k, (canW l s k).length ≤ k
  | 0 => Nat.le_refl _
  | k + 1 => by
    have := canW_len l s k
    unfold canW
    split
    · simp; omega
    · omega

set_option maxHeartbeats 1600000 in
theorem specCan_on (s : ByteArray) (t : St) (w : World) (hs : s.size ≤ 1048576) (h : isBd s.data.toList = true) (h2 : stL s.data.toList t = true) : Calls Tryd.prog 29 #[.string s, St.v t] w fun e w' => e = .returned (.tuple #[.string ⟨(canW s.data.toList t 4).toArray⟩, .bool true]) ∧ Below w.heap.size w w' := by
  obtain ⟨hx, hy⟩ := st_near h h2
  have HX := hide hx
  have HY := hide hy
  have H := hide h
  have HST := hide h2
  clear h h2 hx hy
  go_enter Tryd.func29, Tryd.ntmps29
  go_wp2_with fail
  refine (boAsked_in s t _ hs H.out).mono ?_
  rintro e w1 ⟨W, Hh, n, g, cap, hG, rfl, hA, hb1⟩
  rw [HST.out]
  have u1 := (isS_to hb1 (IsS.new (w := w) (s := t) (ty := 37)) rfl).alloc (.cells #[.int .i64 (W : Int), .int .i64 (Hh : Int), .slice (some ⟨g, 0, none⟩) n cap] 59)
  have q0 : Below w.heap.size w w1 := below_after (by go_grown) hb1 (by simp)
  have G1 := IsG.new (w := w1) (x := (W : Int)) (y := (Hh : Int)) (v := .slice (some ⟨g, 0, none⟩) n cap)
  have A1 : BytesAt (w1.alloc (.cells #[.int .i64 (W : Int), .int .i64 (Hh : Int), .slice (some ⟨g, 0, none⟩) n cap] 59)) g (splitP s.data.toList).flatten := bytesAt_to ((Below.refl _ _).alloc (Nat.le_refl _) _) hA rfl
  have q1 := q0.alloc q0.size (.cells #[.int .i64 (W : Int), .int .i64 (Hh : Int), .slice (some ⟨g, 0, none⟩) n cap] 59)
  have HG := hide hG
  clear hb1 q0 hA hG
  go_wp2_with fail
  generalize hB : w1.heap.size = B at G1 ⊢
  generalize w1.alloc (.cells #[.int .i64 (W : Int), .int .i64 (Hh : Int), .slice (some ⟨g, 0, none⟩) n cap] 59) = W1 at u1 G1 A1 q1 ⊢
  clear hB
  go_loopw [8, 9] (fun o i wr => ∃ k : Nat, k ≤ 4 ∧ i = .int .i64 (k : Int) ∧ o = .string ⟨(canW s.data.toList t k).toArray⟩ ∧ IsS wr w.heap.size t 37 ∧ IsG wr B (W : Int) (Hh : Int) (.slice (some ⟨g, 0, none⟩) n cap) ∧ BytesAt wr g (splitP s.data.toList).flatten ∧ Below w.heap.size w wr) (fun _ i _ => 4 - (intOf i).toNat)
  case atStart => exact ⟨0, by omega, rfl, rfl, u1, G1, A1, q1⟩
  case round =>
    obtain ⟨k, hk, rfl, rfl, u, G, A, q⟩ := hrel
    clear u1 G1 A1 q1
    by_cases hlt : k < 4
    · obtain ⟨l0, ⟨a0, a1, a2, a3, a4, a5, a6, a7⟩, -⟩ := u.all
      obtain ⟨l1, ⟨b0, b1, b2⟩, -⟩ := G.all
      have hki : (k : Int) < 4 := by omega
      have HK := hide (show canW s.data.toList t (k + 1) = (if canT s.data.toList t (k : Int) = true then canW s.data.toList t k ++ [dirN k] else canW s.data.toList t k) from rfl)
      have hol := canW_len s.data.toList t k
      generalize ho : canW s.data.toList t k = o at hol HK
      clear ho
      have HA := hide A
      clear A
      cases hct : canT s.data.toList t (k : Int)
      · have HC := hide (show canW s.data.toList t (k + 1) = o from by rw [HK.out, hct]; rfl)
        have HCT := hide hct
        clear hct
        go_wp2_with fail
        refine (boRoll_no s.data.toList W Hh n HG.out g cap t (k : Int) _ HA.out HX.out HY.out HCT.out).mono ?_
        rintro e w2 ⟨rfl, hb2⟩
        have u2 := (isS_to hb2 u rfl).alloc (.cells #[.int .i64 0, .int .i64 0, .int .i64 0, .int .i64 0, .int .i64 0, .int .i64 0, .int .i64 0, .int .i64 0] 37)
        have G2 := (isG_to hb2 G rfl).alloc (.cells #[.int .i64 0, .int .i64 0, .int .i64 0, .int .i64 0, .int .i64 0, .int .i64 0, .int .i64 0, .int .i64 0] 37)
        have A2 := hide (show BytesAt (w2.alloc (.cells #[.int .i64 0, .int .i64 0, .int .i64 0, .int .i64 0, .int .i64 0, .int .i64 0, .int .i64 0, .int .i64 0] 37)) g (splitP s.data.toList).flatten from bytesAt_to ((Below.refl _ _).alloc (Nat.le_refl _) _) (bytesAt_to hb2 HA.out rfl) rfl)
        have q2 := (below_to hb2 q q.size rfl rfl rfl rfl)
        have q3 := q2.alloc q2.size (.cells #[.int .i64 0, .int .i64 0, .int .i64 0, .int .i64 0, .int .i64 0, .int .i64 0, .int .i64 0, .int .i64 0] 37)
        clear hb2 a0 a1 a2 a3 a4 a5 a6 a7 b0 b1 b2 l0 l1 u G q q2
        go_wp2
        go_roundw
        case rel => exact ⟨k + 1, by omega, by go_num, by rw [HC.out], u2, G2, A2.out, q3⟩
        case measure => simp [intOf] <;> omega
      · have HC := hide (show canW s.data.toList t (k + 1) = o ++ [dirN k] from by rw [HK.out, hct]; rfl)
        have HCT := hide hct
        clear hct
        go_wp2_with fail
        refine (boRoll_yes s.data.toList W Hh n HG.out g cap t (k : Int) _ HA.out HX.out HY.out HCT.out).mono ?_
        rintro e w2 ⟨rfl, hb2⟩
        generalize rollT t (k : Int) = r
        have u2 := (isS_to hb2 u rfl).alloc (.cells #[.int .i64 r.x, .int .i64 r.y, .int .i64 r.d.t, .int .i64 r.d.n, .int .i64 r.d.e, .int .i64 r.d.s, .int .i64 r.d.w, .int .i64 r.d.b] 37)
        have G2 := (isG_to hb2 G rfl).alloc (.cells #[.int .i64 r.x, .int .i64 r.y, .int .i64 r.d.t, .int .i64 r.d.n, .int .i64 r.d.e, .int .i64 r.d.s, .int .i64 r.d.w, .int .i64 r.d.b] 37)
        have A2 := hide (show BytesAt (w2.alloc (.cells #[.int .i64 r.x, .int .i64 r.y, .int .i64 r.d.t, .int .i64 r.d.n, .int .i64 r.d.e, .int .i64 r.d.s, .int .i64 r.d.w, .int .i64 r.d.b] 37)) g (splitP s.data.toList).flatten from bytesAt_to ((Below.refl _ _).alloc (Nat.le_refl _) _) (bytesAt_to hb2 HA.out rfl) rfl)
        have q2 := (below_to hb2 q q.size rfl rfl rfl rfl)
        have q3 := q2.alloc q2.size (.cells #[.int .i64 r.x, .int .i64 r.y, .int .i64 r.d.t, .int .i64 r.d.n, .int .i64 r.d.e, .int .i64 r.d.s, .int .i64 r.d.w, .int .i64 r.d.b] 37)
        have hsl := dslU k hlt
        have ha : ¬ 9223372036854775807 < o.length + 1 := by omega
        clear hb2 a0 a1 a2 a3 a4 a5 a6 a7 b0 b1 b2 l0 l1 u G q q2
        go_wp2_with (first
          | (go_at_call 62; refine (diDirsU_any _).mono ?_; rintro e w' ⟨rfl, rfl⟩))
        go_roundw
        case rel => exact ⟨k + 1, by omega, by go_num, by rw [HC.out, ← str_snoc], u2, G2, A2.out, q3⟩
        case measure => simp [intOf] <;> omega
    · obtain rfl : k = 4 := by omega
      generalize hx : (⟨(canW s.data.toList t 4).toArray⟩ : ByteArray) = x
      have HX := hide hx
      clear hx
      go_wp2
      go_returns
      exact ⟨by rw [HX.out]; rfl, q⟩

set_option maxHeartbeats 1600000 in
theorem specCan_off (s : ByteArray) (t : St) (w : World) (hs : s.size ≤ 1048576) (h : isBd s.data.toList = true) (h2 : stL s.data.toList t = false) : Calls Tryd.prog 29 #[.string s, St.v t] w fun e w' => e = .returned (.tuple #[.string ⟨#[]⟩, .bool false]) ∧ Below w.heap.size w w' := by
  have H := hide h
  have HST := hide h2
  clear h h2
  go_enter Tryd.func29, Tryd.ntmps29
  go_wp2_with fail
  refine (boAsked_in s t _ hs H.out).mono ?_
  rintro e w1 ⟨W, Hh, n, g, cap, hG, rfl, hA, hb1⟩
  rw [HST.out]
  have q0 : Below w.heap.size w w1 := below_after (by go_grown) hb1 (by simp)
  clear hb1
  go_wp2
  go_returns
  exact ⟨rfl, q0.alloc q0.size _⟩
set_option maxHeartbeats 1600000 in
theorem specCan_bad (s : ByteArray) (t : St) (w : World) (hs : s.size ≤ 1048576) (h : isBd s.data.toList = false) : Calls Tryd.prog 29 #[.string s, St.v t] w fun e w' => e = .returned (.tuple #[.string ⟨#[]⟩, .bool false]) ∧ Below w.heap.size w w' := by
  have H := hide h
  clear h
  go_enter Tryd.func29, Tryd.ntmps29
  go_wp2_with fail
  refine (boAsked_bad s t _ hs H.out).mono ?_
  rintro e w1 ⟨rfl, hb1⟩
  have q0 : Below w.heap.size w w1 := below_after (by go_grown) hb1 (by simp)
  clear hb1
  go_wp2
  go_returns
  exact ⟨rfl, q0.alloc q0.size _⟩

set_option maxHeartbeats 800000 in
theorem implCan_bad (s : ByteArray) (t : St) (w : World) (hs : s.size ≤ 1048576) (hg : Glob w) (h : isBd s.data.toList = false) : Calls Tryd.prog 30 #[.string s, St.v t] w fun e w' => e = .returned (.tuple #[.string ⟨#[]⟩, .bool false]) ∧ Below w.heap.size w w' := by
  have HG := hide (show Glob (w.alloc (.cells #[.int .i64 t.x, .int .i64 t.y, .int .i64 t.d.t, .int .i64 t.d.n, .int .i64 t.d.e, .int .i64 t.d.s, .int .i64 t.d.w, .int .i64 t.d.b] 37)) from glob_to (w0 := w) ((Below.refl _ _).alloc (Nat.le_refl _) _) hg rfl)
  have H := hide h
  clear h hg
  go_enter Tryd.func30, Tryd.ntmps30
  go_wp2_with fail
  refine (rowsUnder_bad s t _ hs HG.out H.out).mono ?_
  rintro e w1 ⟨rfl, hb1⟩
  have q0 : Below w.heap.size w w1 := below_after (by go_grown) hb1 (by simp)
  clear hb1
  go_wp2
  go_returns
  exact ⟨rfl, q0⟩

set_option maxHeartbeats 800000 in
theorem implCan_off (s : ByteArray) (t : St) (w : World) (hs : s.size ≤ 1048576) (hg : Glob w) (h : isBd s.data.toList = true) (h2 : stL s.data.toList t = false) : Calls Tryd.prog 30 #[.string s, St.v t] w fun e w' => e = .returned (.tuple #[.string ⟨#[]⟩, .bool false]) ∧ Below w.heap.size w w' := by
  have HG := hide (show Glob (w.alloc (.cells #[.int .i64 t.x, .int .i64 t.y, .int .i64 t.d.t, .int .i64 t.d.n, .int .i64 t.d.e, .int .i64 t.d.s, .int .i64 t.d.w, .int .i64 t.d.b] 37)) from glob_to (w0 := w) ((Below.refl _ _).alloc (Nat.le_refl _) _) hg rfl)
  have H := hide h
  have H2 := hide h2
  clear h2
  clear h hg
  go_enter Tryd.func30, Tryd.ntmps30
  go_wp2_with fail
  refine (rowsUnder_off s t _ hs HG.out H.out H2.out).mono ?_
  rintro e w1 ⟨rfl, hb1⟩
  have q0 : Below w.heap.size w w1 := below_after (by go_grown) hb1 (by simp)
  clear hb1
  go_wp2
  go_returns
  exact ⟨rfl, q0⟩

theorem rollFn_four : ∀ (k : Nat) (_ : k < 4), rollFn (dirN k) = 80 ∨ rollFn (dirN k) = 81 ∨ rollFn (dirN k) = 82 ∨ rollFn (dirN k) = 83
  | 0, _ => .inl rfl
  | 1, _ => .inr (.inl rfl)
  | 2, _ => .inr (.inr (.inl rfl))
  | 3, _ => .inr (.inr (.inr rfl))
theorem can_cutA {w wr w2 : World} {B n m : Nat} {t r : St} {rs : List ByteArray} {xs : List Value} (u : IsS wr w.heap.size t 37) (R : RowsAt wr (w.heap.size + 1 + 1) rs) (O : wr.ownsRow B 5 1 (.slice (some ⟨B, 0, none⟩) n 4) m xs) (q : Below w.heap.size w wr)
    (hb : Below (wr.alloc (.cells #[.int .i64 0, .int .i64 0, .int .i64 0, .int .i64 0, .int .i64 0, .int .i64 0, .int .i64 0, .int .i64 0] 37)).drew.heap.size (wr.alloc (.cells #[.int .i64 0, .int .i64 0, .int .i64 0, .int .i64 0, .int .i64 0, .int .i64 0, .int .i64 0, .int .i64 0] 37)).drew w2) (N : IsS w2 wr.heap.size ⟨0, 0, ⟨0, 0, 0, 0, 0, 0⟩⟩ 37) : IsS (((((((((w2.setCell ⟨wr.heap.size, 0, none⟩ (.int .i64 r.x)).setCell ⟨wr.heap.size, 1, none⟩ (.int .i64 r.y)).setCell ⟨wr.heap.size, 2, none⟩ (.int .i64 r.d.t)).setCell ⟨wr.heap.size, 3, none⟩ (.int .i64 r.d.n)).setCell ⟨wr.heap.size, 4, none⟩ (.int .i64 r.d.e)).setCell ⟨wr.heap.size, 5, none⟩ (.int .i64 r.d.s)).setCell ⟨wr.heap.size, 6, none⟩ (.int .i64 r.d.w)).setCell ⟨wr.heap.size, 7, none⟩ (.int .i64 r.d.b))) wr.heap.size r 37 ∧ IsS (((((((((w2.setCell ⟨wr.heap.size, 0, none⟩ (.int .i64 r.x)).setCell ⟨wr.heap.size, 1, none⟩ (.int .i64 r.y)).setCell ⟨wr.heap.size, 2, none⟩ (.int .i64 r.d.t)).setCell ⟨wr.heap.size, 3, none⟩ (.int .i64 r.d.n)).setCell ⟨wr.heap.size, 4, none⟩ (.int .i64 r.d.e)).setCell ⟨wr.heap.size, 5, none⟩ (.int .i64 r.d.s)).setCell ⟨wr.heap.size, 6, none⟩ (.int .i64 r.d.w)).setCell ⟨wr.heap.size, 7, none⟩ (.int .i64 r.d.b))) w.heap.size t 37 ∧ RowsAt (((((((((w2.setCell ⟨wr.heap.size, 0, none⟩ (.int .i64 r.x)).setCell ⟨wr.heap.size, 1, none⟩ (.int .i64 r.y)).setCell ⟨wr.heap.size, 2, none⟩ (.int .i64 r.d.t)).setCell ⟨wr.heap.size, 3, none⟩ (.int .i64 r.d.n)).setCell ⟨wr.heap.size, 4, none⟩ (.int .i64 r.d.e)).setCell ⟨wr.heap.size, 5, none⟩ (.int .i64 r.d.s)).setCell ⟨wr.heap.size, 6, none⟩ (.int .i64 r.d.w)).setCell ⟨wr.heap.size, 7, none⟩ (.int .i64 r.d.b))) (w.heap.size + 1 + 1) rs ∧ (((((((((w2.setCell ⟨wr.heap.size, 0, none⟩ (.int .i64 r.x)).setCell ⟨wr.heap.size, 1, none⟩ (.int .i64 r.y)).setCell ⟨wr.heap.size, 2, none⟩ (.int .i64 r.d.t)).setCell ⟨wr.heap.size, 3, none⟩ (.int .i64 r.d.n)).setCell ⟨wr.heap.size, 4, none⟩ (.int .i64 r.d.e)).setCell ⟨wr.heap.size, 5, none⟩ (.int .i64 r.d.s)).setCell ⟨wr.heap.size, 6, none⟩ (.int .i64 r.d.w)).setCell ⟨wr.heap.size, 7, none⟩ (.int .i64 r.d.b))).ownsRow B 5 1 (.slice (some ⟨B, 0, none⟩) n 4) m xs ∧ Below w.heap.size w (((((((((w2.setCell ⟨wr.heap.size, 0, none⟩ (.int .i64 r.x)).setCell ⟨wr.heap.size, 1, none⟩ (.int .i64 r.y)).setCell ⟨wr.heap.size, 2, none⟩ (.int .i64 r.d.t)).setCell ⟨wr.heap.size, 3, none⟩ (.int .i64 r.d.n)).setCell ⟨wr.heap.size, 4, none⟩ (.int .i64 r.d.e)).setCell ⟨wr.heap.size, 5, none⟩ (.int .i64 r.d.s)).setCell ⟨wr.heap.size, 6, none⟩ (.int .i64 r.d.w)).setCell ⟨wr.heap.size, 7, none⟩ (.int .i64 r.d.b))) := by
  have q2 : Below w.heap.size w w2 := below_to hb (q.alloc q.size _) (by have := q.size; simp; omega) rfl rfl rfl rfl
  have hb8 : Below wr.heap.size wr (((((((((w2.setCell ⟨wr.heap.size, 0, none⟩ (.int .i64 r.x)).setCell ⟨wr.heap.size, 1, none⟩ (.int .i64 r.y)).setCell ⟨wr.heap.size, 2, none⟩ (.int .i64 r.d.t)).setCell ⟨wr.heap.size, 3, none⟩ (.int .i64 r.d.n)).setCell ⟨wr.heap.size, 4, none⟩ (.int .i64 r.d.e)).setCell ⟨wr.heap.size, 5, none⟩ (.int .i64 r.d.s)).setCell ⟨wr.heap.size, 6, none⟩ (.int .i64 r.d.w)).setCell ⟨wr.heap.size, 7, none⟩ (.int .i64 r.d.b))) := below_set8 (below_to hb ((Below.refl wr.heap.size wr).alloc (Nat.le_refl _) (.cells #[.int .i64 0, .int .i64 0, .int .i64 0, .int .i64 0, .int .i64 0, .int .i64 0, .int .i64 0, .int .i64 0] 37)) (by simp) rfl rfl rfl rfl) (Nat.le_refl _) r
  exact ⟨N.set8 r, isS_to hb8 u rfl, rowsAt_to hb8 R rfl, own_to hb8 O rfl, below_set8 q2 q.size r⟩
theorem can_cutB {w wr w2 : World} {B n m : Nat} {t r : St} {rs : List ByteArray} {xs : List Value} (u : IsS wr w.heap.size t 37) (R : RowsAt wr (w.heap.size + 1 + 1) rs) (O : wr.ownsRow B 5 1 (.slice (some ⟨B, 0, none⟩) n 4) m xs) (q : Below w.heap.size w wr)
    (hb : Below wr.drew.heap.size wr.drew w2) : IsS (w2.alloc (.cells #[.int .i64 r.x, .int .i64 r.y, .int .i64 r.d.t, .int .i64 r.d.n, .int .i64 r.d.e, .int .i64 r.d.s, .int .i64 r.d.w, .int .i64 r.d.b] 37)) w2.heap.size r 37 ∧ IsS (w2.alloc (.cells #[.int .i64 r.x, .int .i64 r.y, .int .i64 r.d.t, .int .i64 r.d.n, .int .i64 r.d.e, .int .i64 r.d.s, .int .i64 r.d.w, .int .i64 r.d.b] 37)) w.heap.size t 37 ∧ RowsAt (w2.alloc (.cells #[.int .i64 r.x, .int .i64 r.y, .int .i64 r.d.t, .int .i64 r.d.n, .int .i64 r.d.e, .int .i64 r.d.s, .int .i64 r.d.w, .int .i64 r.d.b] 37)) (w.heap.size + 1 + 1) rs ∧ (w2.alloc (.cells #[.int .i64 r.x, .int .i64 r.y, .int .i64 r.d.t, .int .i64 r.d.n, .int .i64 r.d.e, .int .i64 r.d.s, .int .i64 r.d.w, .int .i64 r.d.b] 37)).ownsRow B 5 1 (.slice (some ⟨B, 0, none⟩) n 4) m xs ∧ Below w.heap.size w (w2.alloc (.cells #[.int .i64 r.x, .int .i64 r.y, .int .i64 r.d.t, .int .i64 r.d.n, .int .i64 r.d.e, .int .i64 r.d.s, .int .i64 r.d.w, .int .i64 r.d.b] 37)) := by
  have q2 : Below w.heap.size w w2 := below_to hb q q.size rfl rfl rfl rfl
  exact ⟨IsS.new, (isS_to hb u rfl).alloc _, rowsAt_to ((Below.refl _ _).alloc (Nat.le_refl _) _) (rowsAt_to hb R rfl) rfl, (own_to hb O rfl).alloc _, q2.alloc q2.size _⟩

set_option maxHeartbeats 16000000 in
theorem implCan_on (s : ByteArray) (t : St) (w : World) (hs : s.size ≤ 1048576) (hg : Glob w) (h : isBd s.data.toList = true) (h2 : stL s.data.toList t = true) : Calls Tryd.prog 30 #[.string s, St.v t] w fun e w' => e = .returned (.tuple #[.string ⟨(canW s.data.toList t 4).toArray⟩, .bool true]) ∧ Below w.heap.size w w' := by
  have HG := hide (show Glob (w.alloc (.cells #[.int .i64 t.x, .int .i64 t.y, .int .i64 t.d.t, .int .i64 t.d.n, .int .i64 t.d.e, .int .i64 t.d.s, .int .i64 t.d.w, .int .i64 t.d.b] 37)) from glob_to (w0 := w) ((Below.refl _ _).alloc (Nat.le_refl _) _) hg rfl)
  obtain ⟨i0, hi, hz0, hz1, hz2⟩ := info_parts info_u8U
  have HI := hide hi
  have HZ0 := hide hz0
  have HZ1 := hide hz1
  have HZ2 := hide hz2
  obtain ⟨hx, hy⟩ := st_near h h2
  have HX := hide hx
  have HY := hide hy
  have H := hide h
  have HST := hide h2
  clear h h2 hx hy hi hz0 hz1 hz2 hg
  go_enter Tryd.func30, Tryd.ntmps30
  go_wp2_with fail
  refine (rowsUnder_on s t _ hs HG.out H.out HST.out).mono ?_
  rintro e w1 ⟨rfl, ha, hb1⟩
  simp only [World.size_alloc] at ha
  have u1 := isS_to hb1 (IsS.new (w := w) (s := t) (ty := 37)) rfl
  have q1 : Below w.heap.size w w1 := below_after (by go_grown) hb1 (by simp)
  clear hb1
  go_wp2_with (at_make; refine wpList_make_own _ rfl _ _ 57 rfl w1.heap.size 5 i0 (.int .u8 0) 1 Tryd.underlying57 HI.out HZ0.out HZ1.out .i64 .i64 _ 4 rfl rfl (by omega) (by rw [HZ2.out]; omega) (by unfold maxLen; omega) (Nat.le_refl _) ?_; intro w0 hown0 hgrow0)
  have hbm : Below w1.heap.size w1 w0 := (Below.refl _ _).grown hgrow0 (Nat.le_refl _) (fun k hk => by cases hk)
  have u0 := isS_to hbm u1 rfl
  have R0 := rowsAt_to hbm ha rfl
  have q0 := below_to hbm q1 q1.size rfl rfl rfl rfl
  have hBl := q1.size
  have hRB := ha.lt
  clear hgrow0 hbm u1 ha
  generalize w1.heap.size = B at hown0 hBl hRB ⊢
  clear q1
  go_loopw [8, 20] (fun o i wr => ∃ k : Nat, k ≤ 4 ∧ i = .int .i64 (k : Int) ∧ o = .slice (some ⟨B, 0, none⟩) (canW s.data.toList t k).length 4 ∧ wr.ownsRow B 5 1 (.slice (some ⟨B, 0, none⟩) (canW s.data.toList t k).length 4) (canW s.data.toList t k).length (bytesV (canW s.data.toList t k)) ∧ IsS wr w.heap.size t 37 ∧ RowsAt wr (w.heap.size + 1 + 1) (rowsB s) ∧ Below w.heap.size w wr) (fun _ i _ => 4 - (intOf i).toNat)
  case atStart => exact ⟨0, by omega, rfl, rfl, hown0, u0, R0, q0⟩
  case round =>
    obtain ⟨k, hk, rfl, rfl, O, u, R, q⟩ := hrel
    clear u0 R0 q0 hown0
    by_cases hlt : k < 4
    · obtain ⟨l0, ⟨a0, a1, a2, a3, a4, a5, a6, a7⟩, -⟩ := u.all
      have hki : (k : Int) < 4 := by omega
      have HK := hide (show canW s.data.toList t (k + 1) = (if canT s.data.toList t (k : Int) = true then canW s.data.toList t k ++ [dirN k] else canW s.data.toList t k) from rfl)
      have hol := canW_len s.data.toList t k
      generalize ho : canW s.data.toList t k = o at hol HK O
      clear ho
      have HR := hide R
      have HO := hide O
      clear R O
      have hdx := dixU k hlt
      have HD := hide (dirIx_N k hlt)
      have HDN := hide (show 0 ≤ dirIx (dirN k).toNat from by rw [dirIx_N k hlt]; omega)
      have HCX := hide (show canT s.data.toList t (k : Int) = decide (((cellI (splitP s.data.toList) (rollT t (k : Int)).x (rollT t (k : Int)).y).toNat : Int) = 46) from rfl)
      generalize hr : rollT t (k : Int) = r at HCX
      have HRR := hide hr
      clear hr
      have HFN := fun wx => rollFn_any (dirN k) t wx HDN.out HX.out HY.out
      simp only [HD.out, HRR.out] at HFN
      have h4 := hide (rollFn_four k hlt)
      have HF0 := hide HFN
      clear HFN
      go_upto_region 8 with (fail)
      go_cut [10] from 21 to 40 (fun p wx => ∃ b, p = .pointer (some ⟨b, 0, none⟩) ∧ IsS wx b r 37 ∧ IsS wx w.heap.size t 37 ∧ RowsAt wx (w.heap.size + 1 + 1) (rowsB s) ∧ wx.ownsRow B 5 1 (.slice (some ⟨B, 0, none⟩) o.length 4) o.length (bytesV o) ∧ Below w.heap.size w wx)
      case first =>
        rcases h4.out with hF | hF | hF | hF
        · have HFN := HF0.out
          rw [hF] at HFN
          have HF := hide HFN
          clear HFN
          go_region_held3 (fun w' => w'.cell? ⟨w.heap.size, 0, none⟩ = some (.int .i64 t.x) ∧ w'.cell? ⟨w.heap.size, 1, none⟩ = some (.int .i64 t.y) ∧ w'.cell? ⟨w.heap.size, 2, none⟩ = some (.int .i64 t.d.t) ∧ w'.cell? ⟨w.heap.size, 3, none⟩ = some (.int .i64 t.d.n) ∧ w'.cell? ⟨w.heap.size, 4, none⟩ = some (.int .i64 t.d.e) ∧ w'.cell? ⟨w.heap.size, 5, none⟩ = some (.int .i64 t.d.s) ∧ w'.cell? ⟨w.heap.size, 6, none⟩ = some (.int .i64 t.d.w) ∧ w'.cell? ⟨w.heap.size, 7, none⟩ = some (.int .i64 t.d.b)) (first | (refine ⟨?_, ?_, ?_, ?_, ?_, ?_, ?_, ?_⟩ <;> with_reducible assumption) | (refine ⟨?_, ?_, ?_, ?_, ?_, ?_, ?_, ?_⟩ <;> (rw [cell_set8 (by omega)]; with_reducible assumption)) | (refine ⟨?_, ?_, ?_, ?_, ?_, ?_, ?_, ?_⟩ <;> (refine (((Below.refl _ _).alloc (Nat.le_refl _) _).cell (by first | exact l0 | exact m0)).trans ?_; with_reducible assumption)) | (refine ⟨?_, ?_, ?_, ?_, ?_, ?_, ?_, ?_⟩ <;> assumption))
            (first
              | (go_at_call 64; (refine (rollTo_any (dirN k) _ HDN.out).mono ?_); rintro e w' ⟨rfl, rfl⟩; rw [hF])
              | (go_at_call 80; (refine (HF.out _).mono ?_); rintro e w2 ⟨rfl, hb2⟩; (first | (have hA : Below (wr.alloc (.cells #[.int .i64 0, .int .i64 0, .int .i64 0, .int .i64 0, .int .i64 0, .int .i64 0, .int .i64 0, .int .i64 0] 37)).drew.heap.size (wr.alloc (.cells #[.int .i64 0, .int .i64 0, .int .i64 0, .int .i64 0, .int .i64 0, .int .i64 0, .int .i64 0, .int .i64 0] 37)).drew w2 := (by with_reducible exact hb2); have NA := isS_to hA (IsS.new (w := wr) (s := ⟨0, 0, ⟨0, 0, 0, 0, 0, 0⟩⟩) (ty := 37)) rfl; obtain ⟨l2, ⟨c0, c1, c2, c3, c4, c5, c6, c7⟩, f0, f1, f2, f3, f4, f5, f6, f7⟩ := NA.all; obtain ⟨m0, ⟨b0, b1, b2, b3, b4, b5, b6, b7⟩, -⟩ := (isS_to hA (u.alloc (.cells #[.int .i64 0, .int .i64 0, .int .i64 0, .int .i64 0, .int .i64 0, .int .i64 0, .int .i64 0, .int .i64 0] 37)) rfl).all) | (have hB : Below wr.drew.heap.size wr.drew w2 := (by with_reducible exact hb2); obtain ⟨m0, ⟨b0, b1, b2, b3, b4, b5, b6, b7⟩, -⟩ := (isS_to hB u rfl).all))))
          all_goals
            go_wp2_with fail
            go_meet
            refine ⟨_, rfl, ?_⟩
            first
              | (with_reducible exact (can_cutA (r := r) u HR.out HO.out q hA NA))
              | (with_reducible exact (can_cutB (r := r) u HR.out HO.out q hB))
        · have HFN := HF0.out
          rw [hF] at HFN
          have HF := hide HFN
          clear HFN
          go_region_held3 (fun w' => w'.cell? ⟨w.heap.size, 0, none⟩ = some (.int .i64 t.x) ∧ w'.cell? ⟨w.heap.size, 1, none⟩ = some (.int .i64 t.y) ∧ w'.cell? ⟨w.heap.size, 2, none⟩ = some (.int .i64 t.d.t) ∧ w'.cell? ⟨w.heap.size, 3, none⟩ = some (.int .i64 t.d.n) ∧ w'.cell? ⟨w.heap.size, 4, none⟩ = some (.int .i64 t.d.e) ∧ w'.cell? ⟨w.heap.size, 5, none⟩ = some (.int .i64 t.d.s) ∧ w'.cell? ⟨w.heap.size, 6, none⟩ = some (.int .i64 t.d.w) ∧ w'.cell? ⟨w.heap.size, 7, none⟩ = some (.int .i64 t.d.b)) (first | (refine ⟨?_, ?_, ?_, ?_, ?_, ?_, ?_, ?_⟩ <;> with_reducible assumption) | (refine ⟨?_, ?_, ?_, ?_, ?_, ?_, ?_, ?_⟩ <;> (rw [cell_set8 (by omega)]; with_reducible assumption)) | (refine ⟨?_, ?_, ?_, ?_, ?_, ?_, ?_, ?_⟩ <;> (refine (((Below.refl _ _).alloc (Nat.le_refl _) _).cell (by first | exact l0 | exact m0)).trans ?_; with_reducible assumption)) | (refine ⟨?_, ?_, ?_, ?_, ?_, ?_, ?_, ?_⟩ <;> assumption))
            (first
              | (go_at_call 64; (refine (rollTo_any (dirN k) _ HDN.out).mono ?_); rintro e w' ⟨rfl, rfl⟩; rw [hF])
              | (go_at_call 81; (refine (HF.out _).mono ?_); rintro e w2 ⟨rfl, hb2⟩; (first | (have hA : Below (wr.alloc (.cells #[.int .i64 0, .int .i64 0, .int .i64 0, .int .i64 0, .int .i64 0, .int .i64 0, .int .i64 0, .int .i64 0] 37)).drew.heap.size (wr.alloc (.cells #[.int .i64 0, .int .i64 0, .int .i64 0, .int .i64 0, .int .i64 0, .int .i64 0, .int .i64 0, .int .i64 0] 37)).drew w2 := (by with_reducible exact hb2); have NA := isS_to hA (IsS.new (w := wr) (s := ⟨0, 0, ⟨0, 0, 0, 0, 0, 0⟩⟩) (ty := 37)) rfl; obtain ⟨l2, ⟨c0, c1, c2, c3, c4, c5, c6, c7⟩, f0, f1, f2, f3, f4, f5, f6, f7⟩ := NA.all; obtain ⟨m0, ⟨b0, b1, b2, b3, b4, b5, b6, b7⟩, -⟩ := (isS_to hA (u.alloc (.cells #[.int .i64 0, .int .i64 0, .int .i64 0, .int .i64 0, .int .i64 0, .int .i64 0, .int .i64 0, .int .i64 0] 37)) rfl).all) | (have hB : Below wr.drew.heap.size wr.drew w2 := (by with_reducible exact hb2); obtain ⟨m0, ⟨b0, b1, b2, b3, b4, b5, b6, b7⟩, -⟩ := (isS_to hB u rfl).all))))
          all_goals
            go_wp2_with fail
            go_meet
            refine ⟨_, rfl, ?_⟩
            first
              | (with_reducible exact (can_cutA (r := r) u HR.out HO.out q hA NA))
              | (with_reducible exact (can_cutB (r := r) u HR.out HO.out q hB))
        · have HFN := HF0.out
          rw [hF] at HFN
          have HF := hide HFN
          clear HFN
          go_region_held3 (fun w' => w'.cell? ⟨w.heap.size, 0, none⟩ = some (.int .i64 t.x) ∧ w'.cell? ⟨w.heap.size, 1, none⟩ = some (.int .i64 t.y) ∧ w'.cell? ⟨w.heap.size, 2, none⟩ = some (.int .i64 t.d.t) ∧ w'.cell? ⟨w.heap.size, 3, none⟩ = some (.int .i64 t.d.n) ∧ w'.cell? ⟨w.heap.size, 4, none⟩ = some (.int .i64 t.d.e) ∧ w'.cell? ⟨w.heap.size, 5, none⟩ = some (.int .i64 t.d.s) ∧ w'.cell? ⟨w.heap.size, 6, none⟩ = some (.int .i64 t.d.w) ∧ w'.cell? ⟨w.heap.size, 7, none⟩ = some (.int .i64 t.d.b)) (first | (refine ⟨?_, ?_, ?_, ?_, ?_, ?_, ?_, ?_⟩ <;> with_reducible assumption) | (refine ⟨?_, ?_, ?_, ?_, ?_, ?_, ?_, ?_⟩ <;> (rw [cell_set8 (by omega)]; with_reducible assumption)) | (refine ⟨?_, ?_, ?_, ?_, ?_, ?_, ?_, ?_⟩ <;> (refine (((Below.refl _ _).alloc (Nat.le_refl _) _).cell (by first | exact l0 | exact m0)).trans ?_; with_reducible assumption)) | (refine ⟨?_, ?_, ?_, ?_, ?_, ?_, ?_, ?_⟩ <;> assumption))
            (first
              | (go_at_call 64; (refine (rollTo_any (dirN k) _ HDN.out).mono ?_); rintro e w' ⟨rfl, rfl⟩; rw [hF])
              | (go_at_call 82; (refine (HF.out _).mono ?_); rintro e w2 ⟨rfl, hb2⟩; (first | (have hA : Below (wr.alloc (.cells #[.int .i64 0, .int .i64 0, .int .i64 0, .int .i64 0, .int .i64 0, .int .i64 0, .int .i64 0, .int .i64 0] 37)).drew.heap.size (wr.alloc (.cells #[.int .i64 0, .int .i64 0, .int .i64 0, .int .i64 0, .int .i64 0, .int .i64 0, .int .i64 0, .int .i64 0] 37)).drew w2 := (by with_reducible exact hb2); have NA := isS_to hA (IsS.new (w := wr) (s := ⟨0, 0, ⟨0, 0, 0, 0, 0, 0⟩⟩) (ty := 37)) rfl; obtain ⟨l2, ⟨c0, c1, c2, c3, c4, c5, c6, c7⟩, f0, f1, f2, f3, f4, f5, f6, f7⟩ := NA.all; obtain ⟨m0, ⟨b0, b1, b2, b3, b4, b5, b6, b7⟩, -⟩ := (isS_to hA (u.alloc (.cells #[.int .i64 0, .int .i64 0, .int .i64 0, .int .i64 0, .int .i64 0, .int .i64 0, .int .i64 0, .int .i64 0] 37)) rfl).all) | (have hB : Below wr.drew.heap.size wr.drew w2 := (by with_reducible exact hb2); obtain ⟨m0, ⟨b0, b1, b2, b3, b4, b5, b6, b7⟩, -⟩ := (isS_to hB u rfl).all))))
          all_goals
            go_wp2_with fail
            go_meet
            refine ⟨_, rfl, ?_⟩
            first
              | (with_reducible exact (can_cutA (r := r) u HR.out HO.out q hA NA))
              | (with_reducible exact (can_cutB (r := r) u HR.out HO.out q hB))
        · have HFN := HF0.out
          rw [hF] at HFN
          have HF := hide HFN
          clear HFN
          go_region_held3 (fun w' => w'.cell? ⟨w.heap.size, 0, none⟩ = some (.int .i64 t.x) ∧ w'.cell? ⟨w.heap.size, 1, none⟩ = some (.int .i64 t.y) ∧ w'.cell? ⟨w.heap.size, 2, none⟩ = some (.int .i64 t.d.t) ∧ w'.cell? ⟨w.heap.size, 3, none⟩ = some (.int .i64 t.d.n) ∧ w'.cell? ⟨w.heap.size, 4, none⟩ = some (.int .i64 t.d.e) ∧ w'.cell? ⟨w.heap.size, 5, none⟩ = some (.int .i64 t.d.s) ∧ w'.cell? ⟨w.heap.size, 6, none⟩ = some (.int .i64 t.d.w) ∧ w'.cell? ⟨w.heap.size, 7, none⟩ = some (.int .i64 t.d.b)) (first | (refine ⟨?_, ?_, ?_, ?_, ?_, ?_, ?_, ?_⟩ <;> with_reducible assumption) | (refine ⟨?_, ?_, ?_, ?_, ?_, ?_, ?_, ?_⟩ <;> (rw [cell_set8 (by omega)]; with_reducible assumption)) | (refine ⟨?_, ?_, ?_, ?_, ?_, ?_, ?_, ?_⟩ <;> (refine (((Below.refl _ _).alloc (Nat.le_refl _) _).cell (by first | exact l0 | exact m0)).trans ?_; with_reducible assumption)) | (refine ⟨?_, ?_, ?_, ?_, ?_, ?_, ?_, ?_⟩ <;> assumption))
            (first
              | (go_at_call 64; (refine (rollTo_any (dirN k) _ HDN.out).mono ?_); rintro e w' ⟨rfl, rfl⟩; rw [hF])
              | (go_at_call 83; (refine (HF.out _).mono ?_); rintro e w2 ⟨rfl, hb2⟩; (first | (have hA : Below (wr.alloc (.cells #[.int .i64 0, .int .i64 0, .int .i64 0, .int .i64 0, .int .i64 0, .int .i64 0, .int .i64 0, .int .i64 0] 37)).drew.heap.size (wr.alloc (.cells #[.int .i64 0, .int .i64 0, .int .i64 0, .int .i64 0, .int .i64 0, .int .i64 0, .int .i64 0, .int .i64 0] 37)).drew w2 := (by with_reducible exact hb2); have NA := isS_to hA (IsS.new (w := wr) (s := ⟨0, 0, ⟨0, 0, 0, 0, 0, 0⟩⟩) (ty := 37)) rfl; obtain ⟨l2, ⟨c0, c1, c2, c3, c4, c5, c6, c7⟩, f0, f1, f2, f3, f4, f5, f6, f7⟩ := NA.all; obtain ⟨m0, ⟨b0, b1, b2, b3, b4, b5, b6, b7⟩, -⟩ := (isS_to hA (u.alloc (.cells #[.int .i64 0, .int .i64 0, .int .i64 0, .int .i64 0, .int .i64 0, .int .i64 0, .int .i64 0, .int .i64 0] 37)) rfl).all) | (have hB : Below wr.drew.heap.size wr.drew w2 := (by with_reducible exact hb2); obtain ⟨m0, ⟨b0, b1, b2, b3, b4, b5, b6, b7⟩, -⟩ := (isS_to hB u rfl).all))))
          all_goals
            go_wp2_with fail
            go_meet
            refine ⟨_, rfl, ?_⟩
            first
              | (with_reducible exact (can_cutA (r := r) u HR.out HO.out q hA NA))
              | (with_reducible exact (can_cutB (r := r) u HR.out HO.out q hB))
      obtain ⟨b2, rfl, N2, u2, ha2, ho2, q3⟩ := hcut
      have R2 := hide ha2
      have O2 := hide ho2
      clear a0 a1 a2 a3 a4 a5 a6 a7 l0 u q ha2 ho2
      obtain ⟨l2, ⟨c0, c1, c2, c3, c4, c5, c6, c7⟩, -⟩ := N2.all
      clear N2
      go_wp2_with fail
      refine (cellAtL_any s _ r.x r.y _ hs H.out R2.out).mono ?_
      rintro e w3 ⟨rfl, rfl⟩
      clear c0 c1 c2 c3 c4 c5 c6 c7 l2
      cases hct : canT s.data.toList t (k : Int)
      · have HC := hide (show canW s.data.toList t (k + 1) = o from by rw [HK.out, hct]; rfl)
        have e46 := eq46' (HCX.out.symm.trans hct)
        clear hct
        generalize cellI (splitP s.data.toList) r.x r.y = c at e46 ⊢
        go_wp2
        go_roundw
        case rel => exact ⟨k + 1, by omega, by go_num, by rw [HC.out], by rw [HC.out]; exact O2.out, u2, R2.out, q3⟩
        case measure => simp [intOf] <;> omega
      · have HC := hide (show canW s.data.toList t (k + 1) = o ++ [dirN k] from by rw [HK.out, hct]; rfl)
        have e46 := eq46' (HCX.out.symm.trans hct)
        clear hct
        generalize cellI (splitP s.data.toList) r.x r.y = c at e46 ⊢
        have hroom : o.length + 1 ≤ 4 := by omega
        have hBW := own_lt2 O2.out
        go_wp2_with (first
          | (at_builtin; refine wpList_append_fits _ rfl _ _ 57 rfl B 5 i0 1 Tryd.underlying57 HI.out HZ1.out B o.length 4 _ rfl (O2.out.alloc _) ⟨wc.heap.size, 0, none⟩ 1 1 [.int .u8 ((dirN k).toNat : Int)] rfl rfl ?c1 ?c2 hroom ?_))
        case c1 =>
          intro j u hj
          match j, hj with
          | 0, hj => simp at hj; subst hj; simp [Addr.add, World.cell?_alloc_mark]
        case c2 => intro u hu; simp at hu; subst hu; rfl
        · intro w4 hown4 hg4
          have hbB := (Below.refl B _).grown hg4 (by simp; omega) (fun k hk => by cases hk; exact Nat.le_refl _)
          have u4 : IsS w4 w.heap.size t 37 := (hbB.block _ (by omega)).trans (u2.alloc _)
          have R4 := hide (show RowsAt w4 (w.heap.size + 1 + 1) (rowsB s) from (hbB.block _ (by omega)).trans (rowsAt_to ((Below.refl _ _).alloc (Nat.le_refl _) _) R2.out rfl))
          have q4 : Below w.heap.size w w4 := (q3.alloc q3.size _).grown hg4 (by have := q3.size; simp; omega) (fun k hk => by cases hk; omega)
          have O4 := hide (show w4.ownsRow B 5 1 (.slice (some ⟨B, 0, none⟩) (canW s.data.toList t (k + 1)).length 4) (canW s.data.toList t (k + 1)).length (bytesV (canW s.data.toList t (k + 1))) from by
            rw [HC.out, List.length_append, bytesV_snoc]
            exact hown4)
          have HL4 := hide (show (canW s.data.toList t (k + 1)).length = o.length + 1 from by rw [HC.out]; simp)
          clear hown4 hg4 hbB u2 q3
          go_wp2
          go_roundw
          case rel => exact ⟨k + 1, by omega, by go_num, by rw [HL4.out], O4.out, u4, R4.out, q4⟩
          case measure => simp [intOf] <;> omega
    · obtain rfl : k = 4 := by omega
      have hcv := bytes_backU O rfl
      generalize hx : (⟨(canW s.data.toList t 4).toArray⟩ : ByteArray) = x at hcv
      have HX := hide hx
      clear hx
      go_wp2
      go_returns
      exact ⟨by rw [HX.out]; rfl, q⟩
end Go.Proofs.YtccaaphmkgjdeaaDoor
