/- The walks of the law of CanRoll. -/
import Derived.Test.YtckajjocpheakaaDoorRolls
import Derived.Test.YtckajjocpheakaaDoorOwnK
import Derived.Laws.IdiomStrings
import Derived.Deep.CutRange
namespace Go.Proofs.YtckajjocpheakaaDoor
set_option maxRecDepth 100000
set_option linter.all false
open Go.RowKit

theorem diDirsU_any (w : World) : Calls Tryd.prog 37 #[] w fun e w' => e = .returned (.string ⟨#[110, 101, 115, 119]⟩) ∧ w = w' := by
  go_enter Tryd.func37, Tryd.ntmps37
  go_wp2
  go_ret
  exact ⟨rfl, rfl⟩
/-- The sign of a direction's number. -/
def dirN : Nat → UInt8
  | 0 => 110
  | 1 => 101
  | 2 => 115
  | _ => 119
theorem dixU : ∀ (j : Nat) (_ : j < 4) (wx : World), (Instr.index 9 (.string ⟨#[110, 101, 115, 119]⟩) (.int .i64 (j : Int))).run Tryd.prog wx = .ok (.int .u8 ((dirN j).toNat : Int)) wx
  | 0, _, _ => by kernel_rfl
  | 1, _, _ => by kernel_rfl
  | 2, _, _ => by kernel_rfl
  | 3, _, _ => by kernel_rfl
theorem dslU : ∀ (j : Nat) (_ : j < 4) (wx : World), (Instr.slice 9 (.string ⟨#[110, 101, 115, 119]⟩) (some (.int .i64 (j : Int))) (some (.int .i64 ((j : Int) + 1))) none).run Tryd.prog wx = .ok (.string ⟨#[dirN j]⟩) wx
  | 0, _, _ => by kernel_rfl
  | 1, _, _ => by kernel_rfl
  | 2, _, _ => by kernel_rfl
  | 3, _, _ => by kernel_rfl
theorem dirIx_N : ∀ (j : Nat) (_ : j < 4), dirIx (dirN j).toNat = (j : Int)
  | 0, _ => rfl
  | 1, _ => rfl
  | 2, _ => rfl
  | 3, _ => rfl
theorem info_u8U : (Tryd.prog.info? 5).map (fun i => (i.zero, i.size, i.bytes)) = some (some (.int .u8 0), 1, 1) := by kernel_rfl
theorem bytes_backU {w : World} {base g n cap : Nat} {l : List UInt8} (h : w.ownsRow base 5 1 (.slice (some ⟨g, 0, none⟩) n cap) n (bytesV l)) (hn : l.length = n) :
    (convert 42 9 (.slice (some ⟨g, 0, none⟩) n cap)).run Tryd.prog w = .ok (.string ⟨l.toArray⟩) w := by
  subst hn
  refine run_convert_bytes_back w _ _ 5 _ cap l Tryd.underlying42 Tryd.underlying5 Tryd.underlying9 (fun j hj => ?_)
  exact h.cells rfl j _ (by simp [bytesV, List.getElem?_eq_getElem hj])
theorem own_lt2 {w : World} {B C : Nat} {e : TypeId} {z n m cap : Nat} {xs : List Value} (h : w.ownsRow B e z (.slice (some ⟨C, 0, none⟩) n cap) m xs) : C < w.heap.size := by
  rcases h.2 with ⟨h0, _⟩ | ⟨g, cap', cur, hv, _, hg, _⟩
  · cases h0
  · injection hv with hv
    injection hv with hv
    injection hv with hv
    subst hv
    rcases Nat.lt_or_ge C w.heap.size with hlt | hge
    · exact hlt
    · rw [Array.getElem?_eq_none hge] at hg; cases hg
/-- A state on a board stands near. -/
theorem st_near {l : List UInt8} (h : isBd l = true) {s : St} (h2 : stL l s = true) : (-100000 ≤ s.x ∧ s.x ≤ 100000) ∧ (-100000 ≤ s.y ∧ s.y ≤ 100000) := by
  unfold stL floorL at h2
  cases hi : inL l s.x s.y
  · rw [cellI_out h hi] at h2
    exact absurd h2 (by simp)
  · obtain ⟨_, a, _, b, _⟩ := bd_facts h
    unfold inL at hi
    simp only [Bool.and_eq_true, decide_eq_true_eq] at hi
    omega
/-- The directions in which a state can be rolled. -/
def canW (l : List UInt8) (s : St) : Nat → List UInt8
  | 0 => []
  | k + 1 => if canT l s (k : Int) = true then canW l s k ++ [dirN k] else canW l s k
theorem canW_len (l : List UInt8) (s : St) : ∀ k, (canW l s k).length ≤ k
  | 0 => Nat.le_refl _
  | k + 1 => by
    have := canW_len l s k
    unfold canW
    split
    · simp; omega
    · omega

set_option maxHeartbeats 1600000 in
theorem specCan_on (s : ByteArray) (t : St) (w : World) (hs : s.size ≤ 1048576) (h : isBd s.data.toList = true) (h2 : stL s.data.toList t = true) : Calls Tryd.prog 13 #[.string s, St.v t] w fun e w' => e = .returned (.tuple #[.string ⟨(canW s.data.toList t 4).toArray⟩, .bool true]) ∧ Below w.heap.size w w' := by
  obtain ⟨hx, hy⟩ := st_near h h2
  have HX := hide hx
  have HY := hide hy
  have H := hide h
  have HST := hide h2
  clear h h2 hx hy
  go_enter Tryd.func13, Tryd.ntmps13
  go_wp2_with fail
  refine (boAsked_in s t _ hs H.out).mono ?_
  rintro e w1 ⟨W, Hh, n, g, cap, hG, rfl, hA, hb1⟩
  rw [HST.out]
  have u1 := (isS_to hb1 (IsS.new (w := w) (s := t) (ty := 30)) rfl).alloc (.cells #[.int .i64 (W : Int), .int .i64 (Hh : Int), .slice (some ⟨g, 0, none⟩) n cap] 44)
  have q0 : Below w.heap.size w w1 := below_after (by go_grown) hb1 (by simp)
  have G1 := IsG.new (w := w1) (x := (W : Int)) (y := (Hh : Int)) (v := .slice (some ⟨g, 0, none⟩) n cap)
  have A1 : BytesAt (w1.alloc (.cells #[.int .i64 (W : Int), .int .i64 (Hh : Int), .slice (some ⟨g, 0, none⟩) n cap] 44)) g (splitP s.data.toList).flatten := bytesAt_to ((Below.refl _ _).alloc (Nat.le_refl _) _) hA rfl
  have q1 := q0.alloc q0.size (.cells #[.int .i64 (W : Int), .int .i64 (Hh : Int), .slice (some ⟨g, 0, none⟩) n cap] 44)
  have HG := hide hG
  clear hb1 q0 hA hG
  go_wp2_with fail
  generalize hB : w1.heap.size = B at G1 ⊢
  generalize w1.alloc (.cells #[.int .i64 (W : Int), .int .i64 (Hh : Int), .slice (some ⟨g, 0, none⟩) n cap] 44) = W1 at u1 G1 A1 q1 ⊢
  clear hB
  go_loopw [8, 9] (fun o i wr => ∃ k : Nat, k ≤ 4 ∧ i = .int .i64 (k : Int) ∧ o = .string ⟨(canW s.data.toList t k).toArray⟩ ∧ IsS wr w.heap.size t 30 ∧ IsG wr B (W : Int) (Hh : Int) (.slice (some ⟨g, 0, none⟩) n cap) ∧ BytesAt wr g (splitP s.data.toList).flatten ∧ Below w.heap.size w wr) (fun _ i _ => 4 - (intOf i).toNat)
  case atStart => exact ⟨0, by omega, rfl, rfl, u1, G1, A1, q1⟩
  case round =>
    obtain ⟨k, hk, rfl, rfl, u, G, A, q⟩ := hrel
    clear u1 G1 A1 q1
    by_cases hlt : k < 4
    · obtain ⟨l0, ⟨a0, a1, a2, a3, a4, a5, a6, a7⟩, -⟩ := u.all
      obtain ⟨l1, ⟨b0, b1, b2⟩, -⟩ := G.all
      have hki : (k : Int) < 4 := by omega
      have HK := hide (show canW s.data.toList t (k + 1) = (if canT s.data.toList t (k : Int) = true then canW s.data.toList t k ++ [dirN k] else canW s.data.toList t k) from rfl)
      have hol := canW_len s.data.toList t k
      generalize ho : canW s.data.toList t k = o at hol HK
      clear ho
      have HA := hide A
      clear A
      cases hct : canT s.data.toList t (k : Int)
      · have HC := hide (show canW s.data.toList t (k + 1) = o from by rw [HK.out, hct]; rfl)
        have HCT := hide hct
        clear hct
        go_wp2_with fail
        refine (boRoll_no s.data.toList W Hh n HG.out g cap t (k : Int) _ HA.out HX.out HY.out HCT.out).mono ?_
        rintro e w2 ⟨rfl, hb2⟩
        have u2 := (isS_to hb2 u rfl).alloc (.cells #[.int .i64 0, .int .i64 0, .int .i64 0, .int .i64 0, .int .i64 0, .int .i64 0, .int .i64 0, .int .i64 0] 30)
        have G2 := (isG_to hb2 G rfl).alloc (.cells #[.int .i64 0, .int .i64 0, .int .i64 0, .int .i64 0, .int .i64 0, .int .i64 0, .int .i64 0, .int .i64 0] 30)
        have A2 := hide (show BytesAt (w2.alloc (.cells #[.int .i64 0, .int .i64 0, .int .i64 0, .int .i64 0, .int .i64 0, .int .i64 0, .int .i64 0, .int .i64 0] 30)) g (splitP s.data.toList).flatten from bytesAt_to ((Below.refl _ _).alloc (Nat.le_refl _) _) (bytesAt_to hb2 HA.out rfl) rfl)
        have q2 := (below_to hb2 q q.size rfl rfl rfl rfl)
        have q3 := q2.alloc q2.size (.cells #[.int .i64 0, .int .i64 0, .int .i64 0, .int .i64 0, .int .i64 0, .int .i64 0, .int .i64 0, .int .i64 0] 30)
        clear hb2 a0 a1 a2 a3 a4 a5 a6 a7 b0 b1 b2 l0 l1 u G q q2
        go_wp2
        go_roundw
        case rel => exact ⟨k + 1, by omega, by go_num, by rw [HC.out], u2, G2, A2.out, q3⟩
        case measure => simp [intOf] <;> omega
      · have HC := hide (show canW s.data.toList t (k + 1) = o ++ [dirN k] from by rw [HK.out, hct]; rfl)
        have HCT := hide hct
        clear hct
        go_wp2_with fail
        refine (boRoll_yes s.data.toList W Hh n HG.out g cap t (k : Int) _ HA.out HX.out HY.out HCT.out).mono ?_
        rintro e w2 ⟨rfl, hb2⟩
        generalize rollT t (k : Int) = r
        have u2 := (isS_to hb2 u rfl).alloc (.cells #[.int .i64 r.x, .int .i64 r.y, .int .i64 r.d.t, .int .i64 r.d.n, .int .i64 r.d.e, .int .i64 r.d.s, .int .i64 r.d.w, .int .i64 r.d.b] 30)
        have G2 := (isG_to hb2 G rfl).alloc (.cells #[.int .i64 r.x, .int .i64 r.y, .int .i64 r.d.t, .int .i64 r.d.n, .int .i64 r.d.e, .int .i64 r.d.s, .int .i64 r.d.w, .int .i64 r.d.b] 30)
        have A2 := hide (show BytesAt (w2.alloc (.cells #[.int .i64 r.x, .int .i64 r.y, .int .i64 r.d.t, .int .i64 r.d.n, .int .i64 r.d.e, .int .i64 r.d.s, .int .i64 r.d.w, .int .i64 r.d.b] 30)) g (splitP s.data.toList).flatten from bytesAt_to ((Below.refl _ _).alloc (Nat.le_refl _) _) (bytesAt_to hb2 HA.out rfl) rfl)
        have q2 := (below_to hb2 q q.size rfl rfl rfl rfl)
        have q3 := q2.alloc q2.size (.cells #[.int .i64 r.x, .int .i64 r.y, .int .i64 r.d.t, .int .i64 r.d.n, .int .i64 r.d.e, .int .i64 r.d.s, .int .i64 r.d.w, .int .i64 r.d.b] 30)
        have hsl := dslU k hlt
        have ha : ¬ 9223372036854775807 < o.length + 1 := by omega
        clear hb2 a0 a1 a2 a3 a4 a5 a6 a7 b0 b1 b2 l0 l1 u G q q2
        go_wp2_with (first
          | (go_at_call 37; refine (diDirsU_any _).mono ?_; rintro e w' ⟨rfl, rfl⟩))
        go_roundw
        case rel => exact ⟨k + 1, by omega, by go_num, by rw [HC.out, ← str_snoc], u2, G2, A2.out, q3⟩
        case measure => simp [intOf] <;> omega
    · obtain rfl : k = 4 := by omega
      generalize hx : (⟨(canW s.data.toList t 4).toArray⟩ : ByteArray) = x
      have HX := hide hx
      clear hx
      go_wp2
      go_returns
      exact ⟨by rw [HX.out]; rfl, q⟩

set_option maxHeartbeats 1600000 in
theorem specCan_off (s : ByteArray) (t : St) (w : World) (hs : s.size ≤ 1048576) (h : isBd s.data.toList = true) (h2 : stL s.data.toList t = false) : Calls Tryd.prog 13 #[.string s, St.v t] w fun e w' => e = .returned (.tuple #[.string ⟨#[]⟩, .bool false]) ∧ Below w.heap.size w w' := by
  have H := hide h
  have HST := hide h2
  clear h h2
  go_enter Tryd.func13, Tryd.ntmps13
  go_wp2_with fail
  refine (boAsked_in s t _ hs H.out).mono ?_
  rintro e w1 ⟨W, Hh, n, g, cap, hG, rfl, hA, hb1⟩
  rw [HST.out]
  have q0 : Below w.heap.size w w1 := below_after (by go_grown) hb1 (by simp)
  clear hb1
  go_wp2
  go_returns
  exact ⟨rfl, q0.alloc q0.size _⟩
set_option maxHeartbeats 1600000 in
theorem specCan_bad (s : ByteArray) (t : St) (w : World) (hs : s.size ≤ 1048576) (h : isBd s.data.toList = false) : Calls Tryd.prog 13 #[.string s, St.v t] w fun e w' => e = .returned (.tuple #[.string ⟨#[]⟩, .bool false]) ∧ Below w.heap.size w w' := by
  have H := hide h
  clear h
  go_enter Tryd.func13, Tryd.ntmps13
  go_wp2_with fail
  refine (boAsked_bad s t _ hs H.out).mono ?_
  rintro e w1 ⟨rfl, hb1⟩
  have q0 : Below w.heap.size w w1 := below_after (by go_grown) hb1 (by simp)
  clear hb1
  go_wp2
  go_returns
  exact ⟨rfl, q0.alloc q0.size _⟩

set_option maxHeartbeats 800000 in
theorem implCan_bad (s : ByteArray) (t : St) (w : World) (hs : s.size ≤ 1048576) (hg : Glob w) (h : isBd s.data.toList = false) : Calls Tryd.prog 15 #[.string s, St.v t] w fun e w' => e = .returned (.tuple #[.string ⟨#[]⟩, .bool false]) ∧ Below w.heap.size w w' := by
  have HG := hide (show Glob (w.alloc (.cells #[.int .i64 t.x, .int .i64 t.y, .int .i64 t.d.t, .int .i64 t.d.n, .int .i64 t.d.e, .int .i64 t.d.s, .int .i64 t.d.w, .int .i64 t.d.b] 30)) from glob_to (w0 := w) ((Below.refl _ _).alloc (Nat.le_refl _) _) hg rfl)
  have H := hide h
  clear h hg
  go_enter Tryd.func15, Tryd.ntmps15
  go_wp2_with fail
  refine (rowsUnder_bad s t _ hs HG.out H.out).mono ?_
  rintro e w1 ⟨rfl, hb1⟩
  have q0 : Below w.heap.size w w1 := below_after (by go_grown) hb1 (by simp)
  clear hb1
  go_wp2
  go_returns
  exact ⟨rfl, q0⟩

set_option maxHeartbeats 800000 in
theorem implCan_off (s : ByteArray) (t : St) (w : World) (hs : s.size ≤ 1048576) (hg : Glob w) (h : isBd s.data.toList = true) (h2 : stL s.data.toList t = false) : Calls Tryd.prog 15 #[.string s, St.v t] w fun e w' => e = .returned (.tuple #[.string ⟨#[]⟩, .bool false]) ∧ Below w.heap.size w w' := by
  have HG := hide (show Glob (w.alloc (.cells #[.int .i64 t.x, .int .i64 t.y, .int .i64 t.d.t, .int .i64 t.d.n, .int .i64 t.d.e, .int .i64 t.d.s, .int .i64 t.d.w, .int .i64 t.d.b] 30)) from glob_to (w0 := w) ((Below.refl _ _).alloc (Nat.le_refl _) _) hg rfl)
  have H := hide h
  have H2 := hide h2
  clear h2
  clear h hg
  go_enter Tryd.func15, Tryd.ntmps15
  go_wp2_with fail
  refine (rowsUnder_off s t _ hs HG.out H.out H2.out).mono ?_
  rintro e w1 ⟨rfl, hb1⟩
  have q0 : Below w.heap.size w w1 := below_after (by go_grown) hb1 (by simp)
  clear hb1
  go_wp2
  go_returns
  exact ⟨rfl, q0⟩

theorem rollFn_four : ∀ (k : Nat) (_ : k < 4), rollFn (dirN k) = 86 ∨ rollFn (dirN k) = 87 ∨ rollFn (dirN k) = 88 ∨ rollFn (dirN k) = 89
  | 0, _ => .inl rfl
  | 1, _ => .inr (.inl rfl)
  | 2, _ => .inr (.inr (.inl rfl))
  | 3, _ => .inr (.inr (.inr rfl))
theorem can_cutA {w wr w2 : World} {B n m : Nat} {t r : St} {rs : List ByteArray} {xs : List Value} (u : IsS wr w.heap.size t 30) (R : RowsAt wr (w.heap.size + 1 + 1) rs) (O : wr.ownsRow B 5 1 (.slice (some ⟨B, 0, none⟩) n 4) m xs) (q : Below w.heap.size w wr)
    (hb : Below (wr.alloc (.cells #[.int .i64 0, .int .i64 0, .int .i64 0, .int .i64 0, .int .i64 0, .int .i64 0, .int .i64 0, .int .i64 0] 30)).drew.heap.size (wr.alloc (.cells #[.int .i64 0, .int .i64 0, .int .i64 0, .int .i64 0, .int .i64 0, .int .i64 0, .int .i64 0, .int .i64 0] 30)).drew w2) (N : IsS w2 wr.heap.size ⟨0, 0, ⟨0, 0, 0, 0, 0, 0⟩⟩ 30) : IsS (((((((((w2.setCell ⟨wr.heap.size, 0, none⟩ (.int .i64 r.x)).setCell ⟨wr.heap.size, 1, none⟩ (.int .i64 r.y)).setCell ⟨wr.heap.size, 2, none⟩ (.int .i64 r.d.t)).setCell ⟨wr.heap.size, 3, none⟩ (.int .i64 r.d.n)).setCell ⟨wr.heap.size, 4, none⟩ (.int .i64 r.d.e)).setCell ⟨wr.heap.size, 5, none⟩ (.int .i64 r.d.s)).setCell ⟨wr.heap.size, 6, none⟩ (.int .i64 r.d.w)).setCell ⟨wr.heap.size, 7, none⟩ (.int .i64 r.d.b))) wr.heap.size r 30 ∧ IsS (((((((((w2.setCell ⟨wr.heap.size, 0, none⟩ (.int .i64 r.x)).setCell ⟨wr.heap.size, 1, none⟩ (.int .i64 r.y)).setCell ⟨wr.heap.size, 2, none⟩ (.int .i64 r.d.t)).setCell ⟨wr.heap.size, 3, none⟩ (.int .i64 r.d.n)).setCell ⟨wr.heap.size, 4, none⟩ (.int .i64 r.d.e)).setCell ⟨wr.heap.size, 5, none⟩ (.int .i64 r.d.s)).setCell ⟨wr.heap.size, 6, none⟩ (.int .i64 r.d.w)).setCell ⟨wr.heap.size, 7, none⟩ (.int .i64 r.d.b))) w.heap.size t 30 ∧ RowsAt (((((((((w2.setCell ⟨wr.heap.size, 0, none⟩ (.int .i64 r.x)).setCell ⟨wr.heap.size, 1, none⟩ (.int .i64 r.y)).setCell ⟨wr.heap.size, 2, none⟩ (.int .i64 r.d.t)).setCell ⟨wr.heap.size, 3, none⟩ (.int .i64 r.d.n)).setCell ⟨wr.heap.size, 4, none⟩ (.int .i64 r.d.e)).setCell ⟨wr.heap.size, 5, none⟩ (.int .i64 r.d.s)).setCell ⟨wr.heap.size, 6, none⟩ (.int .i64 r.d.w)).setCell ⟨wr.heap.size, 7, none⟩ (.int .i64 r.d.b))) (w.heap.size + 1 + 1) rs ∧ (((((((((w2.setCell ⟨wr.heap.size, 0, none⟩ (.int .i64 r.x)).setCell ⟨wr.heap.size, 1, none⟩ (.int .i64 r.y)).setCell ⟨wr.heap.size, 2, none⟩ (.int .i64 r.d.t)).setCell ⟨wr.heap.size, 3, none⟩ (.int .i64 r.d.n)).setCell ⟨wr.heap.size, 4, none⟩ (.int .i64 r.d.e)).setCell ⟨wr.heap.size, 5, none⟩ (.int .i64 r.d.s)).setCell ⟨wr.heap.size, 6, none⟩ (.int .i64 r.d.w)).setCell ⟨wr.heap.size, 7, none⟩ (.int .i64 r.d.b))).ownsRow B 5 1 (.slice (some ⟨B, 0, none⟩) n 4) m xs ∧ Below w.heap.size w (((((((((w2.setCell ⟨wr.heap.size, 0, none⟩ (.int .i64 r.x)).setCell ⟨wr.heap.size, 1, none⟩ (.int .i64 r.y)).setCell ⟨wr.heap.size, 2, none⟩ (.int .i64 r.d.t)).setCell ⟨wr.heap.size, 3, none⟩ (.int .i64 r.d.n)).setCell ⟨wr.heap.size, 4, none⟩ (.int .i64 r.d.e)).setCell ⟨wr.heap.size, 5, none⟩ (.int .i64 r.d.s)).setCell ⟨wr.heap.size, 6, none⟩ (.int .i64 r.d.w)).setCell ⟨wr.heap.size, 7, none⟩ (.int .i64 r.d.b))) := by
  have q2 : Below w.heap.size w w2 := below_to hb (q.alloc q.size _) (by have := q.size; simp; omega) rfl rfl rfl rfl
  have hb8 : Below wr.heap.size wr (((((((((w2.setCell ⟨wr.heap.size, 0, none⟩ (.int .i64 r.x)).setCell ⟨wr.heap.size, 1, none⟩ (.int .i64 r.y)).setCell ⟨wr.heap.size, 2, none⟩ (.int .i64 r.d.t)).setCell ⟨wr.heap.size, 3, none⟩ (.int .i64 r.d.n)).setCell ⟨wr.heap.size, 4, none⟩ (.int .i64 r.d.e)).setCell ⟨wr.heap.size, 5, none⟩ (.int .i64 r.d.s)).setCell ⟨wr.heap.size, 6, none⟩ (.int .i64 r.d.w)).setCell ⟨wr.heap.size, 7, none⟩ (.int .i64 r.d.b))) := below_set8 (below_to hb ((Below.refl wr.heap.size wr).alloc (Nat.le_refl _) (.cells #[.int .i64 0, .int .i64 0, .int .i64 0, .int .i64 0, .int .i64 0, .int .i64 0, .int .i64 0, .int .i64 0] 30)) (by simp) rfl rfl rfl rfl) (Nat.le_refl _) r
  exact ⟨N.set8 r, isS_to hb8 u rfl, rowsAt_to hb8 R rfl, own_to hb8 O rfl, below_set8 q2 q.size r⟩
theorem can_cutB {w wr w2 : World} {B n m : Nat} {t r : St} {rs : List ByteArray} {xs : List Value} (u : IsS wr w.heap.size t 30) (R : RowsAt wr (w.heap.size + 1 + 1) rs) (O : wr.ownsRow B 5 1 (.slice (some ⟨B, 0, none⟩) n 4) m xs) (q : Below w.heap.size w wr)
    (hb : Below wr.drew.heap.size wr.drew w2) : IsS (w2.alloc (.cells #[.int .i64 r.x, .int .i64 r.y, .int .i64 r.d.t, .int .i64 r.d.n, .int .i64 r.d.e, .int .i64 r.d.s, .int .i64 r.d.w, .int .i64 r.d.b] 30)) w2.heap.size r 30 ∧ IsS (w2.alloc (.cells #[.int .i64 r.x, .int .i64 r.y, .int .i64 r.d.t, .int .i64 r.d.n, .int .i64 r.d.e, .int .i64 r.d.s, .int .i64 r.d.w, .int .i64 r.d.b] 30)) w.heap.size t 30 ∧ RowsAt (w2.alloc (.cells #[.int .i64 r.x, .int .i64 r.y, .int .i64 r.d.t, .int .i64 r.d.n, .int .i64 r.d.e, .int .i64 r.d.s, .int .i64 r.d.w, .int .i64 r.d.b] 30)) (w.heap.size + 1 + 1) rs ∧ (w2.alloc (.cells #[.int .i64 r.x, .int .i64 r.y, .int .i64 r.d.t, .int .i64 r.d.n, .int .i64 r.d.e, .int .i64 r.d.s, .int .i64 r.d.w, .int .i64 r.d.b] 30)).ownsRow B 5 1 (.slice (some ⟨B, 0, none⟩) n 4) m xs ∧ Below w.heap.size w (w2.alloc (.cells #[.int .i64 r.x, .int .i64 r.y, .int .i64 r.d.t, .int .i64 r.d.n, .int .i64 r.d.e, .int .i64 r.d.s, .int .i64 r.d.w, .int .i64 r.d.b] 30)) := by
  have q2 : Below w.heap.size w w2 := below_to hb q q.size rfl rfl rfl rfl
  exact ⟨IsS.new, (isS_to hb u rfl).alloc _, rowsAt_to ((Below.refl _ _).alloc (Nat.le_refl _) _) (rowsAt_to hb R rfl) rfl, (own_to hb O rfl).alloc _, q2.alloc q2.size _⟩

end Go.Proofs.YtckajjocpheakaaDoor
