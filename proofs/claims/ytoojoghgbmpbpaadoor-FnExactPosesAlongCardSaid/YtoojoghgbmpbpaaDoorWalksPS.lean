/- The walk of the law of PosesAlong. -/
import Derived.Test.YtoojoghgbmpbpaaDoorWalksRB
import Derived.Test.YtoojoghgbmpbpaaDoorWalksTB
import Derived.Laws.OwnMore
namespace Go.Proofs.YtoojoghgbmpbpaaDoor
set_option maxRecDepth 100000
set_option linter.all false
open Go.RowKit
attribute [local go_sem ↓] Go.wp_at_zero Go.wp_at_succ

/-- The letter of the pose behind k rolls. -/
def psC (b : Bx) (L : List UInt8) (k : Nat) : UInt8 := if (atX b L k).p = 0 then 117 else if (atX b L k).p = 1 then 101 else 115
def psL (b : Bx) (L : List UInt8) (n : Nat) : List UInt8 := (List.range n).map (psC b L)
theorem psL_zero (b : Bx) (L : List UInt8) : psL b L 0 = [] := rfl
theorem psL_succ (b : Bx) (L : List UInt8) (n : Nat) : psL b L (n + 1) = psL b L n ++ [psC b L n] := by
  unfold psL
  rw [List.range_succ, List.map_append]
  rfl
theorem psL_len (b : Bx) (L : List UInt8) (n : Nat) : (psL b L n).length = n := by simp [psL]
def psV (l : List UInt8) (b : Bx) (L : List UInt8) : ByteArray := if rbaOk l b L = true then ⟨(psL b L (L.length + 1)).toArray⟩ else ⟨#[]⟩
theorem way_pose {l : List UInt8} {b : Bx} {L : List UInt8} (h : rbaOk l b L = true) {j : Nat} (hj : j ≤ L.length) : (atX b L j).p = 0 ∨ (atX b L j).p = 1 ∨ (atX b L j).p = 2 := by
  unfold rbaOk askX at h
  simp only [Bool.and_eq_true] at h
  obtain ⟨⟨⟨h1, h2⟩, h3⟩, h4⟩ := h
  have hg : goodX (splitP l) (atX b L j) = true := by
    cases j with
    | zero => exact h2
    | succ j =>
      unfold goesX at h4
      rw [List.all_eq_true] at h4
      exact h4 j (List.mem_range.2 (by omega))
  have := good_facts h1 hg
  omega
/-- A row of bytes of which the first are written. -/
def rowU (made : List Value) (f : Nat → UInt8) (k : Nat) : List Value := ((List.range k).map fun i => Value.int .u8 ((f i).toNat : Int)) ++ made.drop k
theorem rowU_zero (made : List Value) (f : Nat → UInt8) : rowU made f 0 = made := by simp [rowU]
theorem rowU_set (made : List Value) (f : Nat → UInt8) (k : Nat) (h : k < made.length) : (rowU made f k).set k (.int .u8 ((f k).toNat : Int)) = rowU made f (k + 1) := by
  unfold rowU
  rw [List.set_append_right k _ (by simp), List.length_map, List.length_range, Nat.sub_self, List.drop_eq_getElem_cons h, List.range_succ, List.map_append, List.append_assoc]
  rfl
theorem rowU_done (made : List Value) (b : Bx) (L : List UInt8) (n : Nat) (h : made.length = n) : rowU made (psC b L) n = bytesV (psL b L n) := by
  unfold rowU bytesV psL
  rw [List.drop_of_length_le (by omega), List.append_nil, List.map_map]
  rfl

theorem ownsRow_setCell_above {w : World} {B : Nat} {e : TypeId} {z : Nat} {g n cap : Nat} {xs : List Value} (h : w.ownsRow B e z (.slice (some ⟨g, 0, none⟩) n cap) n xs) {a : Addr} (ha : g < a.block) (u : Value) : (w.setCell a u).ownsRow B e z (.slice (some ⟨g, 0, none⟩) n cap) n xs := by
  obtain ⟨hl, h2⟩ := h
  rcases h2 with ⟨h0, _⟩ | ⟨g', cap', cur, hv, hb, hg, hn, hm, hs, ht⟩
  · cases h0
  · injection hv with h1 h3 h4
    injection h1 with h1
    injection h1 with h1
    subst h1
    subst h4
    exact ⟨hl, .inr ⟨g, cap, cur, rfl, hb, (Below.heap_setCell w a u g (by omega)).trans hg, hn, hm, hs, ht⟩⟩
set_option maxHeartbeats 1600000 in
theorem implPS_any (s : ByteArray) (b : Bx) (v : ByteArray) (w : World) (hs : s.size ≤ 1048576) (hv : v.size ≤ maxLen) (hg : Glob w) : Calls Tryd.prog 26 #[.string s, Bx.v b, .string v] w fun e w' => e = .returned (.tuple #[.string (psV s.data.toList b v.data.toList), .bool (rbaOk s.data.toList b v.data.toList)]) ∧ Below w.heap.size w w' := by
  obtain ⟨i0, hi, hz0, hz1, hz2⟩ := info_parts info_byte
  have HI := hide hi
  have HZ0 := hide hz0
  have HZ1 := hide hz1
  have HZ2 := hide hz2
  clear hi hz0 hz1 hz2
  have HV := hide (show psV s.data.toList b v.data.toList = if rbaOk s.data.toList b v.data.toList = true then ⟨(psL b v.data.toList (v.data.toList.length + 1)).toArray⟩ else ⟨#[]⟩ from rfl)
  have HVL := hide (show v.data.toList.length = v.size by simp)
  have HSM := hide (fun h => word_small (l := s.data.toList) (b := b) (v := v) h)
  have HWP := hide (fun h j hj => way_pose (l := s.data.toList) (b := b) (L := v.data.toList) h (j := j) hj)
  obtain ⟨r, hr⟩ : ∃ r, r = psV s.data.toList b v.data.toList := ⟨_, rfl⟩
  obtain ⟨ok, hok⟩ : ∃ ok, ok = rbaOk s.data.toList b v.data.toList := ⟨_, rfl⟩
  rw [← hr, ← hok] at HV ⊢
  have HOK := hide hok
  clear hr hok
  have q0 : Below w.heap.size w (w.alloc (.cells #[.int .i64 b.x, .int .i64 b.y, .int .i64 b.p] 27)) := by go_grown
  have HGL := hide (show Glob (w.alloc (.cells #[.int .i64 b.x, .int .i64 b.y, .int .i64 b.p] 27)) from glob_to (w0 := w) q0 hg rfl)
  clear hg
  go_enter Tryd.func26, Tryd.ntmps26
  go_wp2_with fail
  generalize w.alloc (.cells #[.int .i64 b.x, .int .i64 b.y, .int .i64 b.p] 27) = W0 at q0 HGL ⊢
  refine (boxesAlong_any s b v _ hs hv HGL.out).mono ?_
  rintro e w1 (⟨h, g, cap, rfl, O, hb1⟩ | ⟨h, rfl, hb1⟩)
  · have hlen := HSM.out h
    have hov : ok = true := HOK.out.trans h
    subst hov
    have HP := hide (HWP.out h)
    have hrv : r = ⟨(psL b v.data.toList (v.size + 1)).toArray⟩ := by rw [HV.out, if_pos rfl, HVL.out]
    rw [HVL.out] at O HP ⊢
    have HR := hide hrv
    have q1 := below_to hb1 q0 q0.size rfl rfl rfl rfl
    have hO := O.lt g rfl
    clear hb1 q0 hrv h HV HSM HOK HWP HGL
    obtain ⟨n, hn⟩ : ∃ n, n = v.size + 1 := ⟨_, rfl⟩
    rw [← hn] at O ⊢
    have hn61 : n ≤ 61 := by omega
    have HN := hide hn
    clear hn
    have HO := hide O
    clear O
    go_wp2_with (at_make; refine wpList_make_full _ rfl _ _ 42 rfl w1.heap.size 5 i0 (.int .u8 0) 1 Tryd.underlying42 HI.out HZ0.out HZ1.out .i64 .i64 _ _ n rfl rfl (by omega) (by omega) (by rw [HZ2.out]; omega) (by unfold maxLen; omega) (Nat.le_refl _) ?_; intro wb T0 hgr0)
    have O1 := HO.out.kept hgr0 (.inr (by simp [Value.ownBlock]))
    have qb : Below w.heap.size w wb := q1.grown hgr0 q1.size (fun k hk => by cases hk)
    generalize (madeCells (Value.int IntKind.u8 0).cells (n * 1)).toList = made at T0
    have hml : made.length = n := by have := T0.1; omega
    obtain ⟨g1, hg1⟩ : ∃ g1, g1 = w1.heap.size := ⟨_, rfl⟩
    have hga : g < g1 := by omega
    have hge : w.heap.size ≤ g1 := by have := q1.size; omega
    rw [← hg1] at T0 ⊢
    clear hg1 HO hgr0 q1
    have HST := hide (And.intro T0 (And.intro O1 qb))
    clear T0 O1 qb
    go_wp2
    go_loopw [25, 11, 12] (fun ki _ _ wr => ∃ k : Nat, k ≤ n ∧ ki = .int .i64 (k : Int) ∧ wr.ownsRow g1 5 1 (.slice (some ⟨g1, 0, none⟩) n n) n (rowU made (psC b v.data.toList) k) ∧ wr.ownsRow W0.heap.size 27 3 (.slice (some ⟨g, 0, none⟩) n cap) n (cellsX (waysX b v.data.toList v.size)) ∧ Below w.heap.size w wr) (fun ki _ _ _ => n - (intOf ki).toNat)
    case atStart => exact ⟨0, Nat.zero_le _, rfl, by rw [rowU_zero]; exact HST.out.1, HST.out.2.1, HST.out.2.2⟩
    case round =>
      clear HST
      obtain ⟨k, hk, rfl, T, O, q⟩ := hrel
      by_cases hlt : k < n
      · have hki : (k : Int) < (n : Int) := by omega
        have hkv : k ≤ v.size := by have := HN.out; omega
        obtain ⟨y0, y1, y2⟩ := rowX_cells O (waysX_get b v.data.toList v.size k hkv)
        have HF := hide (show psC b v.data.toList k = if (atX b v.data.toList k).p = 0 then 117 else if (atX b v.data.toList k).p = 1 then 101 else 115 from rfl)
        have hp := HP.out k hkv
        have hfz := own_freeT T k
        have hc0 := T.cellAt k (by omega)
        have hlT := T.1
        obtain ⟨u0, hu0⟩ : ∃ u0, (rowU made (psC b v.data.toList) k)[k]? = some u0 := ⟨_, List.getElem?_eq_getElem (by omega)⟩
        rw [hu0] at hc0
        clear hu0 hlT
        have hgt := (T.lt g1 rfl).2
        have hkm : k < made.length := by omega
        have hS := rowU_set made (psC b v.data.toList) k hkm
        generalize psC b v.data.toList k = ck at HF hS
        generalize atX b v.data.toList k = t at y0 y1 y2 HF hp
        obtain ⟨tx, ty, tp⟩ := t
        simp only at y0 y1 y2 hp
        have HS := hide hS
        have HT := hide T
        have HO := hide O
        clear hS T O
        rcases hp with rfl | rfl | rfl
        · have hck : ck = 117 := by rw [HF.out]; rfl
          subst hck
          have qs : Below w.heap.size w (wr.setCell ⟨g1, k, none⟩ (.int .u8 117)) := q.setCell (by show w.heap.size ≤ g1; omega) _
          go_wp2
          go_roundw
          case rel => exact ⟨k + 1, by omega, by go_num, by rw [← HS.out]; exact (own_putT HT.out k (by omega) _).alloc _, (ownsRow_setCell_above HO.out (by show g < g1; omega) _).alloc _, qs.alloc qs.size _⟩
          case measure => simp [intOf] <;> omega
        · have hck : ck = 101 := by rw [HF.out]; rfl
          subst hck
          have qs : Below w.heap.size w (wr.setCell ⟨g1, k, none⟩ (.int .u8 101)) := q.setCell (by show w.heap.size ≤ g1; omega) _
          go_wp2
          go_roundw
          case rel => exact ⟨k + 1, by omega, by go_num, by rw [← HS.out]; exact (own_putT HT.out k (by omega) _).alloc _, (ownsRow_setCell_above HO.out (by show g < g1; omega) _).alloc _, qs.alloc qs.size _⟩
          case measure => simp [intOf] <;> omega
        · have hck : ck = 115 := by rw [HF.out]; rfl
          subst hck
          have qs : Below w.heap.size w (wr.setCell ⟨g1, k, none⟩ (.int .u8 115)) := q.setCell (by show w.heap.size ≤ g1; omega) _
          go_wp2
          go_roundw
          case rel => exact ⟨k + 1, by omega, by go_num, by rw [← HS.out]; exact (own_putT HT.out k (by omega) _).alloc _, (ownsRow_setCell_above HO.out (by show g < g1; omega) _).alloc _, qs.alloc qs.size _⟩
          case measure => simp [intOf] <;> omega
      · obtain rfl : k = n := by omega
        rw [rowU_done made b v.data.toList k hml] at T
        have hcv := bytes_backT T (psL_len b v.data.toList k)
        have hv2 := HN.out
        have HR2 := hide (show r = ⟨(psL b v.data.toList k).toArray⟩ from by rw [HR.out, ← hv2])
        clear T O hv2 HR HN
        go_wp2
        go_returns
        exact ⟨by rw [HR2.out]; rfl, q⟩
  · have hov : ok = false := HOK.out.trans h
    subst hov
    have hrv : r = ⟨#[]⟩ := by rw [HV.out]; rfl
    subst hrv
    have q1 := below_to hb1 q0 q0.size rfl rfl rfl rfl
    clear hb1 q0 h HV HSM HOK HGL HWP
    go_wp2_with (at_make; refine wpList_make_full _ rfl _ _ 42 rfl w1.heap.size 5 i0 (.int .u8 0) 1 Tryd.underlying42 HI.out HZ0.out HZ1.out .i64 .i64 _ _ 0 rfl rfl (by omega) (by omega) (by rw [HZ2.out]; omega) (by unfold maxLen; omega) (Nat.le_refl _) ?_; intro wb T0 hgr0)
    have qb : Below w.heap.size w wb := q1.grown hgr0 q1.size (fun k hk => by cases hk)
    have T1 : wb.ownsRow w1.heap.size 5 1 (.slice (some ⟨w1.heap.size, 0, none⟩) 0 0) 0 (bytesV []) := by
      have hl := T0.1
      generalize (madeCells (Value.int IntKind.u8 0).cells (0 * 1)).toList = made at T0 hl
      have : made = [] := List.eq_nil_of_length_eq_zero (by omega)
      subst this
      exact T0
    have hcv := bytes_backT T1 rfl
    clear hgr0 q1 T0 T1
    go_wp2
    go_rounds 1
    all_goals
      go_returns
      exact ⟨rfl, qb⟩

set_option maxHeartbeats 1600000 in
theorem specPS_any (s : ByteArray) (b : Bx) (v : ByteArray) (w : World) (hs : s.size ≤ 1048576) (hv : v.size ≤ maxLen) : Calls Tryd.prog 25 #[.string s, Bx.v b, .string v] w fun e w' => e = .returned (.tuple #[.string (psV s.data.toList b v.data.toList), .bool (rbaOk s.data.toList b v.data.toList)]) ∧ Below w.heap.size w w' := by
  have HV := hide (show psV s.data.toList b v.data.toList = if rbaOk s.data.toList b v.data.toList = true then ⟨(psL b v.data.toList (v.data.toList.length + 1)).toArray⟩ else ⟨#[]⟩ from rfl)
  have HVL := hide (show v.data.toList.length = v.size by simp)
  have HSM := hide (fun h => word_small (l := s.data.toList) (b := b) (v := v) h)
  have HWP := hide (fun h j hj => way_pose (l := s.data.toList) (b := b) (L := v.data.toList) h (j := j) hj)
  obtain ⟨r, hr⟩ : ∃ r, r = psV s.data.toList b v.data.toList := ⟨_, rfl⟩
  obtain ⟨ok, hok⟩ : ∃ ok, ok = rbaOk s.data.toList b v.data.toList := ⟨_, rfl⟩
  rw [← hr, ← hok] at HV ⊢
  have HOK := hide hok
  clear hr hok
  have q0 : Below w.heap.size w (w.alloc (.cells #[.int .i64 b.x, .int .i64 b.y, .int .i64 b.p] 27)) := by go_grown
  go_enter Tryd.func25, Tryd.ntmps25
  go_wp2_with fail
  generalize w.alloc (.cells #[.int .i64 b.x, .int .i64 b.y, .int .i64 b.p] 27) = W0 at q0 ⊢
  refine (bxAlong_any s b v _ hs hv).mono ?_
  rintro e w1 (⟨h, g, cap, rfl, O, hb1⟩ | ⟨h, rfl, hb1⟩)
  · have hlen := HSM.out h
    have hov : ok = true := HOK.out.trans h
    subst hov
    have HP := hide (HWP.out h)
    have hrv : r = ⟨(psL b v.data.toList (v.size + 1)).toArray⟩ := by rw [HV.out, if_pos rfl, HVL.out]
    rw [HVL.out] at O HP ⊢
    have HR := hide hrv
    have q1 := below_to hb1 q0 q0.size rfl rfl rfl rfl
    clear hb1 q0 hrv h HV HSM HOK HWP
    obtain ⟨n, hn⟩ : ∃ n, n = v.size + 1 := ⟨_, rfl⟩
    rw [← hn] at O ⊢
    have hn61 : n ≤ 61 := by omega
    have HN := hide hn
    clear hn
    have HST := hide (And.intro O q1)
    clear O q1
    go_wp2
    go_loopw [24, 10, 12] (fun ki ov _ wr => ∃ k : Nat, k ≤ n ∧ ki = .int .i64 (k : Int) ∧ ov = .string ⟨(psL b v.data.toList k).toArray⟩ ∧ wr.ownsRow W0.heap.size 27 3 (.slice (some ⟨g, 0, none⟩) n cap) n (cellsX (waysX b v.data.toList v.size)) ∧ Below w.heap.size w wr) (fun ki _ _ _ => n - (intOf ki).toNat)
    case atStart => exact ⟨0, Nat.zero_le _, rfl, rfl, HST.out.1, HST.out.2⟩
    case round =>
      clear HST
      obtain ⟨k, hk, rfl, rfl, O, q⟩ := hrel
      by_cases hlt : k < n
      · have hki : (k : Int) < (n : Int) := by omega
        have hkv : k ≤ v.size := by have := HN.out; omega
        obtain ⟨y0, y1, y2⟩ := rowX_cells O (waysX_get b v.data.toList v.size k hkv)
        have HF := hide (show psC b v.data.toList k = if (atX b v.data.toList k).p = 0 then 117 else if (atX b v.data.toList k).p = 1 then 101 else 115 from rfl)
        have hp := HP.out k hkv
        have hS := psL_succ b v.data.toList k
        generalize psC b v.data.toList k = ck at HF hS
        generalize atX b v.data.toList k = t at y0 y1 y2 HF hp
        obtain ⟨tx, ty, tp⟩ := t
        simp only at y0 y1 y2 hp
        have HS := hide hS
        have HO := hide O
        clear hS O
        have hsm : (psL b v.data.toList k).length ≤ 61 := by rw [psL_len]; omega
        generalize psL b v.data.toList k = P at HS hsm ⊢
        rcases hp with rfl | rfl | rfl
        · have hck : ck = 117 := by rw [HF.out]; rfl
          subst hck
          have HX := hide (show (⟨P.toArray⟩ : ByteArray) ++ (({ data := #[117, 101, 115] } : ByteArray).extract 0 1) = ⟨(P ++ [117]).toArray⟩ from by
            rw [show (({ data := #[117, 101, 115] } : ByteArray).extract 0 1) = ⟨#[117]⟩ from by decide +kernel]
            exact str_snoc P 117)
          go_wp2
          go_roundw
          case rel => exact ⟨k + 1, by omega, by go_num, by rw [HS.out, ← HX.out], HO.out.alloc _, q.alloc q.size _⟩
          case measure => simp [intOf] <;> omega
        · have hck : ck = 101 := by rw [HF.out]; rfl
          subst hck
          have HX := hide (show (⟨P.toArray⟩ : ByteArray) ++ (({ data := #[117, 101, 115] } : ByteArray).extract 1 2) = ⟨(P ++ [101]).toArray⟩ from by
            rw [show (({ data := #[117, 101, 115] } : ByteArray).extract 1 2) = ⟨#[101]⟩ from by decide +kernel]
            exact str_snoc P 101)
          go_wp2
          go_roundw
          case rel => exact ⟨k + 1, by omega, by go_num, by rw [HS.out, ← HX.out], HO.out.alloc _, q.alloc q.size _⟩
          case measure => simp [intOf] <;> omega
        · have hck : ck = 115 := by rw [HF.out]; rfl
          subst hck
          have HX := hide (show (⟨P.toArray⟩ : ByteArray) ++ (({ data := #[117, 101, 115] } : ByteArray).extract 2 3) = ⟨(P ++ [115]).toArray⟩ from by
            rw [show (({ data := #[117, 101, 115] } : ByteArray).extract 2 3) = ⟨#[115]⟩ from by decide +kernel]
            exact str_snoc P 115)
          go_wp2
          go_roundw
          case rel => exact ⟨k + 1, by omega, by go_num, by rw [HS.out, ← HX.out], HO.out.alloc _, q.alloc q.size _⟩
          case measure => simp [intOf] <;> omega
      · obtain rfl : k = n := by omega
        have hv2 := HN.out
        have HR2 := hide (show r = ⟨(psL b v.data.toList k).toArray⟩ from by rw [HR.out, ← hv2])
        clear O hv2 HR HN
        go_wp2
        go_returns
        exact ⟨by rw [HR2.out]; rfl, q⟩
  · have hov : ok = false := HOK.out.trans h
    subst hov
    have hrv : r = ⟨#[]⟩ := by rw [HV.out]; rfl
    subst hrv
    have q1 := below_to hb1 q0 q0.size rfl rfl rfl rfl
    clear hb1 q0 h HV HSM HOK HWP
    go_wp2
    go_returns
    exact ⟨rfl, q1⟩
set_option maxHeartbeats 1600000 in
theorem walk_PosesAlong (v0 : ByteArray) (hv0 : v0.size ≤ maxLen) (x1 : Bx) (v2 : ByteArray) (hv2 : v2.size ≤ maxLen) (w : World) (hg : Glob w) : Calls Tryd.prog 8 #[.string v0, Bx.v x1, .string v2] w fun e w' => e = .returned (.bool true) ∧ Below w.heap.size w w' := by
  have q0 : Below w.heap.size w (w.alloc (.cells #[.int .i64 x1.x, .int .i64 x1.y, .int .i64 x1.p] 24)) := by go_grown
  have HGL := hide (show Glob (w.alloc (.cells #[.int .i64 x1.x, .int .i64 x1.y, .int .i64 x1.p] 24)) from glob_to (w0 := w) q0 hg rfl)
  clear hg
  by_cases h0 : v0.size ≤ 1048576
  · have HS0 := hide h0
    by_cases h2 : v2.size ≤ 1048576
    · have HS2 := hide h2
      obtain ⟨z0, hz0⟩ : ∃ z, z = psV v0.data.toList x1 v2.data.toList := ⟨_, rfl⟩
      have HZ0 := hide hz0
      clear hz0
      have e0 : (z0.toList != z0.toList) = false := by simp
      obtain ⟨z1, hz1⟩ : ∃ z, z = rbaOk v0.data.toList x1 v2.data.toList := ⟨_, rfl⟩
      have HZ1 := hide hz1
      clear hz1
      have e1 : (z1 != z1) = false := by simp
      go_enter Tryd.func8, Tryd.ntmps8
      go_wp2_with fail
      have X1 : IsX (w.alloc (.cells #[.int .i64 x1.x, .int .i64 x1.y, .int .i64 x1.p] 24)) w.heap.size x1 24 := (IsX.new)
      generalize (w.alloc (.cells #[.int .i64 x1.x, .int .i64 x1.y, .int .i64 x1.p] 24)) = W0 at q0 HGL X1 ⊢
      obtain ⟨l_1, ⟨c_1, d_1, f_1⟩, -⟩ := X1.all
      go_wp2_with fail
      refine (toBox_any x1 _).mono ?_
      rintro e w2 ⟨rfl, hb2⟩
      have Y_x1_2 := isX_to hb2 X1 rfl
      have qb_2 := below_to hb2 q0 q0.size rfl rfl rfl rfl
      have Gb_2 := hide (glob_to hb2 HGL.out rfl)
      clear hb2
      clear l_1 c_1 d_1 f_1
      obtain ⟨l_3, ⟨c_3, d_3, f_3⟩, -⟩ := Y_x1_2.all
      go_wp2_with fail
      refine (specPS_any v0 x1 v2 _ HS0.out hv2).mono ?_
      rintro e w4 ⟨rfl, hb4⟩
      have Y_x1_4 := isX_to hb4 Y_x1_2 rfl
      have qb_4 := below_to hb4 qb_2 qb_2.size rfl rfl rfl rfl
      have Gb_4 := hide (glob_to hb4 Gb_2.out rfl)
      clear hb4
      clear l_3 c_3 d_3 f_3
      obtain ⟨l_5, ⟨c_5, d_5, f_5⟩, -⟩ := Y_x1_4.all
      rw [← HZ0.out, ← HZ1.out]
      go_wp2_with fail
      refine (toBox_any x1 _).mono ?_
      rintro e w6 ⟨rfl, hb6⟩
      have Y_x1_6 := isX_to hb6 Y_x1_4 rfl
      have qb_6 := below_to hb6 qb_4 qb_4.size rfl rfl rfl rfl
      have Gb_6 := hide (glob_to hb6 Gb_4.out rfl)
      clear hb6
      clear l_5 c_5 d_5 f_5
      obtain ⟨l_7, ⟨c_7, d_7, f_7⟩, -⟩ := Y_x1_6.all
      go_wp2_with fail
      refine (implPS_any v0 x1 v2 _ HS0.out hv2 Gb_6.out).mono ?_
      rintro e w8 ⟨rfl, hb8⟩
      have Y_x1_8 := isX_to hb8 Y_x1_6 rfl
      have qb_8 := below_to hb8 qb_6 qb_6.size rfl rfl rfl rfl
      have Gb_8 := hide (glob_to hb8 Gb_6.out rfl)
      clear hb8
      clear l_7 c_7 d_7 f_7
      obtain ⟨l_9, ⟨c_9, d_9, f_9⟩, -⟩ := Y_x1_8.all
      rw [← HZ0.out, ← HZ1.out]
      go_wp2
      go_returns
      exact ⟨rfl, qb_8⟩
    · go_enter Tryd.func8, Tryd.ntmps8
      go_wp2
      go_returns
      exact ⟨rfl, by go_grown⟩
  · go_enter Tryd.func8, Tryd.ntmps8
    go_wp2
    go_returns
    exact ⟨rfl, by go_grown⟩
end Go.Proofs.YtoojoghgbmpbpaaDoor
