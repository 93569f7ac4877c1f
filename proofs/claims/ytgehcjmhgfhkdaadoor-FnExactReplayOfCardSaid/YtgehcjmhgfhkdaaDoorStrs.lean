/- Slices of strings in laws: eqStringS, markText, markStringS, heldStringS. -/
import Derived.Test.YtgehcjmhgfhkdaaDoorBase
import Derived.Test.YtgehcjmhgfhkdaaDoorOwnK
import Derived.Test.YtgehcjmhgfhkdaaDoorWords
import Derived.Test.YtgehcjmhgfhkdaaDoorInts
import Derived.Test.YtgehcjmhgfhkdaaDoorBuf
namespace Go.Proofs.YtgehcjmhgfhkdaaDoor
set_option maxRecDepth 100000
set_option linter.all false
open Go.RowKit

abbrev sV (l : List UInt8) : Value := .string ⟨l.toArray⟩
def strs (L : List (List UInt8)) : List Value := L.map sV
theorem strs_len (L : List (List UInt8)) : (strs L).length = L.length := by simp [strs]
theorem strs_snoc (L : List (List UInt8)) (x : List UInt8) : strs (L ++ [x]) = strs L ++ [sV x] := by simp [strs]
theorem strs_cell {w : World} {B g n cap : Nat} {L : List (List UInt8)} (h : w.ownsRow B 9 1 (.slice (some ⟨g, 0, none⟩) n cap) n (strs L)) (j : Nat) (x : List UInt8) (hx : L[j]? = some x) : w.cell? ⟨g, j, none⟩ = some (sV x) := by
  have hj := (List.getElem?_eq_some_iff.1 hx).1
  have hl := h.1
  rw [strs_len, Nat.mul_one] at hl
  rw [h.cellAt j (by omega)]
  unfold strs
  rw [List.getElem?_map, hx]
  rfl
theorem strs_set (L : List (List UInt8)) (j : Nat) (x : List UInt8) : (strs L).set j (sV x) = strs (L.set j x) := by
  unfold strs; rw [List.map_set]
/-- The digits of a number. -/
def dg (k : Nat) : List UInt8 := if h : k = 0 then [] else dg (k / 10) ++ [UInt8.ofNat (48 + k % 10)]
  termination_by k
  decreasing_by omega
theorem dg_zero : dg 0 = [] := by rw [dg]; rfl
theorem dg_pos {k : Nat} (h : 0 < k) : dg k = dg (k / 10) ++ [UInt8.ofNat (48 + k % 10)] := by rw [dg, dif_neg (by omega)]
theorem dg_len : ∀ (f k : Nat), k ≤ f → (dg k).length ≤ k
  | 0, k, h => by obtain rfl : k = 0 := by omega
                  rw [dg_zero]; exact Nat.le_refl _
  | f + 1, k, h => by
    by_cases h0 : k = 0
    · subst h0; rw [dg_zero]; exact Nat.le_refl _
    · have ih := dg_len f (k / 10) (by omega)
      rw [dg_pos (by omega), List.length_append, List.length_singleton]
      omega
def mtx (k : Nat) : List UInt8 := 109 :: dg k
/-- mtx k, mtx (k + 1), .. -/
def mtxs (k : Nat) (n : Nat) : List (List UInt8) := (List.range n).map (fun (j : Nat) => mtx (k + j))
theorem mtxs_len (k n : Nat) : (mtxs k n).length = n := by simp [mtxs]
theorem mtxs_get (k n j : Nat) (h : j < n) : (mtxs k n)[j]? = some (mtx (k + j)) := by
  unfold mtxs
  rw [List.getElem?_map, List.getElem?_range h]
  rfl
def markX (k : Nat) (L : List (List UInt8)) (j : Nat) : List (List UInt8) := mtxs k j ++ L.drop j
theorem markX_zero (k : Nat) (L : List (List UInt8)) : markX k L 0 = L := rfl
theorem markX_done (k : Nat) (L : List (List UInt8)) : markX k L L.length = mtxs k L.length := by simp [markX]
theorem markX_set (k : Nat) (L : List (List UInt8)) (j : Nat) (h : j < L.length) : (markX k L j).set j (mtx (k + j)) = markX k L (j + 1) := by
  unfold markX
  rw [List.set_append_right _ _ (by rw [mtxs_len]; exact Nat.le_refl _), mtxs_len, Nat.sub_self, List.drop_eq_getElem_cons h, List.set_cons_zero]
  unfold mtxs
  rw [List.range_succ, List.map_append]
  simp
theorem eqStrS_none (w : World) : Calls Tryd.prog 18 #[.slice none 0 0, .slice none 0 0] w fun e w' => e = .returned (.bool true) ∧ Below w.heap.size w w' := by
  go_enter Tryd.func18, Tryd.ntmps18
  go_wp2
  go_loop [5] (fun i => i = .int .i64 0) (fun _ => 0)
  case atStart => rfl
  case round =>
    obtain rfl := hrel
    go_wp2
    go_returns
    exact ⟨rfl, Below.refl _ _⟩
theorem eqStrS_noneL (g cap : Nat) (w : World) : Calls Tryd.prog 18 #[.slice none 0 0, .slice (some ⟨g, 0, none⟩) 0 cap] w fun e w' => e = .returned (.bool true) ∧ Below w.heap.size w w' := by
  go_enter Tryd.func18, Tryd.ntmps18
  go_wp2
  go_loop [5] (fun i => i = .int .i64 0) (fun _ => 0)
  case atStart => rfl
  case round =>
    obtain rfl := hrel
    go_wp2
    go_returns
    exact ⟨rfl, Below.refl _ _⟩
theorem eqStrS_noneR (g cap : Nat) (w : World) : Calls Tryd.prog 18 #[.slice (some ⟨g, 0, none⟩) 0 cap, .slice none 0 0] w fun e w' => e = .returned (.bool true) ∧ Below w.heap.size w w' := by
  go_enter Tryd.func18, Tryd.ntmps18
  go_wp2
  go_loop [5] (fun i => i = .int .i64 0) (fun _ => 0)
  case atStart => rfl
  case round =>
    obtain rfl := hrel
    go_wp2
    go_returns
    exact ⟨rfl, Below.refl _ _⟩
set_option maxHeartbeats 800000 in
theorem eqStrS_some (g cap h c2 n : Nat) (B B2 : Nat) (L : List (List UInt8)) (w : World) (hn : n ≤ 1000000000) (ha : w.ownsRow B 9 1 (.slice (some ⟨g, 0, none⟩) n cap) n (strs L)) (hb : w.ownsRow B2 9 1 (.slice (some ⟨h, 0, none⟩) n c2) n (strs L)) : Calls Tryd.prog 18 #[.slice (some ⟨g, 0, none⟩) n cap, .slice (some ⟨h, 0, none⟩) n c2] w fun e w' => e = .returned (.bool true) ∧ Below w.heap.size w w' := by
  have hl := ha.1
  rw [strs_len, Nat.mul_one] at hl
  have HA := hide ha
  have HB := hide hb
  have hm : n ≤ 9223372036000000000 := by omega
  clear ha hb hn
  go_enter Tryd.func18, Tryd.ntmps18
  go_wp2
  go_loopw [5] (fun i wr => ∃ k : Nat, k ≤ n ∧ i = .int .i64 (k : Int) ∧ wr.heap = w.heap ∧ Below w.heap.size w wr) (fun i _ => n - (intOf i).toNat)
  case atStart => exact ⟨0, Nat.zero_le _, rfl, rfl, Below.refl _ _⟩
  case round =>
    obtain ⟨k, hk, rfl, hh, q⟩ := hrel
    by_cases hlt : k < n
    · have hx : L[k]? = some (L[k]'(by omega)) := List.getElem?_eq_getElem (by omega)
      generalize L[k]'(by omega) = x at hx
      obtain ⟨y, hy⟩ : ∃ y : ByteArray, y = ⟨x.toArray⟩ := ⟨_, rfl⟩
      have c1 : wr.cell? ⟨g, k, none⟩ = some (.string y) := by rw [hy]; exact (World.cell?_of_block (by rw [hh])).trans (strs_cell HA.out k x hx)
      have c2 : wr.cell? ⟨h, k, none⟩ = some (.string y) := by rw [hy]; exact (World.cell?_of_block (by rw [hh])).trans (strs_cell HB.out k x hx)
      have hki : (k : Int) < (n : Int) := by omega
      have e1 : (y.toList != y.toList) = false := by simp
      clear hx hy
      go_upto_region 6 with (fail)
      go_region_held3 (fun w' => w'.cell? ⟨g, k, none⟩ = some (.string y) ∧ w'.cell? ⟨h, k, none⟩ = some (.string y)) (first | (refine ⟨?_, ?_⟩ <;> with_reducible assumption) | (refine ⟨?_, ?_⟩ <;> assumption)) (fail)
      go_wp2
      go_roundw
      case rel => exact ⟨k + 1, by omega, by go_num, hh, q.drew⟩
      case measure => simp [intOf] <;> omega
    · obtain rfl : k = n := by omega
      go_wp2
      go_returns
      exact ⟨rfl, q⟩
theorem eqStrS_any (va vb : Value) (n : Nat) (B B2 : Nat) (L : List (List UInt8)) (w : World) (hn : n ≤ 1000000000) (ha : w.ownsRow B 9 1 va n (strs L)) (hb : w.ownsRow B2 9 1 vb n (strs L)) : Calls Tryd.prog 18 #[va, vb] w fun e w' => e = .returned (.bool true) ∧ Below w.heap.size w w' := by
  rcases own_forms ha with ⟨rfl, rfl⟩ | ⟨g, cap, rfl, _, _⟩
  · rcases own_forms hb with ⟨rfl, _⟩ | ⟨g, cap, rfl, _, _⟩
    · exact eqStrS_none w
    · exact eqStrS_noneL g cap w
  · rcases own_forms hb with ⟨rfl, rfl⟩ | ⟨g2, cap2, rfl, _, _⟩
    · exact eqStrS_noneR g cap w
    · exact eqStrS_some g cap g2 cap2 n B B2 L w hn ha hb
theorem cons_str (c : UInt8) (t : List UInt8) : (⟨#[c]⟩ : ByteArray) ++ ⟨t.toArray⟩ = ⟨(c :: t).toArray⟩ := by
  apply ByteArray.ext
  simp
theorem one_out (w : World) (c : UInt8) : (convert 75 9 (.slice (some ⟨w.heap.size, 0, none⟩) 1 1)).run Tryd.prog (w.alloc (.cells #[.int .u8 (c.toNat : Int)] 5)) = .ok (.string ⟨#[c]⟩) (w.alloc (.cells #[.int .u8 (c.toNat : Int)] 5)) := by
  refine run_convert_bytes_back _ _ _ 5 _ 1 [c] Tryd.underlying75 Tryd.underlying5 Tryd.underlying9 (fun j hj => ?_)
  have h0 : j = 0 := by simpa using hj
  subst h0
  simp [Addr.add, World.cell?_alloc_mark]
set_option maxHeartbeats 1600000 in
theorem markText_any (k0 : Nat) (h1 : 1 ≤ k0) (hk : k0 ≤ 1000000) (w : World) : Calls Tryd.prog 44 #[.int .i64 (k0 : Int)] w fun e w' => e = .returned (sV (mtx k0)) ∧ Below w.heap.size w w' := by
  have hpos : (0 : Int) < (k0 : Int) := by omega
  go_enter Tryd.func44, Tryd.ntmps44
  go_wp2
  go_loopw [0, 3] (fun k o wr => ∃ (m : Nat) (t : List UInt8), k = .int .i64 (m : Int) ∧ o = .string ⟨t.toArray⟩ ∧ m ≤ k0 ∧ Hid (dg m ++ t = dg k0) ∧ Below w.heap.size w wr) (fun k _ _ => (intOf k).toNat)
  case atStart => exact ⟨k0, [], rfl, rfl, Nat.le_refl _, hide (by simp), Below.refl _ _⟩
  case round =>
    obtain ⟨m, t, rfl, rfl, hm, hd, q⟩ := hrel
    have htl : t.length ≤ 1000000 := by
      have h2 := congrArg List.length hd.out
      have h3 := dg_len k0 k0 (Nat.le_refl _)
      rw [List.length_append] at h2
      omega
    by_cases h0 : 0 < m
    · obtain ⟨c, hc⟩ : ∃ c, c = UInt8.ofNat (48 + m % 10) := ⟨_, rfl⟩
      have hD := hide (show dg (m / 10) ++ (c :: t) = dg k0 from by rw [← hd.out, dg_pos h0, ← hc]; simp)
      have hcn : (c.toNat : Int) = 48 + (m : Int) % 10 := by
        rw [hc, UInt8.toNat_ofNat']
        have : (48 + m % 10) % 256 = 48 + m % 10 := Nat.mod_eq_of_lt (by omega)
        omega
      have hm0 : (0 : Int) < (m : Int) := by omega
      have hmm : (m : Int) ≤ 1000000 := by omega
      have ht1 : Int.tmod (m : Int) 10 = (m : Int) % 10 := Int.tmod_eq_emod_of_nonneg (by omega)
      have ht2 : Int.tdiv (m : Int) 10 = ((m / 10 : Nat) : Int) := by rw [Int.tdiv_eq_ediv_of_nonneg (by omega)]; omega
      have w8 : IntKind.u8.wrap (48 + (m : Int) % 10) = (c.toNat : Int) := by rw [hcn]; simp [IntKind.wrap, IntKind.signed, IntKind.bits]; omega
      have hcv := one_out wr c
      have ha : ¬ 9223372036854775807 < 1 + t.length := by omega
      have ha2 : ¬ 9223372036854775807 < t.length + 1 := by omega
      have q2 := q.alloc q.size (.cells #[.int .u8 (c.toNat : Int)] 5)
      clear hc hd q hcn
      go_wp2
      go_roundw
      case rel => exact ⟨m / 10, c :: t, by go_num, congrArg Value.string (by apply ByteArray.ext; simp), by omega, hD, q2⟩
      case measure => simp [intOf] <;> omega
    · obtain rfl : m = 0 := by omega
      have HT := hide (show t = dg k0 from by rw [← hd.out, dg_zero]; rfl)
      have ha : ¬ 9223372036854775807 < 1 + t.length := by omega
      have ha2 : ¬ 9223372036854775807 < t.length + 1 := by omega
      clear hd
      go_wp2
      go_returns
      exact ⟨by unfold mtx; rw [← HT.out, ← cons_str]; rfl, q⟩
theorem markStrS_none (k : Int) (w : World) : Calls Tryd.prog 19 #[.slice none 0 0, .int .i64 k] w fun e w' => e = .returned (.int .i64 k) ∧ w = w' := by
  go_enter Tryd.func19, Tryd.ntmps19
  go_wp2
  go_loop [1, 5] (fun x i => x = .int .i64 k ∧ i = .int .i64 0) (fun _ _ => 0)
  case atStart => exact ⟨rfl, rfl⟩
  case round =>
    obtain ⟨rfl, rfl⟩ := hrel
    go_wp2
    go_returns
    exact ⟨rfl, rfl⟩
set_option maxHeartbeats 800000 in
theorem markStrS_some (g cap n : Nat) (B : Nat) (L : List (List UInt8)) (k0 : Nat) (w : World) (hn : n ≤ 100000) (hk0 : 1 ≤ k0 ∧ k0 ≤ 100000) (hB : B ≤ g) (ha : w.ownsRow B 9 1 (.slice (some ⟨g, 0, none⟩) n cap) n (strs L)) : Calls Tryd.prog 19 #[.slice (some ⟨g, 0, none⟩) n cap, .int .i64 (k0 : Int)] w fun e w' => e = .returned (.int .i64 ((k0 : Int) + (n : Int))) ∧ w'.ownsRow B 9 1 (.slice (some ⟨g, 0, none⟩) n cap) n (strs (mtxs k0 n)) ∧ Below B w w' := by
  have hl := ha.1
  rw [strs_len, Nat.mul_one] at hl
  have HA := hide ha
  clear ha
  go_enter Tryd.func19, Tryd.ntmps19
  go_wp2
  go_loopw [1, 5] (fun x i wr => ∃ k : Nat, k ≤ n ∧ i = .int .i64 (k : Int) ∧ x = .int .i64 ((k0 + k : Nat) : Int) ∧ wr.ownsRow B 9 1 (.slice (some ⟨g, 0, none⟩) n cap) n (strs (markX k0 L k)) ∧ Below B w wr) (fun _ i _ => n - (intOf i).toNat)
  case atStart => exact ⟨0, Nat.zero_le _, rfl, rfl, HA.out, Below.refl _ _⟩
  case round =>
    obtain ⟨k, hk, rfl, rfl, hown, q⟩ := hrel
    clear HA
    by_cases hlt : k < n
    · have HMT := hide (fun wx => markText_any (k0 + k) (by omega) (by omega) wx)
      have hki : (k : Int) < (n : Int) := by omega
      have hgl := (hown.lt g rfl).2
      have w1q : IntKind.i64.wrap (((k0 + k : Nat) : Int) + 1) = ((k0 + (k + 1) : Nat) : Int) := by
        rw [IntWalk.i64_in _ (by omega)]
        omega
      have HO := hide hown
      have HQ := hide q
      have HSX := hide (markX_set k0 L k (by omega))
      have hj : k < (markX k0 L k).length := by unfold markX; rw [List.length_append, mtxs_len, List.length_drop]; omega
      obtain ⟨x, hx⟩ : ∃ x, (markX k0 L k)[k]? = some x := ⟨_, List.getElem?_eq_getElem hj⟩
      obtain ⟨a, haa⟩ : ∃ a, a = k0 + k := ⟨_, rfl⟩
      rw [← haa] at HMT HSX w1q
      rw [← haa]
      obtain ⟨y, hy⟩ : ∃ y, y = mtx a := ⟨_, rfl⟩
      rw [← hy] at HMT HSX
      have hai : (a : Int) ≤ 1000000 := by omega
      have HX := hide hx
      clear hown q hj hx hy haa
      go_wp2_with (go_at_call 44; (refine (HMT.out _).mono ?_); rintro e w3 ⟨rfl, hb3⟩; have HO3 := hide (own_to hb3 HO.out rfl); have HQ3 := hide (HQ.out.trans (hb3.mono (by omega))); have c3 := strs_cell HO3.out k x HX.out; have f3 := own_free HO3.out k; clear hb3)
      have HO4 := hide (own_put HO3.out k (by omega) (sV y))
      rw [strs_set, HSX.out] at HO4
      have q4 := HQ3.out.setCell (p := ⟨g, k, none⟩) hB (sV y)
      go_roundw
      case rel => exact ⟨k + 1, by omega, by go_num, rfl, HO4.out, q4⟩
      case measure => simp [intOf] <;> omega
    · obtain rfl : k = n := by omega
      have HO := hide hown
      clear hown
      go_wp2
      go_returns
      refine ⟨by congr 2, ?_, q⟩
      have := HO.out
      subst hl
      rwa [markX_done k0 L] at this
theorem heldStrS_none (k : Int) (w : World) : Calls Tryd.prog 20 #[.slice none 0 0, .int .i64 k] w fun e w' => e = .returned (.int .i64 k) ∧ w = w' := by
  go_enter Tryd.func20, Tryd.ntmps20
  go_wp2
  go_loop [1, 5] (fun x i => x = .int .i64 k ∧ i = .int .i64 0) (fun _ _ => 0)
  case atStart => exact ⟨rfl, rfl⟩
  case round =>
    obtain ⟨rfl, rfl⟩ := hrel
    go_wp2
    go_returns
    exact ⟨rfl, rfl⟩
set_option maxHeartbeats 1600000 in
theorem heldStrS_some (g cap n : Nat) (B : Nat) (k0 : Nat) (w : World) (hn : n ≤ 100000) (hk0 : 1 ≤ k0 ∧ k0 ≤ 100000) (ha : w.ownsRow B 9 1 (.slice (some ⟨g, 0, none⟩) n cap) n (strs (mtxs k0 n))) : Calls Tryd.prog 20 #[.slice (some ⟨g, 0, none⟩) n cap, .int .i64 (k0 : Int)] w fun e w' => e = .returned (.int .i64 ((k0 : Int) + (n : Int))) ∧ Below w.heap.size w w' := by
  have HA := hide ha
  clear ha
  go_enter Tryd.func20, Tryd.ntmps20
  go_wp2
  go_loopw [1, 5] (fun x i wr => ∃ k : Nat, k ≤ n ∧ i = .int .i64 (k : Int) ∧ x = .int .i64 ((k0 + k : Nat) : Int) ∧ wr.ownsRow B 9 1 (.slice (some ⟨g, 0, none⟩) n cap) n (strs (mtxs k0 n)) ∧ Below w.heap.size w wr) (fun _ i _ => n - (intOf i).toNat)
  case atStart => exact ⟨0, Nat.zero_le _, rfl, rfl, HA.out, Below.refl _ _⟩
  case round =>
    obtain ⟨k, hk, rfl, rfl, hown, q⟩ := hrel
    clear HA
    by_cases hlt : k < n
    · have HMT := hide (fun wx => markText_any (k0 + k) (by omega) (by omega) wx)
      have hc := strs_cell hown k _ (mtxs_get k0 n k hlt)
      have hki : (k : Int) < (n : Int) := by omega
      have hgl := (hown.lt g rfl).2
      have w1q : IntKind.i64.wrap (((k0 + k : Nat) : Int) + 1) = ((k0 + (k + 1) : Nat) : Int) := by
        rw [IntWalk.i64_in _ (by omega)]
        omega
      have HO := hide hown
      have HQ := hide q
      obtain ⟨a, haa⟩ : ∃ a, a = k0 + k := ⟨_, rfl⟩
      rw [← haa] at HMT hc w1q
      rw [← haa]
      obtain ⟨y, hy⟩ : ∃ y : ByteArray, y = ⟨(mtx a).toArray⟩ := ⟨_, rfl⟩
      have hc' : wr.cell? ⟨g, k, none⟩ = some (.string y) := by rw [hy]; exact hc
      have HMT' := hide (show ∀ wx, Calls Tryd.prog 44 #[.int .i64 (a : Int)] wx fun e w' => e = .returned (.string y) ∧ Below wx.heap.size wx w' from by rw [hy]; exact HMT.out)
      have hai : (a : Int) ≤ 1000000 := by omega
      have e1 : (y.toList != y.toList) = false := by simp
      clear hown q hc HMT hy haa
      go_upto_region 4 with (fail)
      have hd' : wr.drew.cell? ⟨g, k, none⟩ = some (.string y) := hc'
      have hgd : g < wr.drew.heap.size := hgl
      have HOD := hide (show wr.drew.ownsRow B 9 1 (.slice (some ⟨g, 0, none⟩) n cap) n (strs (mtxs k0 n)) from HO.out)
      have HQD := hide (show Below w.heap.size w wr.drew from HQ.out.drew)
      go_region_held3 (fun w' => w'.cell? ⟨g, k, none⟩ = some (.string y)) (first | with_reducible assumption)
        (first | (go_at_call 44; (refine (HMT'.out _).mono ?_); rintro e w3 ⟨rfl, hb3⟩; have HO3 := hide (own_to hb3 HOD.out rfl); have HQ3 := hide (below_after HQD.out hb3 HQD.out.size); have c3 := (hb3.cell (p := ⟨g, k, none⟩) hgd).trans hd'; clear hb3))
      all_goals
        go_wp2
        go_roundw
        case rel => exact ⟨k + 1, by omega, by go_num, rfl, HO3.out, HQ3.out⟩
        case measure => simp [intOf] <;> omega
    · obtain rfl : k = n := by omega
      clear hown
      go_wp2
      go_returns
      exact ⟨by congr 2, q⟩
theorem markStrS_any (va : Value) (n : Nat) (B : Nat) (L : List (List UInt8)) (k0 : Nat) (w : World) (hn : n ≤ 100000) (hk0 : 1 ≤ k0 ∧ k0 ≤ 100000) (ha : w.ownsRow B 9 1 va n (strs L)) : Calls Tryd.prog 19 #[va, .int .i64 (k0 : Int)] w fun e w' => e = .returned (.int .i64 ((k0 : Int) + (n : Int))) ∧ w'.ownsRow B 9 1 va n (strs (mtxs k0 n)) ∧ Below B w w' := by
  rcases own_forms ha with ⟨rfl, rfl⟩ | ⟨g, cap, rfl, hB, _⟩
  · refine (markStrS_none k0 w).mono ?_
    rintro e w' ⟨rfl, rfl⟩
    exact ⟨by rw [show (k0 : Int) + ((0 : Nat) : Int) = k0 from by omega], World.ownsRow_nil _ _ _ _, Below.refl _ _⟩
  · exact markStrS_some g cap n B L k0 w hn hk0 hB ha
theorem heldStrS_any (va : Value) (n : Nat) (B : Nat) (k0 : Nat) (w : World) (hn : n ≤ 100000) (hk0 : 1 ≤ k0 ∧ k0 ≤ 100000) (ha : w.ownsRow B 9 1 va n (strs (mtxs k0 n))) : Calls Tryd.prog 20 #[va, .int .i64 (k0 : Int)] w fun e w' => e = .returned (.int .i64 ((k0 : Int) + (n : Int))) ∧ Below w.heap.size w w' := by
  rcases own_forms ha with ⟨rfl, rfl⟩ | ⟨g, cap, rfl, hB, _⟩
  · refine (heldStrS_none k0 w).mono ?_
    rintro e w' ⟨rfl, rfl⟩
    exact ⟨by rw [show (k0 : Int) + ((0 : Nat) : Int) = k0 from by omega], Below.refl _ _⟩
  · exact heldStrS_some g cap n B k0 w hn hk0 ha
end Go.Proofs.YtgehcjmhgfhkdaaDoor
