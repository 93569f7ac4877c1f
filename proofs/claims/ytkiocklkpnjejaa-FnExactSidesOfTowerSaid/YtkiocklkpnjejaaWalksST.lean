/- The walk of the law of SidesOfTower. -/
import Derived.Test.YtkiocklkpnjejaaSide
import Derived.Test.YtkiocklkpnjejaaStrs
import Derived.Test.YtkiocklkpnjejaaDieS
import Derived.StillTailTactics
namespace Go.Proofs.Ytkiocklkpnjejaa
set_option maxRecDepth 100000
set_option linter.all false
open Go.RowKit

def dgT (x : Int) : UInt8 := UInt8.ofNat (48 + x.toNat)
theorem dgT_nat {x : Int} (h0 : 0 ≤ x) (h9 : x ≤ 9) : ((dgT x).toNat : Int) = 48 + x := by
  unfold dgT
  rw [UInt8.toNat_ofNat']
  omega
theorem markStrS_one (va : Value) (n : Nat) (B : Nat) (L : List (List UInt8)) (w : World) (hn : n ≤ 100000) (ha : w.ownsRow B 9 1 va n (strs L)) : Calls Try.prog 30 #[va, .int .i64 1] w fun e w' => e = .returned (.int .i64 (1 + (n : Int))) ∧ w'.ownsRow B 9 1 va n (strs (mtxs 1 n)) ∧ Below B w w' := markStrS_any va n B L 1 w hn (by omega) ha
theorem heldStrS_one (va : Value) (n : Nat) (B : Nat) (w : World) (hn : n ≤ 100000) (ha : w.ownsRow B 9 1 va n (strs (mtxs 1 n))) : Calls Try.prog 31 #[va, .int .i64 1] w fun e w' => e = .returned (.int .i64 (1 + (n : Int))) ∧ Below w.heap.size w w' := heldStrS_any va n B 1 w hn (by omega) ha
theorem info_strST : (Try.prog.info? 9).map (fun i => (i.zero, i.size, i.bytes)) = some (some (.string ⟨#[]⟩), 1, 16) := by kernel_rfl
theorem own_slice {w : World} {B n : Nat} {u : Value} {xs : List Value} {e : TypeId} {z : Nat} (h : w.ownsRow B e z u n xs) : ∃ p c, u = .slice p n c := by
  rcases own_forms h with ⟨rfl, rfl⟩ | ⟨g, cap, rfl, _, _⟩
  · exact ⟨none, 0, rfl⟩
  · exact ⟨_, cap, rfl⟩
/-- The text of a side. -/
def txL (L : List D) (k : Nat) : List UInt8 := (sideL L k).map dgT
theorem txL_len (L : List D) (k : Nat) : (txL L k).length = L.length := by simp [txL, sideL]
theorem txL_snoc {L : List D} {m : Nat} {d : D} (k : Nat) (h : L[m]? = some d) : txL (L.take (m + 1)) k = txL (L.take m) k ++ [dgT (sdD k d)] := by
  rw [List.take_add_one, h]
  simp [txL, sideL]
/-- What SidesOfTower answers. -/
def stL (L : List D) : List (List UInt8) := if towB L = true then (List.range 4).map (txL L) else []
theorem stL_len (L : List D) : (stL L).length ≤ 100000 := by
  unfold stL
  split
  · simp
  · simp
def StPost (L : List D) (w : World) (e : Ending) (w' : World) : Prop := ∃ v, e = .returned (.tuple #[v, .bool (towB L)]) ∧ w'.ownsRow w.heap.size 9 1 v (stL L).length (strs (stL L)) ∧ Below w.heap.size w w'
set_option maxHeartbeats 400000 in
theorem l1Num_smallT (x : Int) (h0 : 0 ≤ x) (h9 : x ≤ 9) (w : World) : Calls Try.prog 66 #[.int .i64 x] w fun e w' => e = .returned (.string ⟨#[dgT x]⟩) ∧ Below w.heap.size w w' := by
  have hcv : (convert 107 9 (.slice (some ⟨w.heap.size, 0, none⟩) 1 1)).run Try.prog (w.alloc (.cells #[.int .u8 (48 + x)] 5)) = .ok (.string ⟨#[dgT x]⟩) (w.alloc (.cells #[.int .u8 (48 + x)] 5)) := by
    refine run_convert_bytes_back _ _ _ 5 _ 1 [dgT x] Try.underlying107 Try.underlying5 Try.underlying9 (fun j hj => ?_)
    have : j = 0 := by simp at hj; exact hj
    subst this
    rw [show ((⟨w.heap.size, 0, none⟩ : Addr).add 0) = ⟨w.heap.size, 0, none⟩ from rfl, World.cell?_alloc_mark]
    simp [dgT_nat h0 h9]
  have hlt : x < 10 := by omega
  go_enter Try.func66, Try.ntmps66
  go_wp2
  go_returns
  exact ⟨rfl, (Below.refl _ _).alloc (Nat.le_refl _) _⟩
theorem digitOf_any (x : Int) (h0 : 0 ≤ x) (h9 : x ≤ 9) (w : World) : Calls Try.prog 69 #[.int .i64 x] w fun e w' => e = .returned (.int .u8 (48 + x)) ∧ w = w' := by
  have hw : IntKind.u8.wrap x = x := by simp [IntKind.wrap, IntKind.signed, IntKind.bits]; omega
  have hw2 : IntKind.u8.wrap (48 + x) = 48 + x := by simp [IntKind.wrap, IntKind.signed, IntKind.bits]; omega
  go_enter Try.func69, Try.ntmps69
  go_wp2
  go_returns
  exact ⟨rfl, rfl⟩
theorem byte_str : ∀ n : Fin 10, ∀ wx : World, (convert 5 9 (.int .u8 (48 + (n.val : Int)))).run Try.prog wx = .ok (.string ⟨#[dgT (n.val : Int)]⟩) wx
  | 0, _ => by kernel_rfl
  | 1, _ => by kernel_rfl
  | 2, _ => by kernel_rfl
  | 3, _ => by kernel_rfl
  | 4, _ => by kernel_rfl
  | 5, _ => by kernel_rfl
  | 6, _ => by kernel_rfl
  | 7, _ => by kernel_rfl
  | 8, _ => by kernel_rfl
  | 9, _ => by kernel_rfl
theorem byte_strI (x : Int) (h0 : 0 ≤ x) (h9 : x ≤ 9) (wx : World) : (convert 5 9 (.int .u8 (48 + x))).run Try.prog wx = .ok (.string ⟨#[dgT x]⟩) wx := by
  obtain ⟨n, rfl⟩ := Int.eq_ofNat_of_zero_le h0
  exact byte_str ⟨n, by omega⟩ wx
set_option maxHeartbeats 800000 in
theorem specST_no (g n : Nat) (L : List D) (w : World) (hn : n = L.length) (h4 : n ≤ 1048576) (hD : DAt w g 0 L) (h : towB L = false) : Calls Try.prog 24 #[.slice (some ⟨g, 0, none⟩) n n] w fun e w' => e = .returned (.tuple #[.slice none 0 0, .bool false]) ∧ Below w.heap.size w w' := by
  have HC := hide (clDice_any g n n L w hn h4 hD)
  rw [h] at HC
  clear hD hn h
  go_enter Try.func24, Try.ntmps24
  go_wp2_with fail
  refine HC.out.mono ?_
  rintro e w1 ⟨rfl, q1⟩
  go_wp2
  go_returns
  exact ⟨rfl, q1⟩
set_option maxHeartbeats 800000 in
theorem implST_no (g n : Nat) (L : List D) (w : World) (hn : n = L.length) (h4 : n ≤ 1048576) (hD : DAt w g 0 L) (h : towB L = false) : Calls Try.prog 26 #[.slice (some ⟨g, 0, none⟩) n n] w fun e w' => e = .returned (.tuple #[.slice none 0 0, .bool false]) ∧ Below w.heap.size w w' := by
  have HC := hide (isListForTower_any g n n L w hn h4 hD)
  rw [h] at HC
  clear hD hn h
  go_enter Try.func26, Try.ntmps26
  go_wp2_with fail
  refine HC.out.mono ?_
  rintro e w1 ⟨rfl, q1⟩
  go_wp2
  go_returns
  exact ⟨rfl, q1⟩
set_option maxHeartbeats 3200000 in
theorem specST_yes (g n : Nat) (L : List D) (w : World) (hn : n = L.length) (h4 : n ≤ 1048576) (hD : DAt w g 0 L) (h : towB L = true) : Calls Try.prog 24 #[.slice (some ⟨g, 0, none⟩) n n] w fun e w' => ∃ v, e = .returned (.tuple #[v, .bool true]) ∧ w'.ownsRow w.heap.size 9 1 v 4 (strs ((List.range 4).map (txL L))) ∧ Below w.heap.size w w' := by
  have HC := hide (clDice_any g n n L w hn h4 hD)
  rw [h] at HC
  have hl := towB_len h
  have hl4 : n ≤ 4 := by omega
  have h4n : (n : Int) ≤ 4 := by omega
  have HD := hide hD
  have HN := hide hn
  have HG := hide (fun (i : Nat) (d : D) (hi : L[i]? = some d) => towB_good h hi)
  obtain ⟨i0, hi, hz0, hz1, hz2⟩ := info_parts info_strST
  have HI := hide hi
  have HZ0 := hide hz0
  have HZ1 := hide hz1
  have HZ2 := hide hz2
  clear hi hz0 hz1 hz2 hD hn h hl
  go_enter Try.func24, Try.ntmps24
  go_wp2_with fail
  refine HC.out.mono ?_
  rintro e w1 ⟨rfl, q1⟩
  have HQ := hide q1
  clear q1
  go_wp2
  go_loopw [5, 4, 6, 8] (fun i v _ _ wr => ∃ k : Nat, k ≤ 4 ∧ i = .int .i64 (k : Int) ∧ wr.ownsRow w.heap.size 9 1 v k (strs ((List.range k).map (txL L))) ∧ Below w.heap.size w wr) (fun i _ _ _ _ => 4 - (intOf i).toNat)
  case atStart => exact ⟨0, Nat.zero_le _, rfl, World.ownsRow_nil _ _ _ _, HQ.out⟩
  case round =>
    obtain ⟨k, hk, rfl, O, q⟩ := hrel
    clear HQ
    by_cases hlt : k < 4
    · have hki : (k : Int) < 4 := by omega
      have HCS := hide (clSide_any g n n L k wr HN.out h4 hlt (dAt_to q HD.out rfl))
      have HO := hide O
      have HQ := hide q
      clear O q
      go_wp2_with fail
      refine HCS.out.mono ?_
      rintro e w2 ⟨v, rfl, R, hb2⟩
      have HO2 := hide (own_to hb2 HO.out rfl)
      have HQ2 := hide (below_to hb2 HQ.out HQ.out.size rfl rfl rfl rfl)
      have HR := hide R
      obtain ⟨pr, cr, rfl⟩ := own_slice R
      clear hb2 R HO HQ HCS
      go_wp2
      go_loopw [20, 6, 8] (fun i tv _ wi => ∃ m : Nat, m ≤ n ∧ i = .int .i64 (m : Int) ∧ tv = .string ⟨(txL (L.take m) k).toArray⟩ ∧ wi.ownsRow wr.heap.size 3 1 (.slice pr n cr) n (ints (sideL L k)) ∧ wi.ownsRow w.heap.size 9 1 u4 k (strs ((List.range k).map (txL L))) ∧ Below w.heap.size w wi) (fun i _ _ _ => n - (intOf i).toNat)
      case atStart => exact ⟨0, Nat.zero_le _, rfl, rfl, HR.out, HO2.out, HQ2.out⟩
      case round =>
        obtain ⟨m, hm, rfl, rfl, R, O, q⟩ := hrel
        clear HR HO2 HQ2
        by_cases hmn : m < n
        · have hmi : (m : Int) < (n : Int) := by omega
          have hx : L[m]? = some (L[m]'(by have := HN.out; omega)) := List.getElem?_eq_getElem (by have := HN.out; omega)
          generalize L[m]'(by have := HN.out; omega) = d at hx
          obtain ⟨g2, c2, hgg, -, -⟩ := own_form R (by omega)
          cases hgg
          have cx := ints_cell R m _ (sideL_get hx)
          obtain ⟨b0, b9⟩ := sd_good (HG.out m d hx) k hlt
          have HS := hide (txL_snoc k hx)
          have htl := txL_len (L.take m) k
          rw [List.length_take] at htl
          generalize sdD k d = x at cx b0 b9 HS
          have HLN := hide (fun wx => l1Num_smallT x b0 b9 wx)
          generalize txL (L.take m) k = tt at htl HS ⊢
          have ht4 : tt.length ≤ 4 := by omega
          have HR := hide R
          have HO := hide O
          have HQ := hide q
          clear hx R O q htl b0 b9
          have ha : ¬ 9223372036854775807 < tt.length + 1 := by omega
          go_wp2_with (go_at_call 66; (refine (HLN.out _).mono ?_); rintro e w3 ⟨rfl, hb3⟩; have HR3 := hide (own_to hb3 HR.out rfl); have HO3 := hide (own_to hb3 HO.out rfl); have HQ3 := hide (below_to hb3 HQ.out HQ.out.size rfl rfl rfl rfl); clear hb3)
          go_roundw
          case rel => exact ⟨m + 1, by omega, by go_num, by rw [HS.out]; exact congrArg Value.string (by apply ByteArray.ext; simp), HR3.out, HO3.out, HQ3.out⟩
          case measure => simp [intOf] <;> omega
        · obtain rfl : m = n := by omega
          have ht : L.take m = L := List.take_of_length_le (by have := HN.out; omega)
          rw [ht]
          have HO := hide O
          have HQ := hide q
          clear O q R ht
          go_wp2_with (at_builtin; refine wpList_append_own_at _ rfl _ _ 39 rfl w.heap.size 9 i0 (.string ⟨#[]⟩) 1 16 Try.underlying39 HI.out HZ0.out HZ1.out HZ2.out rfl (by decide) _ _ _ rfl (HO.out.alloc _) ⟨_, 0, none⟩ 1 1 [sV (txL L k)] rfl rfl (cell_one_newR _ _ _) (by intro u hu; simp only [List.mem_singleton] at hu; subst hu; rfl) (by unfold maxLen; omega) (by omega) (by have := HQ.out.size; simp; omega) ?_; intro v' w4 hown hgr hnil hblk)
          have HO4 := hide (show w4.ownsRow w.heap.size 9 1 v' (k + 1) (strs ((List.range (k + 1)).map (txL L))) from by
            rw [List.range_succ, List.map_append, List.map_singleton, strs_snoc]
            exact hown)
          have HQ4 := hide ((HQ.out.alloc HQ.out.size _).grown hgr (by have := HQ.out.size; simp; omega) (fun j hj => (HO.out.lt j hj).1))
          clear hown hgr hnil hblk HO HQ
          go_wp2
          go_roundw
          case rel => exact ⟨k + 1, by omega, by go_num, HO4.out, HQ4.out⟩
          case measure => simp [intOf] <;> omega
    · obtain rfl : k = 4 := by omega
      have HO := hide O
      clear O
      go_wp2
      go_returns
      exact ⟨_, rfl, HO.out, q⟩
/-- The texts of the four sides: the first s sides with one die more. -/
def stR (L : List D) (m s : Nat) : List (List UInt8) := (List.range 4).map (fun j => txL (L.take (if j < s then m + 1 else m)) j)
theorem stR_len (L : List D) (m s : Nat) : (stR L m s).length = 4 := by simp [stR]
theorem stR_get (L : List D) (m s : Nat) (h : s < 4) : (stR L m s)[s]? = some (txL (L.take m) s) := by
  unfold stR
  rw [List.getElem?_map, List.getElem?_range h]
  simp
theorem stR_set (L : List D) (m s : Nat) (h : s < 4) : (stR L m s).set s (txL (L.take (m + 1)) s) = stR L m (s + 1) := by
  apply List.ext_getElem?
  intro j
  rw [List.getElem?_set, stR_len]
  by_cases hj : j < 4
  · unfold stR
    rw [List.getElem?_map, List.getElem?_map, List.getElem?_range hj]
    by_cases e : s = j
    · subst e
      rw [if_pos rfl, if_pos h]
      simp
    · rw [if_neg e]
      by_cases h2 : j < s
      · simp [h2, show j < s + 1 from by omega]
      · simp [h2, show ¬ j < s + 1 from by omega]
  · have h1 : (stR L m s)[j]? = none := List.getElem?_eq_none (by rw [stR_len]; omega)
    have h2 : (stR L m (s + 1))[j]? = none := List.getElem?_eq_none (by rw [stR_len]; omega)
    rw [h1, h2]
    have : ¬ s = j := by omega
    rw [if_neg this]
theorem stR_next (L : List D) (m : Nat) : stR L m 4 = stR L (m + 1) 0 := by
  unfold stR
  apply List.map_congr_left
  intro j hj
  rw [List.mem_range] at hj
  simp [hj]
theorem stR_zero (L : List D) : stR L 0 0 = [[], [], [], []] := by simp [stR, List.range_succ, txL, sideL]
theorem made_four : (madeCells (Value.string ⟨#[]⟩).cells (4 * 1)).toList = strs [[], [], [], []] := by
  have hc : (Value.string ⟨#[]⟩).cells = #[Value.string ⟨#[]⟩] := rfl
  simp [madeCells, hc, List.range_succ, strs]
set_option maxHeartbeats 3200000 in
theorem implST_yes (g n : Nat) (L : List D) (w : World) (hn : n = L.length) (h4 : n ≤ 1048576) (hD : DAt w g 0 L) (h : towB L = true) : Calls Try.prog 26 #[.slice (some ⟨g, 0, none⟩) n n] w fun e w' => ∃ v, e = .returned (.tuple #[v, .bool true]) ∧ w'.ownsRow w.heap.size 9 1 v 4 (strs ((List.range 4).map (txL L))) ∧ Below w.heap.size w w' := by
  have HC := hide (isListForTower_any g n n L w hn h4 hD)
  rw [h] at HC
  have hl := towB_len h
  have hl4 : n ≤ 4 := by omega
  have h4n : (n : Int) ≤ 4 := by omega
  have HD := hide hD
  have HN := hide hn
  have HG := hide (fun (i : Nat) (d : D) (hi : L[i]? = some d) => towB_good h hi)
  obtain ⟨i0, hi, hz0, hz1, hz2⟩ := info_parts info_strST
  have HI := hide hi
  have HZ0 := hide hz0
  have HZ1 := hide hz1
  have HZ2 := hide hz2
  clear hi hz0 hz1 hz2 hD hn h hl
  go_enter Try.func26, Try.ntmps26
  go_wp2_with fail
  refine HC.out.mono ?_
  rintro e w1 ⟨rfl, q1⟩
  go_wp2_with (at_make; refine wpList_make_full _ rfl _ _ 39 rfl w1.heap.size 9 i0 (.string ⟨#[]⟩) 1 Try.underlying39 HI.out HZ0.out HZ1.out .i64 .i64 _ _ 4 rfl rfl rfl rfl (by rw [HZ2.out]; omega) (by unfold maxLen; omega) (Nat.le_refl _) ?_; intro w2 O2 g2)
  rw [made_four] at O2
  have q2 := q1.grown g2 q1.size (fun j hj => by cases hj)
  obtain ⟨gr, hgr⟩ : ∃ gr, gr = w1.heap.size := ⟨_, rfl⟩
  have hwg : w.heap.size ≤ gr := by have := q1.size; omega
  rw [← hgr] at O2 ⊢
  have HO := hide O2
  have HQ := hide q2
  clear O2 g2 q1 q2 hgr
  go_wp2
  go_loopw [15, 6, 7, 8] (fun i _ _ _ wr => ∃ m : Nat, m ≤ n ∧ i = .int .i64 (m : Int) ∧ wr.ownsRow gr 9 1 (.slice (some ⟨gr, 0, none⟩) 4 4) 4 (strs (stR L m 0)) ∧ Below w.heap.size w wr) (fun i _ _ _ _ => n - (intOf i).toNat)
  case atStart => exact ⟨0, Nat.zero_le _, rfl, by rw [stR_zero]; exact HO.out, HQ.out⟩
  case round =>
    obtain ⟨m, hm, rfl, O, q⟩ := hrel
    clear HO HQ
    by_cases hlt : m < n
    · have hmi : (m : Int) < (n : Int) := by omega
      have hx : L[m]? = some (L[m]'(by have := HN.out; omega)) := List.getElem?_eq_getElem (by have := HN.out; omega)
      generalize L[m]'(by have := HN.out; omega) = d at hx
      obtain ⟨c0, c1, c2, c3, c4, c5⟩ := (dAt_to q HD.out rfl).cells0 hx
      have HX := hide hx
      have HO := hide (O.alloc (.cells #[.int .i64 d.t, .int .i64 d.n, .int .i64 d.e, .int .i64 d.s, .int .i64 d.w, .int .i64 d.b] 30))
      have HQ := hide (q.alloc q.size (.cells #[.int .i64 d.t, .int .i64 d.n, .int .i64 d.e, .int .i64 d.s, .int .i64 d.w, .int .i64 d.b] 30))
      clear hx O q
      go_wp2_with fail
      clear c0 c1 c2 c3 c4 c5
      refine (sideFacesOf_any d _).mono ?_
      rintro e w3 ⟨rfl, hb3⟩
      have HO3 := hide (own_to hb3 HO.out rfl)
      have HQ3 := hide (below_to hb3 HQ.out HQ.out.size rfl rfl rfl rfl)
      have HIX := hide (fun k hk wx => index_side d k hk wx)
      generalize sfV d = sv at HIX ⊢
      clear hb3 HO HQ
      go_wp2
      go_loopw [21, 7, 8] (fun i _ _ wi => ∃ s : Nat, s ≤ 4 ∧ i = .int .i64 (s : Int) ∧ wi.ownsRow gr 9 1 (.slice (some ⟨gr, 0, none⟩) 4 4) 4 (strs (stR L m s)) ∧ Below w.heap.size w wi) (fun i _ _ _ => 4 - (intOf i).toNat)
      case atStart => exact ⟨0, Nat.zero_le _, rfl, HO3.out, HQ3.out⟩
      case round =>
        obtain ⟨s, hs, rfl, O, q⟩ := hrel
        clear HO3 HQ3
        by_cases hs4 : s < 4
        · have hsi : (s : Int) < 4 := by omega
          have ix := HIX.out s hs4
          obtain ⟨b0, b9⟩ := sd_good (HG.out m d HX.out) s hs4
          have HSX := hide (txL_snoc s HX.out)
          have HST := hide (stR_set L m s hs4)
          have cs := strs_cell O s _ (stR_get L m s hs4)
          have fs := own_free O s
          have htl := txL_len (L.take m) s
          rw [List.length_take] at htl
          generalize sdD s d = x at ix b0 b9 HSX
          have hbs := byte_strI x b0 b9
          have HDG := hide (fun wx => digitOf_any x b0 b9 wx)
          obtain ⟨tt, htt⟩ : ∃ tt, tt = txL (L.take m) s := ⟨_, rfl⟩
          rw [← htt] at cs htl HSX
          have ht4 : tt.length ≤ 4 := by omega
          have ha : ¬ 9223372036854775807 < tt.length + 1 := by omega
          have HO := hide (own_put O s (by omega) (sV (tt ++ [dgT x])))
          rw [strs_set, show (stR L m s).set s (tt ++ [dgT x]) = stR L m (s + 1) from by rw [← HSX.out]; exact HST.out] at HO
          have HQ := hide (q.setCell (p := ⟨gr, s, none⟩) hwg (sV (tt ++ [dgT x])))
          have hcat : (⟨tt.toArray⟩ : ByteArray) ++ ⟨#[dgT x]⟩ = ⟨(tt ++ [dgT x]).toArray⟩ := by apply ByteArray.ext; simp
          clear O q htl htt HSX HST
          go_upto_region 10 with (fail)
          have cs' : wr.cell? ⟨gr, s, none⟩ = some (.string ⟨tt.toArray⟩) := cs
          clear cs
          go_still_tail 9, (by kernel_rfl)
          still_call ((HDG.out _).mono fun _ _ h => ⟨h.1, h.2.symm⟩)
          repeat still_step
          refine wpStill_nil ?_
          change wpList _ _ _ _ _ wr.drew
          go_wp2
          go_roundw
          case rel => exact ⟨s + 1, by omega, by go_num, HO.out, HQ.out.drew⟩
          case measure => simp [intOf] <;> omega
        · obtain rfl : s = 4 := by omega
          have HO := hide O
          rw [stR_next] at HO
          clear O
          go_wp2
          go_roundw
          case rel => exact ⟨m + 1, by omega, by go_num, HO.out, q⟩
          case measure => simp [intOf] <;> omega
    · obtain rfl : m = n := by omega
      have HO := hide (show wr.ownsRow w.heap.size 9 1 (.slice (some ⟨gr, 0, none⟩) 4 4) 4 (strs ((List.range 4).map (txL L))) from by
        have : stR L m 0 = (List.range 4).map (txL L) := by
          unfold stR
          apply List.map_congr_left
          intro j _
          rw [if_neg (Nat.not_lt_zero _), List.take_of_length_le (by have := HN.out; omega)]
        rw [← this]
        exact own_mono O hwg)
      clear O
      go_wp2
      go_returns
      exact ⟨_, rfl, HO.out, q⟩
theorem specST_any (g n : Nat) (L : List D) (w : World) (hn : n = L.length) (h4 : n ≤ 1048576) (hD : DAt w g 0 L) : Calls Try.prog 24 #[.slice (some ⟨g, 0, none⟩) n n] w (StPost L w) := by
  unfold StPost stL
  cases h1 : towB L
  · exact (specST_no g n L w hn h4 hD h1).mono fun e w' h => ⟨_, h.1, World.ownsRow_nil _ _ _ _, h.2⟩
  · rw [if_pos rfl, List.length_map, List.length_range]
    exact specST_yes g n L w hn h4 hD h1
theorem implST_any (g n : Nat) (L : List D) (w : World) (hn : n = L.length) (h4 : n ≤ 1048576) (hD : DAt w g 0 L) : Calls Try.prog 26 #[.slice (some ⟨g, 0, none⟩) n n] w (StPost L w) := by
  unfold StPost stL
  cases h1 : towB L
  · exact (implST_no g n L w hn h4 hD h1).mono fun e w' h => ⟨_, h.1, World.ownsRow_nil _ _ _ _, h.2⟩
  · rw [if_pos rfl, List.length_map, List.length_range]
    exact implST_yes g n L w hn h4 hD h1
set_option maxHeartbeats 3200000 in
theorem walk_SidesOfTower (VV0 : Value) (L0 : List D) (w : World) (hV : DsIn w VV0 L0) : Calls Try.prog 6 #[VV0] w fun e w' => e = .returned (.bool true) ∧ Below w.heap.size w w' := by
  have HV0 := hide hV
  clear hV
  by_cases hl : L0.length ≤ 1048576
  · have HL1 := hide hl
    obtain ⟨z, hz, hz0⟩ : ∃ z : Int, z = 1048576 - (L0.length : Int) ∧ 0 ≤ z := ⟨_, rfl, by omega⟩
    have HSZ := hide (show Calls Try.prog 23 #[VV0, .int .i64 1048576] w fun e w' => e = .returned (.int .i64 z) ∧ w = w' from by
      have := szDieS_any VV0 L0 1048576 w HV0.out (by omega)
      rw [if_neg (by omega), ← hz] at this
      exact this)
    have hzn : ¬ z < 0 := by omega
    clear hz hl
    obtain ⟨nn, hnn⟩ : ∃ x : Int, x = 1 + ((L0.length * 6 : Nat) : Int) := ⟨_, rfl⟩
    have hnn0 : ¬ nn < 0 := by omega
    have HNN := hide hnn
    clear hnn
    have hlen := hide (show (stL L0).length ≤ 100000 from stL_len _)
    obtain ⟨Z, hZ⟩ : ∃ Z, Z = stL L0 := ⟨_, rfl⟩
    have HZ := hide hZ
    clear hZ
    rw [← HZ.out] at hlen
    obtain ⟨ok, hok⟩ : ∃ ok, ok = towB L0 := ⟨_, rfl⟩
    have HOK := hide hok
    clear hok
    have e1 : (ok != ok) = false := by simp
    obtain ⟨N, hN⟩ : ∃ N : Int, N = ((Z.length : Nat) : Int) := ⟨_, rfl⟩
    have n1 : ¬ (1 + N < 0) := by omega
    have n2 : ((1 + N) != (1 + N)) = false := by simp
    have HN := hide hN
    clear hN
    go_enter Try.func6, Try.ntmps6
    go_wp2_with fail
    refine HSZ.out.mono ?_
    rintro e w' ⟨rfl, rfl⟩
    clear hz0
    go_wp2_with fail
    refine (toDieS_any VV0 L0 _ HV0.out HL1.out).mono ?_
    rintro e w1 ⟨g1, _, rfl, O1, q1⟩
    have HVW := hide HV0.out
    have HV1 := hide (dsIn_to q1 HV0.out rfl)
    clear HV0
    have D1 := hide (dAt_own O1 rfl)
    have HXX := hide O1
    clear O1
    go_wp2_with fail
    refine (specST_any g1 _ L0 _ rfl HL1.out D1.out).mono ?_
    rintro e w2 ⟨r0, rfl, O2, hb2⟩
    have q2 := below_to hb2 q1 q1.size rfl rfl rfl rfl
    have HV2 := hide (dsIn_to hb2 HV1.out rfl)
    have zs2 := hb2.size
    rw [← HZ.out] at O2
    rw [← HOK.out]
    have HO2 := hide (O2)
    clear hb2 HV1 q1 O2
    have HOA := hide HO2.out
    have q2S := hide q2.size
    go_wp2_with fail
    refine (toDieS_any VV0 L0 _ HV2.out HL1.out).mono ?_
    rintro e w3 ⟨g3, _, rfl, O3, hb3⟩
    have q3 := below_to hb3 q2 q2.size rfl rfl rfl rfl
    have HO3 := hide (own_to hb3 HO2.out rfl)
    have HV3 := hide (dsIn_to hb3 HV2.out rfl)
    have zs3 := hb3.size
    have D3 := hide (dAt_own O3 rfl)
    try clear HXX
    have HXX := hide O3
    clear hb3 HO2 HV2 q2 O3
    have HX3 := hide (HXX.out)
    have HA2 := hide (fun g hg hx => own_apart HOA.out HXX.out (by first | exact Nat.le_refl _ | simp) g hx hg)
    have HXY := hide HXX.out
    have HSX := hide (show w.heap.size ≤ w2.heap.size from q2S.out)
    have hltO := hide (fun g hg => (HO3.out.lt g hg).2)
    have hsq : w.heap.size ≤ _ := q3.size
    go_wp2_with fail
    refine (implST_any g3 _ L0 _ rfl HL1.out D3.out).mono ?_
    rintro e w4 ⟨r1, rfl, O4, hb4⟩
    have q4 := below_to hb4 q3 q3.size rfl rfl rfl rfl
    have HO4 := hide (own_to hb4 HO3.out rfl)
    have HV4 := hide (dsIn_to hb4 HV3.out rfl)
    have HX4 := hide (own_to hb4 HX3.out rfl)
    have zs4 := hb4.size
    rw [← HZ.out] at O4
    rw [← HOK.out]
    have HG4 := hide (O4)
    have HA1 := hide (own_apart HXY.out O4 (by first | exact Nat.le_refl _ | simp))
    clear hb4 HO3 HV3 HX3 q3 O4
    go_wp2_with fail
    refine (eqStrS_any r1 r0 Z.length _ _ Z _ (by have := hlen.out; omega) HG4.out HO4.out).mono ?_
    rintro e w5 ⟨rfl, hb5⟩
    have q5 := below_to hb5 q4 q4.size rfl rfl rfl rfl
    have HG5 := hide (own_to hb5 HG4.out rfl)
    have HO5 := hide (own_to hb5 HO4.out rfl)
    have HV5 := hide (dsIn_to hb5 HV4.out rfl)
    have HX5 := hide (own_to hb5 HX4.out rfl)
    have zs5 := hb5.size
    clear hb5 HG4 HO4 HV4 HX4 q4 
    go_wp2_with fail
    refine (toDieS_any VV0 L0 _ HV5.out HL1.out).mono ?_
    rintro e w6 ⟨g6, _, rfl, O6, hb6⟩
    have q6 := below_to hb6 q5 q5.size rfl rfl rfl rfl
    have HG6 := hide (own_to hb6 HG5.out rfl)
    have HO6 := hide (own_to hb6 HO5.out rfl)
    have HV6 := hide (dsIn_to hb6 HV5.out rfl)
    have HX6 := hide (own_to hb6 HX5.out rfl)
    have zs6 := hb6.size
    try clear HXX
    have HP6 := hide O6
    clear hb6 HG5 HO5 HV5 HX5 q5 O6
    go_wp2_with fail
    refine (eqDieS_any _ _ L0.length _ _ L0 _ (by have := HL1.out; omega) HX6.out HP6.out).mono ?_
    rintro e w7 ⟨rfl, hb7⟩
    have q7 := below_to hb7 q6 q6.size rfl rfl rfl rfl
    have HG7 := hide (own_to hb7 HG6.out rfl)
    have HO7 := hide (own_to hb7 HO6.out rfl)
    have HP7 := hide (own_to hb7 HP6.out rfl)
    have HV7 := hide (dsIn_to hb7 HV6.out rfl)
    have HX7 := hide (own_to hb7 HX6.out rfl)
    have zs7 := hb7.size
    clear hb7 HG6 HO6 HP6 HV6 HX6 q6 
    clear HP7
    go_wp2_with fail
    refine (markDieS_kept _ L0.length _ L0 1 _ HL1.out (by omega) HX7.out).mono ?_
    rintro e wk ⟨rfl, -, hk⟩
    rw [← HNN.out]
    have hbk := hk.below (B := w.heap.size) (fun g hg => by have := (HX7.out.lt g hg).1; have := HSX.out; omega)
    have qk := q7.trans hbk
    have HGk := hide (own_kept hk HG7.out HA1.out)
    have HOk := hide (own_kept hk HO7.out HA2.out)
    have HVk := hide (dsIn_to qk HVW.out rfl)
    clear hk hbk HX7 HG7 HO7 HV7 q7
    have q8 := qk
    have HG8 := HGk
    have HO8 := HOk
    have HV8 := HVk
    clear qk HGk HOk HVk
    go_wp2_with fail
    refine (eqStrS_any r1 r0 Z.length _ _ Z _ (by have := hlen.out; omega) HG8.out HO8.out).mono ?_
    rintro e w9 ⟨rfl, hb9⟩
    have q9 := below_to hb9 q8 q8.size rfl rfl rfl rfl
    have HG9 := hide (own_to hb9 HG8.out rfl)
    have HO9 := hide (own_to hb9 HO8.out rfl)
    have HV9 := hide (dsIn_to hb9 HV8.out rfl)
    have zs9 := hb9.size
    clear hb9 HG8 HO8 HV8 q8 
    go_wp2_with fail
    refine (markStrS_one r1 Z.length _ Z _ (by have := hlen.out; omega) HG9.out).mono ?_
    rintro e w10 ⟨rfl, G10, hb10⟩
    rw [← HN.out]
    have q10 := q9.trans (hb10.mono hsq)
    have HV10 := hide (dsIn_to q10 HVW.out rfl)
    have HO10 := hide (own_below hb10 HO9.out hltO.out)
    have HG10 := hide G10
    clear hb10 G10 q9 HO9 HG9 HV9
    go_wp2_with fail
    refine (heldStrS_one r1 Z.length _ _ (by have := hlen.out; omega) HG10.out).mono ?_
    rintro e w11 ⟨rfl, hb11⟩
    have q11 := below_to hb11 q10 q10.size rfl rfl rfl rfl
    have HG11 := hide (own_to hb11 HG10.out rfl)
    have HO11 := hide (own_to hb11 HO10.out rfl)
    have HV11 := hide (dsIn_to hb11 HV10.out rfl)
    have zs11 := hb11.size
    rw [← HN.out]
    clear hb11 HG10 HO10 HV10 q10 
    go_wp2_with fail
    refine (toDieS_any VV0 L0 _ HV11.out HL1.out).mono ?_
    rintro e w12 ⟨g12, _, rfl, O12, hb12⟩
    have q12 := below_to hb12 q11 q11.size rfl rfl rfl rfl
    have HG12 := hide (own_to hb12 HG11.out rfl)
    have HO12 := hide (own_to hb12 HO11.out rfl)
    have HV12 := hide (dsIn_to hb12 HV11.out rfl)
    have zs12 := hb12.size
    have D12 := hide (dAt_own O12 rfl)
    try clear HXX
    have HXX := hide O12
    clear hb12 HG11 HO11 HV11 q11 O12
    go_wp2_with fail
    refine (implST_any g12 _ L0 _ rfl HL1.out D12.out).mono ?_
    rintro e w13 ⟨r2, rfl, O13, hb13⟩
    have q13 := below_to hb13 q12 q12.size rfl rfl rfl rfl
    have HG13 := hide (own_to hb13 HG12.out rfl)
    have HO13 := hide (own_to hb13 HO12.out rfl)
    have HV13 := hide (dsIn_to hb13 HV12.out rfl)
    have zs13 := hb13.size
    rw [← HZ.out] at O13
    rw [← HOK.out]
    have HH13 := hide (O13)
    clear hb13 HG12 HO12 HV12 q12 O13
    go_wp2_with fail
    refine (eqStrS_any r2 r0 Z.length _ _ Z _ (by have := hlen.out; omega) HH13.out HO13.out).mono ?_
    rintro e w14 ⟨rfl, hb14⟩
    have q14 := below_to hb14 q13 q13.size rfl rfl rfl rfl
    have HG14 := hide (own_to hb14 HG13.out rfl)
    have HH14 := hide (own_to hb14 HH13.out rfl)
    have HO14 := hide (own_to hb14 HO13.out rfl)
    have HV14 := hide (dsIn_to hb14 HV13.out rfl)
    have zs14 := hb14.size
    clear hb14 HG13 HH13 HO13 HV13 q13 
    go_wp2_with fail
    refine (heldStrS_one r1 Z.length _ _ (by have := hlen.out; omega) HG14.out).mono ?_
    rintro e w15 ⟨rfl, hb15⟩
    have q15 := below_to hb15 q14 q14.size rfl rfl rfl rfl
    have HG15 := hide (own_to hb15 HG14.out rfl)
    have HH15 := hide (own_to hb15 HH14.out rfl)
    have HO15 := hide (own_to hb15 HO14.out rfl)
    have HV15 := hide (dsIn_to hb15 HV14.out rfl)
    have zs15 := hb15.size
    rw [← HN.out]
    clear hb15 HG14 HH14 HO14 HV14 q14 
    go_wp2
    go_returns
    exact ⟨rfl, q15⟩
  · have HSZ := hide (show Calls Try.prog 23 #[VV0, .int .i64 1048576] w fun e w' => e = .returned (.int .i64 (-1)) ∧ w = w' from by
      have := szDieS_any VV0 L0 1048576 w HV0.out (by omega)
      rw [if_pos (by omega)] at this
      exact this)
    clear hl
    go_enter Try.func6, Try.ntmps6
    go_wp2_with fail
    refine HSZ.out.mono ?_
    rintro e w' ⟨rfl, rfl⟩
    go_wp2
    go_returns
    exact ⟨rfl, Below.refl _ _⟩
end Go.Proofs.Ytkiocklkpnjejaa
