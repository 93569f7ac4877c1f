/- BlockedDice of the model and of the program. -/
import Derived.Test.YtdndegonpdakkaaDoorDmA
namespace Go.Proofs.YtdndegonpdakkaaDoor
set_option maxRecDepth 100000
set_option linter.all false
open Go.RowKit

theorem bytes_eq (x : UInt8) (k : Nat) (hk : k < 3) : ((x.toNat : Int) == ((48 + k : Nat) : Int)) = decide (x.toNat = 48 + k) := by
  by_cases h : x.toNat = 48 + k
  · rw [decide_eq_true h]
    simp [h]
  · rw [decide_eq_false h]
    simp
    omega
set_option maxHeartbeats 800000 in
theorem blk1_any (x d : UInt8) (k : Nat) (hk : k < 3) (Bk : Nat) (w : World) (hc : w.cell? ⟨Bk, 0, none⟩ = some (.int .i64 (k : Int))) : Calls Tryd.prog 57 #[sV [x, d], .pointer (some ⟨Bk, 0, none⟩)] w fun e w' => e = .returned (.bool (decide (x.toNat = 48 + k))) ∧ Below w.heap.size w w' := by
  have s2 : (⟨[x, d].toArray⟩ : ByteArray).size = 2 := rfl
  have HE := hide (bytes_eq x k hk)
  match k, hk with
  | 0, _ =>
    have hc : w.drew.cell? ⟨Bk, 0, none⟩ = some (.int .i64 0) := hc
    go_enter Tryd.func57, Tryd.ntmps57
    go_upto_region 1 with (fail)
    go_region_held3 (fun w' => w'.cell? ⟨Bk, 0, none⟩ = some (.int .i64 0)) (with_reducible assumption) (fail)
    all_goals
      go_wp2
      go_returns
      exact ⟨ret_bool HE.out, (Below.refl _ _).drew⟩
  | 1, _ =>
    have hc : w.drew.cell? ⟨Bk, 0, none⟩ = some (.int .i64 1) := hc
    go_enter Tryd.func57, Tryd.ntmps57
    go_upto_region 1 with (fail)
    go_region_held3 (fun w' => w'.cell? ⟨Bk, 0, none⟩ = some (.int .i64 1)) (with_reducible assumption) (fail)
    all_goals
      go_wp2
      go_returns
      exact ⟨ret_bool HE.out, (Below.refl _ _).drew⟩
  | 2, _ =>
    have hc : w.drew.cell? ⟨Bk, 0, none⟩ = some (.int .i64 2) := hc
    go_enter Tryd.func57, Tryd.ntmps57
    go_upto_region 1 with (fail)
    go_region_held3 (fun w' => w'.cell? ⟨Bk, 0, none⟩ = some (.int .i64 2)) (with_reducible assumption) (fail)
    all_goals
      go_wp2
      go_returns
      exact ⟨ret_bool HE.out, (Below.refl _ _).drew⟩
/-- Does a list hold a move of a die? -/
def hasK (A : List (List UInt8)) (k : Nat) : Bool := A.any fun mv => decide ((mv.getD 0 0).toNat = 48 + k)
theorem hasK_no {A : List (List UInt8)} {k i : Nat} {mv : List UInt8} (h : A[i]? = some mv) (h0 : hasK (A.take i) k = false) (h1 : decide ((mv.getD 0 0).toNat = 48 + k) = false) : hasK (A.take (i + 1)) k = false := by
  unfold hasK at *
  rw [List.take_add_one, h, List.any_append, h0]
  simpa using h1
theorem hasK_yes {A : List (List UInt8)} {k i : Nat} {mv : List UInt8} (h : A[i]? = some mv) (h1 : decide ((mv.getD 0 0).toNat = 48 + k) = true) : hasK A k = true := by
  unfold hasK
  rw [List.any_eq_true]
  exact ⟨mv, List.mem_of_getElem? h, h1⟩
/-- What IndexFunc hands back. -/
def IdxM (A : List (List UInt8)) (k : Nat) (w : World) (e : Ending) (w' : World) : Prop := (∃ r : Int, e = .returned (.int .i64 r) ∧ decide (0 ≤ r) = hasK A k) ∧ Below w.heap.size w w'
theorem idxM_none (k Bk : Nat) (w : World) : Calls Tryd.prog 78 #[.slice none 0 0, .func (.func 57) #[] #[.pointer (some ⟨Bk, 0, none⟩)]] w (IdxM [] k w) := by
  go_enter Tryd.func78, Tryd.ntmps78
  go_wp2
  go_loop [8, 5] (fun i _ => i = .int .i64 0) (fun _ _ => 0)
  case atStart => rfl
  case round =>
    subst hrel
    go_wp2
    go_returns
    exact ⟨⟨_, rfl, rfl⟩, Below.refl _ _⟩
set_option maxHeartbeats 800000 in
theorem idxM_some (A : List (List UInt8)) (hf : ∀ (i : Nat) (mv : List UInt8), A[i]? = some mv → ∃ x d : UInt8, mv = [x, d]) (n g cap bm k Bk : Nat) (hk3 : k < 3) (w : World) (hN : n = A.length) (hn : n ≤ 100) (hA : w.ownsRow bm 9 1 (.slice (some ⟨g, 0, none⟩) n cap) n (strs A)) (hB : Bk < w.heap.size ∧ w.cell? ⟨Bk, 0, none⟩ = some (.int .i64 (k : Int))) : Calls Tryd.prog 78 #[.slice (some ⟨g, 0, none⟩) n cap, .func (.func 57) #[] #[.pointer (some ⟨Bk, 0, none⟩)]] w (IdxM A k w) := by
  have HA := hide hA
  have HB := hide hB
  have HN := hide hN
  have HFO := hide hf
  clear hA hN hB hf
  go_enter Tryd.func78, Tryd.ntmps78
  go_wp2
  go_loopw [8, 5] (fun i _ wr => ∃ j : Nat, j ≤ n ∧ i = .int .i64 (j : Int) ∧ hasK (A.take j) k = false ∧ Below w.heap.size w wr) (fun i _ _ => n - (intOf i).toNat)
  case atStart => exact ⟨0, Nat.zero_le _, rfl, rfl, Below.refl _ _⟩
  case round =>
    obtain ⟨j, hj, rfl, hno, q⟩ := hrel
    have HNO := hide hno
    clear hno
    by_cases hlt : j < n
    · have hx : A[j]? = some (A[j]'(by have := HN.out; omega)) := List.getElem?_eq_getElem (by have := HN.out; omega)
      obtain ⟨x, d, hxd⟩ := HFO.out j _ hx
      rw [hxd] at hx
      have a0 := strs_cell (own_to (w0 := w) q HA.out rfl) j _ hx
      have hji : (j : Int) < (n : Int) := by omega
      have HX := hide hx
      have HC := hide (blk1_any x d k hk3 Bk wr ((q.cell (p := ⟨Bk, 0, none⟩) HB.out.1).trans HB.out.2))
      have w1q : IntKind.i64.wrap ((j : Int) + 1) = (j : Int) + 1 := IntWalk.i64_in _ (by omega)
      clear hx hxd
      cases hc : decide (x.toNat = 48 + k)
      · have HF := hide (hasK_no HX.out HNO.out hc)
        have HCC := hide hc
        clear hc
        go_wp2_with (go_at_call 57; refine HC.out.mono ?_; rintro e w2 ⟨rfl, hb2⟩; rw [HCC.out])
        have q2 := below_to hb2 q q.size rfl rfl rfl rfl
        clear hb2
        go_roundw
        case rel => exact ⟨j + 1, by omega, by go_num, HF.out, q2⟩
        case measure => simp [intOf] <;> omega
      · have HF := hide (hasK_yes HX.out hc)
        have HCC := hide hc
        clear hc
        go_wp2_with (go_at_call 57; refine HC.out.mono ?_; rintro e w2 ⟨rfl, hb2⟩; rw [HCC.out])
        have q2 := below_to hb2 q q.size rfl rfl rfl rfl
        clear hb2
        go_returns
        exact ⟨⟨_, rfl, by rw [HF.out]; exact decide_eq_true (by omega)⟩, q2⟩
    · obtain rfl : j = n := by omega
      have HF := hide (show hasK A k = false from by
        have := HNO.out
        rw [HN.out, List.take_length] at this
        exact this)
      go_wp2
      go_returns
      exact ⟨⟨_, rfl, by rw [HF.out]; rfl⟩, q⟩
theorem hasM_any (A : List (List UInt8)) (hf : ∀ (i : Nat) (mv : List UInt8), A[i]? = some mv → ∃ x d : UInt8, mv = [x, d]) (va : Value) (bm k Bk : Nat) (hk3 : k < 3) (w : World) (hn : A.length ≤ 100) (hA : w.ownsRow bm 9 1 va A.length (strs A)) (hB : Bk < w.heap.size ∧ w.cell? ⟨Bk, 0, none⟩ = some (.int .i64 (k : Int))) : Calls Tryd.prog 56 #[va, .func (.func 57) #[] #[.pointer (some ⟨Bk, 0, none⟩)]] w fun e w' => e = .returned (.bool (hasK A k)) ∧ Below w.heap.size w w' := by
  have HC := hide (show Calls Tryd.prog 78 #[va, .func (.func 57) #[] #[.pointer (some ⟨Bk, 0, none⟩)]] w (IdxM A k w) from by
    rcases own_forms hA with ⟨rfl, h0⟩ | ⟨g, cap, rfl, _, _⟩
    · rw [List.length_eq_zero_iff.1 h0]
      exact idxM_none k Bk w
    · exact idxM_some A hf _ g cap bm k Bk hk3 w rfl hn hA hB)
  clear hn hA hB hf
  go_enter Tryd.func56, Tryd.ntmps56
  go_wp2_with fail
  refine HC.out.mono ?_
  rintro e w2 ⟨⟨r, rfl, hr⟩, hb2⟩
  have HR := hide hr
  clear hr
  go_wp2
  go_returns
  exact ⟨ret_bool HR.out, hb2⟩
/-- Can a die be moved by one of the first j rolls? -/
def canJ (l : List UInt8) (L : List St) (k : Nat) : Nat → Bool
  | 0 => false
  | j + 1 => canJ l L k j || (mvL l L k (j : Int)).isSome
theorem pmL_form (l : List UInt8) (L : List St) (i : Nat) (mv : List UInt8) (h : (pmL l L 12)[i]? = some mv) : ∃ x d : UInt8, mv = [x, d] := by
  have h1 := List.mem_of_getElem? h
  have h2 : mv ∈ movesL := List.mem_of_mem_take (List.mem_filter.1 h1).1
  have h3 : ∀ a ∈ movesL, a.length = 2 := by decide +kernel
  match mv, h3 mv h2 with
  | [x, d], _ => exact ⟨x, d, rfl⟩
theorem hasK_can (l : List UInt8) (L : List St) (k : Nat) (hk : k < 3) : hasK (pmL l L 12) k = canJ l L k 4 := by
  unfold hasK pmL
  rw [List.any_filter, show movesL.take 12 = [[48, 110], [48, 101], [48, 115], [48, 119], [49, 110], [49, 101], [49, 115], [49, 119], [50, 110], [50, 101], [50, 115], [50, 119]] from rfl]
  match k, hk with
  | 0, _ => simp [pmOk, canJ, dirIx, Bool.or_assoc]
  | 1, _ => simp [pmOk, canJ, dirIx, Bool.or_assoc]
  | 2, _ => simp [pmOk, canJ, dirIx, Bool.or_assoc]
/-- The dice among the first m that cannot be moved. -/
def bkL (l : List UInt8) (L : List St) : Nat → List Int
  | 0 => []
  | m + 1 => if canJ l L m 4 = true then bkL l L m else bkL l L m ++ [(m : Int)]
theorem bkL_len (l : List UInt8) (L : List St) : ∀ m, (bkL l L m).length ≤ m
  | 0 => Nat.le_refl _
  | m + 1 => by
    have := bkL_len l L m
    unfold bkL
    split
    · omega
    · rw [List.length_append, List.length_singleton]; omega
def bdL (l : List UInt8) (L : List St) : List Int := if adB l L = true then bkL l L L.length else []
theorem bdL_no {l : List UInt8} {L : List St} (h : adB l L = false) : bdL l L = [] := by unfold bdL; rw [h, if_neg (by decide)]
theorem bdL_yes {l : List UInt8} {L : List St} (h : adB l L = true) : bdL l L = bkL l L L.length := by unfold bdL; rw [h, if_pos rfl]
theorem bdL_len (l : List UInt8) (L : List St) : (bdL l L).length ≤ 100 := by
  cases h : adB l L with
  | false => rw [bdL_no h]; exact Nat.zero_le _
  | true =>
    rw [bdL_yes h]
    have h2 := (tog_facts (Bool.and_eq_true_iff.1 h).2).2.1
    have := bkL_len l L L.length
    omega
def BdPost (Z : List Int) (ok : Bool) (w : World) (e : Ending) (w' : World) : Prop := ∃ v, e = .returned (.tuple #[v, .bool ok]) ∧ w'.ownsRow w.heap.size 3 1 v Z.length (ints Z) ∧ Below w.heap.size w w'
theorem bdPost_no {l : List UInt8} {L : List St} {w w' : World} {e : Ending} (h : adB l L = false) (he : e = .returned (.tuple #[.slice none 0 0, .bool false])) (hb : Below w.heap.size w w') : BdPost (bdL l L) (adB l L) w e w' := by
  rw [bdL_no h, h]
  exact ⟨_, he, ⟨rfl, .inl ⟨rfl, rfl⟩⟩, hb⟩
set_option maxHeartbeats 1600000 in
theorem implBD_any (s : ByteArray) (gd : Nat) (L : List St) (n : Nat) (hN : n = L.length) (w : World) (hs : s.size ≤ 1048576) (hg : Glob w) (hD : StAt w gd 0 L) : Calls Tryd.prog 27 #[.string s, .slice (some ⟨gd, 0, none⟩) n n] w (BdPost (bdL s.data.toList L) (adB s.data.toList L) w) := by
  have HDM := hide (implDM_any s gd L n hN w hs hg hD)
  cases h : adB s.data.toList L with
  | false =>
    rw [h] at HDM
    rw [bdL_no h]
    clear hD hN h
    go_enter Tryd.func27, Tryd.ntmps27
    go_wp2_with fail
    refine HDM.out.mono ?_
    rintro e w1 ⟨v, rfl, -, hb1⟩
    go_wp2
    go_returns
    exact ⟨_, rfl, ⟨rfl, .inl ⟨rfl, rfl⟩⟩, hb1⟩
  | true =>
    rw [h, dmL_yes h] at HDM
    have hn3 : n ≤ 3 := by
      have := (tog_facts (Bool.and_eq_true_iff.1 h).2).2.1
      omega
    rw [bdL_yes h, ← hN]
    obtain ⟨i0, hi, hz0, hz1, hz2⟩ := info_parts info_intI
    have HI := hide hi
    have HZ0 := hide hz0
    have HZ1 := hide hz1
    have HZ2 := hide hz2
    clear hi hz0 hz1 hz2 hD hN h
    go_enter Tryd.func27, Tryd.ntmps27
    go_wp2_with fail
    refine HDM.out.mono ?_
    rintro e w1 ⟨vm, rfl, hO, hb1⟩
    have HO := hide hO
    have HB1 := hide hb1
    clear hO hb1
    go_upto_region 6 with (fail)
    go_loopw [8, 20] (fun mv i wr => ∃ (k : Nat) (v : Value), k ≤ n ∧ i = .int .i64 (k : Int) ∧ v = mv ∧ wr.ownsRow w1.heap.size 3 1 v (bkL s.data.toList L k).length (ints (bkL s.data.toList L k)) ∧ Below w1.heap.size w1 wr) (fun _ i _ => n - (intOf i).toNat)
    case atStart => exact ⟨0, _, by omega, rfl, rfl, ⟨rfl, .inl ⟨rfl, rfl⟩⟩, Below.refl _ _⟩
    case round =>
      obtain ⟨k, v, hk, rfl, rfl, R, q⟩ := hrel
      by_cases hlt : k < n
      · have hki : (k : Int) < (n : Int) := by omega
        have hk3 : k < 3 := by omega
        have w1q : IntKind.i64.wrap ((k : Int) + 1) = (k : Int) + 1 := IntWalk.i64_in _ (by omega)
        have HR := hide R
        have HQ := hide q
        have hc0 : (wr.alloc (.cells #[.int .i64 (k : Int)] 3)).cell? ⟨wr.heap.size, 0, none⟩ = some (.int .i64 (k : Int)) := World.cell?_alloc_mark ..
        have HC := hide hc0
        have HQ1 := hide (q.alloc q.size (.cells #[.int .i64 (k : Int)] 3))
        have HOA := hide (own_to (w0 := w1) HQ1.out HO.out rfl)
        clear R q hc0
        go_upto_region 8 with (fail)
        generalize hWA : wr.alloc (.cells #[.int .i64 (k : Int)] 3) = WA at HC HQ1 HOA ⊢
        have hBk : wr.heap.size < WA.heap.size := by rw [← hWA]; simp
        have HRA := hide (show WA.ownsRow w1.heap.size 3 1 v (bkL s.data.toList L k).length (ints (bkL s.data.toList L k)) from by rw [← hWA]; exact HR.out.alloc _)
        clear hWA
        generalize wr.heap.size = Bk at HC hBk ⊢
        go_wp2_with fail
        refine (hasM_any (pmL s.data.toList L 12) (pmL_form _ _) vm _ k Bk hk3 _ (by have := pmL_len s.data.toList L 12; omega) HOA.out ⟨hBk, HC.out⟩).mono ?_
        rintro e w2 ⟨rfl, hb2⟩
        rw [hasK_can s.data.toList L k hk3]
        have HQ2 := hide (below_to hb2 HQ1.out HQ1.out.size rfl rfl rfl rfl)
        have HR2 := hide (own_to hb2 HRA.out rfl)
        have hc2 : w2.cell? ⟨Bk, 0, none⟩ = some (.int .i64 (k : Int)) := (hb2.cell (p := ⟨Bk, 0, none⟩) hBk).trans HC.out
        clear hb2 HR HQ HC HQ1 HRA HOA hBk
        cases hcan : canJ s.data.toList L k 4 with
        | true =>
          have HS := hide (show bkL s.data.toList L (k + 1) = bkL s.data.toList L k from by
            show (if canJ s.data.toList L k 4 = true then _ else _) = _
            rw [hcan, if_pos rfl])
          clear hcan
          go_wp2
          go_roundw
          case rel => exact ⟨k + 1, _, by omega, by go_num, rfl, by rw [HS.out]; exact HR2.out, HQ2.out⟩
          case measure => simp [intOf] <;> omega
        | false =>
          have HS := hide (show bkL s.data.toList L (k + 1) = bkL s.data.toList L k ++ [(k : Int)] from by
            show (if canJ s.data.toList L k 4 = true then _ else _) = _
            rw [hcan, if_neg (by decide)])
          clear hcan
          have hlen := bkL_len s.data.toList L k
          have hsz2 := HQ2.out.size
          obtain ⟨p, hp⟩ : ∃ p, p = (bkL s.data.toList L k).length := ⟨_, rfl⟩
          have HP := hide hp
          rw [← hp] at hlen HR2
          clear hp
          go_wp2_with (at_builtin; refine wpList_append_own_at _ rfl _ _ 41 rfl w1.heap.size 3 i0 (.int .i64 0) 1 8 Tryd.underlying41 HI.out HZ0.out HZ1.out HZ2.out rfl (by decide) _ _ _ rfl (HR2.out.alloc _) ⟨_, 0, none⟩ 1 1 [.int .i64 (k : Int)] rfl rfl (cell_one_newR _ _ _) (by intro u hu; simp only [List.mem_singleton] at hu; subst hu; rfl) (by unfold maxLen; omega) (by omega) (by simp; omega) ?_; intro v' w4 hown hgr hnil hblk)
          have HR4 := hide (show w4.ownsRow w1.heap.size 3 1 v' (bkL s.data.toList L (k + 1)).length (ints (bkL s.data.toList L (k + 1))) from by
            rw [HS.out, List.length_append, ← HP.out, ints_snoc]
            exact hown)
          have HQ4 := hide ((HQ2.out.alloc hsz2 _).grown hgr (by simp; omega) (fun j hj => (HR2.out.lt j hj).1))
          clear hown hgr hnil hblk
          go_wp2
          go_roundw
          case rel => exact ⟨k + 1, _, by omega, by go_num, rfl, HR4.out, HQ4.out⟩
          case measure => simp [intOf] <;> omega
      · obtain rfl : k = n := by omega
        have HR := hide (own_mono R HB1.out.size)
        have HQ := hide (below_to q HB1.out HB1.out.size rfl rfl rfl rfl)
        clear R q
        go_wp2
        go_returns
        exact ⟨_, rfl, HR.out, HQ.out⟩
end Go.Proofs.YtdndegonpdakkaaDoor
