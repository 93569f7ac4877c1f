/- The walk of the law of TurnTower. -/
import Derived.Test.YtkiocklkpnjejaaTow
import Derived.Test.YtkiocklkpnjejaaWalksE
namespace Go.Proofs.Ytkiocklkpnjejaa
set_option maxRecDepth 100000
set_option linter.all false
open Go.RowKit

/-- What TurnTower answers. -/
def twB (L : List D) (k : Int) : Bool := towB L && decide (0 ≤ k ∧ k ≤ 3)
def twL (L : List D) (k : Int) : List D := if twB L k = true then L.map (turnN k.toNat) else []
theorem twL_len (L : List D) (k : Int) : (twL L k).length ≤ 100000 := by
  unfold twL twB
  split
  · rename_i h
    simp only [Bool.and_eq_true] at h
    have := towB_len h.1
    rw [List.length_map]
    omega
  · simp
theorem map_snoc {L : List D} {m : Nat} {d : D} (f : D → D) (h : L[m]? = some d) : (L.take (m + 1)).map f = (L.take m).map f ++ [f d] := by
  rw [List.take_add_one, h, List.map_append]
  rfl
/-- A row stays while six cells of another block are written. -/
theorem own_set6 {w : World} {B b : Nat} {e : TypeId} {z : Nat} {v : Value} {n : Nat} {xs : List Value} (h : w.ownsRow B e z v n xs) (ha : ∀ g, v.ownBlock = some g → g ≠ b) (y : D) : ((((((w.setCell ⟨b, 0, none⟩ (.int .i64 y.t)).setCell ⟨b, 1, none⟩ (.int .i64 y.n)).setCell ⟨b, 2, none⟩ (.int .i64 y.e)).setCell ⟨b, 3, none⟩ (.int .i64 y.s)).setCell ⟨b, 4, none⟩ (.int .i64 y.w)).setCell ⟨b, 5, none⟩ (.int .i64 y.b)).ownsRow B e z v n xs := by
  have hh : ∀ (w : World), w.ownsRow B e z v n xs → ∀ o u, (w.setCell ⟨b, o, none⟩ u).ownsRow B e z v n xs := fun w h o u => ownsRow_setCell_other h (fun hv => ha b hv rfl) u
  exact hh _ (hh _ (hh _ (hh _ (hh _ (hh _ h _ _) _ _) _ _) _ _) _ _) _ _
def TwPost (L : List D) (k : Int) (w : World) (e : Ending) (w' : World) : Prop := ∃ v, e = .returned (.tuple #[v, .bool (twB L k)]) ∧ w'.ownsRow w.heap.size 30 6 v (twL L k).length (cellsW (twL L k)) ∧ Below w.heap.size w w'
set_option maxHeartbeats 800000 in
theorem specTW_no1 (g n : Nat) (L : List D) (k : Int) (w : World) (hn : n = L.length) (h4 : n ≤ 1048576) (hD : DAt w g 0 L) (h : towB L = false) : Calls Try.prog 45 #[.slice (some ⟨g, 0, none⟩) n n, .int .i64 k] w fun e w' => e = .returned (.tuple #[.slice none 0 0, .bool false]) ∧ Below w.heap.size w w' := by
  have HC := hide (clDice_any g n n L w hn h4 hD)
  rw [h] at HC
  clear hD hn h
  go_enter Try.func45, Try.ntmps45
  go_wp2_with fail
  refine HC.out.mono ?_
  rintro e w1 ⟨rfl, q1⟩
  go_wp2
  go_returns
  exact ⟨rfl, q1⟩
set_option maxHeartbeats 800000 in
theorem implTW_no1 (g n : Nat) (L : List D) (k : Int) (w : World) (hn : n = L.length) (h4 : n ≤ 1048576) (hD : DAt w g 0 L) (h : towB L = false) : Calls Try.prog 46 #[.slice (some ⟨g, 0, none⟩) n n, .int .i64 k] w fun e w' => e = .returned (.tuple #[.slice none 0 0, .bool false]) ∧ Below w.heap.size w w' := by
  have HC := hide (isListForTower_any g n n L w hn h4 hD)
  rw [h] at HC
  clear hD hn h
  go_enter Try.func46, Try.ntmps46
  go_wp2_with fail
  refine HC.out.mono ?_
  rintro e w1 ⟨rfl, q1⟩
  go_wp2
  go_returns
  exact ⟨rfl, q1⟩
set_option maxHeartbeats 800000 in
theorem specTW_no2 (g n : Nat) (L : List D) (k : Int) (w : World) (hn : n = L.length) (h4 : n ≤ 1048576) (hD : DAt w g 0 L) (h : towB L = true) (hk : decide (0 ≤ k ∧ k ≤ 3) = false) : Calls Try.prog 45 #[.slice (some ⟨g, 0, none⟩) n n, .int .i64 k] w fun e w' => e = .returned (.tuple #[.slice none 0 0, .bool false]) ∧ Below w.heap.size w w' := by
  have HC := hide (clDice_any g n n L w hn h4 hD)
  rw [h] at HC
  have HK := hide hk
  clear hD hn h hk
  go_enter Try.func45, Try.ntmps45
  go_wp2_with fail
  refine HC.out.mono ?_
  rintro e w1 ⟨rfl, q1⟩
  go_wp2_with fail
  refine (l1In_any _ _ _ _).mono ?_
  rintro e w2 ⟨rfl, rfl⟩
  rw [HK.out]
  go_wp2
  go_returns
  exact ⟨rfl, q1⟩
set_option maxHeartbeats 1600000 in
theorem implTW_no2 (g n : Nat) (L : List D) (k : Int) (w : World) (hn : n = L.length) (h4 : n ≤ 1048576) (hD : DAt w g 0 L) (h : towB L = true) (hk : decide (0 ≤ k ∧ k ≤ 3) = false) : Calls Try.prog 46 #[.slice (some ⟨g, 0, none⟩) n n, .int .i64 k] w fun e w' => e = .returned (.tuple #[.slice none 0 0, .bool false]) ∧ Below w.heap.size w w' := by
  have HC := hide (isListForTower_any g n n L w hn h4 hD)
  rw [h] at HC
  have hl := towB_len h
  have hx : L[0]? = some (L[0]'(by omega)) := List.getElem?_eq_getElem (by omega)
  generalize L[0]'(by omega) = d at hx
  have HT := hide (implTurnDie_no2 d k · (towB_good h hx) (by simp at hk; omega))
  have h0n : (0 : Int) < (n : Int) := by omega
  have h4n : (n : Int) ≤ 4 := by omega
  have HX := hide hx
  have HD := hide hD
  obtain ⟨i0, hi, hz0, hz1, hz2⟩ := info_parts info_die
  have HI := hide hi
  have HZ0 := hide hz0
  have HZ1 := hide hz1
  have HZ2 := hide hz2
  clear hi hz0 hz1 hz2 hD hn h hk hx hl
  go_enter Try.func46, Try.ntmps46
  go_wp2_with fail
  refine HC.out.mono ?_
  rintro e w1 ⟨rfl, q1⟩
  go_wp2_with (at_make; refine wpList_make_full _ rfl _ _ 42 rfl w1.heap.size 30 i0 (.agg #[.int .i64 0, .int .i64 0, .int .i64 0, .int .i64 0, .int .i64 0, .int .i64 0]) 6 Try.underlying42 HI.out HZ0.out HZ1.out .i64 .i64 _ _ n rfl rfl rfl rfl (by rw [HZ2.out]; omega) (by unfold maxLen; omega) (Nat.le_refl _) ?_; intro w2 O2 g2)
  have q2 := q1.grown g2 q1.size (fun j hj => by cases hj)
  clear O2 g2 q1
  have HQ := hide q2
  clear q2
  go_loopw [19, 7, 8, 9, 10] (fun i _ _ _ _ wr => i = .int .i64 0 ∧ Below w.heap.size w wr) (fun _ _ _ _ _ _ => 0)
  case atStart => exact ⟨rfl, HQ.out⟩
  case round =>
    obtain ⟨rfl, q⟩ := hrel
    clear HQ
    obtain ⟨c0, c1, c2, c3, c4, c5⟩ := (dAt_to q HD.out rfl).cells0 HX.out
    simp only [Nat.zero_mul, Nat.zero_add] at c0 c1 c2 c3 c4 c5
    go_wp2_with fail
    refine (HT.out _).mono ?_
    rintro e w3 ⟨rfl, hb3⟩
    have q3 : Below w.heap.size w w3 := below_after (q.alloc q.size (.cells #[.int .i64 d.t, .int .i64 d.n, .int .i64 d.e, .int .i64 d.s, .int .i64 d.w, .int .i64 d.b] 30)) hb3 (by have := q.size; simp; omega)
    clear hb3 q c0 c1 c2 c3 c4 c5
    go_wp2
    go_returns
    exact ⟨rfl, q3.alloc q3.size _⟩
set_option maxHeartbeats 3200000 in
theorem specTW_yes (g n : Nat) (L : List D) (k : Nat) (w : World) (hn : n = L.length) (h4 : n ≤ 1048576) (hD : DAt w g 0 L) (h : towB L = true) (hk : k ≤ 3) : Calls Try.prog 45 #[.slice (some ⟨g, 0, none⟩) n n, .int .i64 (k : Int)] w fun e w' => ∃ v, e = .returned (.tuple #[v, .bool true]) ∧ w'.ownsRow w.heap.size 30 6 v n (cellsW (L.map (turnN k))) ∧ Below w.heap.size w w' := by
  have HC := hide (clDice_any g n n L w hn h4 hD)
  rw [h] at HC
  have hl := towB_len h
  have h4n : (n : Int) ≤ 4 := by omega
  have hki : (k : Int) ≤ 3 := by omega
  have HK := hide (show decide ((0 : Int) ≤ (k : Int) ∧ (k : Int) ≤ 3) = true from decide_eq_true (by omega))
  have HD := hide hD
  have HN := hide hn
  obtain ⟨i0, hi, hz0, hz1, hz2⟩ := info_parts info_die
  have HI := hide hi
  have HZ0 := hide hz0
  have HZ1 := hide hz1
  have HZ2 := hide hz2
  clear hi hz0 hz1 hz2 hD hn h hl
  go_enter Try.func45, Try.ntmps45
  go_wp2_with fail
  refine HC.out.mono ?_
  rintro e w1 ⟨rfl, q1⟩
  go_wp2_with fail
  refine (l1In_any _ _ _ _).mono ?_
  rintro e w2 ⟨rfl, rfl⟩
  rw [HK.out]
  have HQ := hide q1
  clear q1
  go_wp2
  go_loopw [20, 6, 8, 9] (fun i v _ _ wr => ∃ m : Nat, m ≤ n ∧ i = .int .i64 (m : Int) ∧ wr.ownsRow w.heap.size 30 6 v m (cellsW ((L.take m).map (turnN k))) ∧ Below w.heap.size w wr) (fun i _ _ _ _ => n - (intOf i).toNat)
  case atStart => exact ⟨0, Nat.zero_le _, rfl, World.ownsRow_nil _ _ _ _, HQ.out⟩
  case round =>
    obtain ⟨m, hm, rfl, O, q⟩ := hrel
    clear HQ
    by_cases hlt : m < n
    · have hmi : (m : Int) < (n : Int) := by omega
      have hx : L[m]? = some (L[m]'(by have := HN.out; omega)) := List.getElem?_eq_getElem (by have := HN.out; omega)
      generalize L[m]'(by have := HN.out; omega) = d at hx
      obtain ⟨c0, c1, c2, c3, c4, c5⟩ := (dAt_to q HD.out rfl).cells0 hx
      have HS := hide (map_snoc (turnN k) hx)
      have HX := hide (IsD.new (w := wr) (d := d) (ty := 30))
      have HO := hide (O.alloc (.cells #[.int .i64 d.t, .int .i64 d.n, .int .i64 d.e, .int .i64 d.s, .int .i64 d.w, .int .i64 d.b] 30))
      have HQ := hide (q.alloc q.size (.cells #[.int .i64 d.t, .int .i64 d.n, .int .i64 d.e, .int .i64 d.s, .int .i64 d.w, .int .i64 d.b] 30))
      have hbw : w.heap.size ≤ wr.heap.size := q.size
      have hap0 : ∀ g, u6.ownBlock = some g → g ≠ wr.heap.size := fun g hg => by have := (O.lt g hg).2; omega
      clear hx O q
      go_upto_region 7 with (fail)
      clear c0 c1 c2 c3 c4 c5
      generalize wr.heap.size = b at HX hbw hap0 ⊢
      have HAP := hide hap0
      clear hap0
      generalize wr.alloc (.cells #[.int .i64 d.t, .int .i64 d.n, .int .i64 d.e, .int .i64 d.s, .int .i64 d.w, .int .i64 d.b] 30) = W2 at HX HO HQ ⊢
      go_wp2
      go_loopw [9] (fun jv wi => ∃ j : Nat, j ≤ k ∧ jv = .int .i64 (j : Int) ∧ IsD wi b (turnN j d) 30 ∧ wi.ownsRow w.heap.size 30 6 u6 m (cellsW ((L.take m).map (turnN k))) ∧ (∀ g, u6.ownBlock = some g → g ≠ b) ∧ Below w.heap.size w wi) (fun jv _ => k - (intOf jv).toNat)
      case atStart => exact ⟨0, Nat.zero_le _, rfl, HX.out, HO.out, HAP.out, HQ.out⟩
      case round =>
        obtain ⟨j, hj, rfl, X, O, hap, q⟩ := hrel
        clear HX HO HQ HAP
        have HAP := hide hap
        clear hap
        by_cases hjk : j < k
        · have hji : (j : Int) < (k : Int) := by omega
          obtain ⟨lx, ⟨c0, c1, c2, c3, c4, c5⟩, -⟩ := X.all
          have HX := hide X
          have HO := hide O
          clear X O
          go_wp2_with fail
          refine (diTurn_any _ _).mono ?_
          rintro e w3 ⟨rfl, hb3⟩
          have X3 := isD_to hb3 HX.out rfl
          have O3 := hide (own_to hb3 HO.out rfl)
          have q3 := below_to hb3 q q.size rfl rfl rfl rfl
          clear hb3 q HX HO c0 c1 c2 c3 c4 c5 lx
          obtain ⟨lx, ⟨c0, c1, c2, c3, c4, c5⟩, f0, f1, f2, f3, f4, f5⟩ := X3.all
          have HX4 := hide (X3.set6 (turnD (turnN j d)))
          have HO4 := hide (own_set6 O3.out HAP.out (turnD (turnN j d)))
          have HQ4 := hide (below_set6 q3 hbw (turnD (turnN j d)))
          clear X3 O3 q3
          go_wp2
          go_roundw
          case rel => exact ⟨j + 1, by omega, by go_num, HX4.out, HO4.out, HAP.out, HQ4.out⟩
          case measure => simp [intOf] <;> omega
        · obtain rfl : j = k := by omega
          obtain ⟨lx, ⟨c0, c1, c2, c3, c4, c5⟩, -⟩ := X.all
          have HO := hide O
          have HQ := hide q
          generalize turnN j d = y at X c0 c1 c2 c3 c4 c5 HS
          clear O q X
          go_wp2_with (at_builtin; refine wpList_append_own_at _ rfl _ _ 42 rfl w.heap.size 30 i0 (.agg #[.int .i64 0, .int .i64 0, .int .i64 0, .int .i64 0, .int .i64 0, .int .i64 0]) 6 48 Try.underlying42 HI.out HZ0.out HZ1.out HZ2.out rfl (by decide) _ _ _ rfl (HO.out.alloc _) ⟨wr.heap.size, 0, none⟩ 1 1 (dcells y) rfl rfl (dcells_cell (IsD.new (w := wr) (d := y) (ty := 30))) (dcells_one y) (by unfold maxLen; omega) (by omega) (by have := HQ.out.size; simp; omega) ?_; intro v' w4 hown hgr hnil hblk)
          have HO4 := hide (show w4.ownsRow w.heap.size 30 6 v' (m + 1) (cellsW ((L.take (m + 1)).map (turnN j))) from by
            rw [HS.out, cellsW_append, cellsW_one]
            exact hown)
          have HQ4 := hide ((HQ.out.alloc HQ.out.size (.cells #[.int .i64 y.t, .int .i64 y.n, .int .i64 y.e, .int .i64 y.s, .int .i64 y.w, .int .i64 y.b] 30)).grown hgr (by have := HQ.out.size; simp; omega) (fun j hj => (HO.out.lt j hj).1))
          clear hown hgr hnil hblk HO HQ
          go_wp2
          go_roundw
          case rel => exact ⟨m + 1, by omega, by go_num, HO4.out, HQ4.out⟩
          case measure => simp [intOf] <;> omega
    · obtain rfl : m = n := by omega
      have HO := hide (show wr.ownsRow w.heap.size 30 6 u6 m (cellsW (L.map (turnN k))) from by
        rw [List.take_of_length_le (by have := HN.out; omega)] at O
        exact O)
      clear O
      go_wp2
      go_returns
      exact ⟨_, rfl, HO.out, q⟩
set_option maxHeartbeats 3200000 in
theorem implTW_yes (g n : Nat) (L : List D) (k : Nat) (w : World) (hn : n = L.length) (h4 : n ≤ 1048576) (hD : DAt w g 0 L) (h : towB L = true) (hk : k ≤ 3) : Calls Try.prog 46 #[.slice (some ⟨g, 0, none⟩) n n, .int .i64 (k : Int)] w fun e w' => ∃ v, e = .returned (.tuple #[v, .bool true]) ∧ w'.ownsRow w.heap.size 30 6 v n (cellsW (L.map (turnN k))) ∧ Below w.heap.size w w' := by
  have HC := hide (isListForTower_any g n n L w hn h4 hD)
  rw [h] at HC
  have hl := towB_len h
  have h4n : (n : Int) ≤ 4 := by omega
  have HD := hide hD
  have HN := hide hn
  have HT := hide (fun (i : Nat) (d : D) (hi : L[i]? = some d) (wx : World) => implTurnDie_yes d k wx (towB_good h hi) hk)
  obtain ⟨i0, hi, hz0, hz1, hz2⟩ := info_parts info_die
  have HI := hide hi
  have HZ0 := hide hz0
  have HZ1 := hide hz1
  have HZ2 := hide hz2
  clear hi hz0 hz1 hz2 hD hn h hl
  obtain ⟨M, hM⟩ : ∃ M, M = L.map (turnN k) := ⟨_, rfl⟩
  have HMN := hide (show M.length = n from by rw [hM, List.length_map, HN.out])
  have HMG := hide (show ∀ (i : Nat) (d : D), L[i]? = some d → M[i]? = some (turnN k d) from fun i d hd => by rw [hM, List.getElem?_map, hd]; rfl)
  rw [← hM]
  clear hM
  go_enter Try.func46, Try.ntmps46
  go_wp2_with fail
  refine HC.out.mono ?_
  rintro e w1 ⟨rfl, q1⟩
  go_wp2_with (at_make; refine wpList_make_full _ rfl _ _ 42 rfl w1.heap.size 30 i0 (.agg #[.int .i64 0, .int .i64 0, .int .i64 0, .int .i64 0, .int .i64 0, .int .i64 0]) 6 Try.underlying42 HI.out HZ0.out HZ1.out .i64 .i64 _ _ n rfl rfl rfl rfl (by rw [HZ2.out]; omega) (by unfold maxLen; omega) (Nat.le_refl _) ?_; intro w2 O2 g2)
  have q2 := q1.grown g2 q1.size (fun j hj => by cases hj)
  generalize hxs : (madeCells (Value.agg #[.int .i64 0, .int .i64 0, .int .i64 0, .int .i64 0, .int .i64 0, .int .i64 0]).cells (n * 6)).toList = xs at O2
  have hlx := hide (show (cellsW M).length = xs.length from by rw [O2.1, cellsW_len, HMN.out])
  obtain ⟨gr, hgr⟩ : ∃ gr, gr = w1.heap.size := ⟨_, rfl⟩
  have hwg : w.heap.size ≤ gr := by have := q1.size; omega
  rw [← hgr] at O2 ⊢
  have HO := hide O2
  have HQ := hide q2
  clear hxs O2 g2 q1 q2 hgr
  go_wp2
  go_loopw [19, 7, 8, 9, 10] (fun i _ _ _ _ wr => ∃ m : Nat, m ≤ n ∧ i = .int .i64 (m : Int) ∧ wr.ownsRow gr 30 6 (.slice (some ⟨gr, 0, none⟩) n n) n (over (cellsW M) xs (m * 6)) ∧ Below w.heap.size w wr) (fun i _ _ _ _ _ => n - (intOf i).toNat)
  case atStart => exact ⟨0, Nat.zero_le _, rfl, by rw [Nat.zero_mul, over_zero]; exact HO.out, HQ.out⟩
  case round =>
    obtain ⟨m, hm, rfl, O, q⟩ := hrel
    clear HO HQ
    by_cases hlt : m < n
    · have hmi : (m : Int) < (n : Int) := by omega
      have hx : L[m]? = some (L[m]'(by have := HN.out; omega)) := List.getElem?_eq_getElem (by have := HN.out; omega)
      generalize L[m]'(by have := HN.out; omega) = d at hx
      obtain ⟨c0, c1, c2, c3, c4, c5⟩ := (dAt_to q HD.out rfl).cells0 hx
      have HTX := hide (HT.out m d hx)
      have HX := hide (HMG.out m d hx)
      have HO := hide O
      have hgw := (O.lt gr rfl).2
      clear hx O
      go_wp2_with fail
      refine (HTX.out _).mono ?_
      rintro e w3 ⟨rfl, hb3⟩
      have q3 : Below w.heap.size w w3 := below_after (q.alloc q.size (.cells #[.int .i64 d.t, .int .i64 d.n, .int .i64 d.e, .int .i64 d.s, .int .i64 d.w, .int .i64 d.b] 30)) hb3 (by have := q.size; simp; omega)
      have O3 := own_to hb3 (HO.out.alloc (.cells #[.int .i64 d.t, .int .i64 d.n, .int .i64 d.e, .int .i64 d.s, .int .i64 d.w, .int .i64 d.b] 30)) rfl
      clear hb3 q HO c0 c1 c2 c3 c4 c5
      generalize turnN k d = y at HX ⊢
      have O4 := O3.alloc (.cells #[.int .i64 y.t, .int .i64 y.n, .int .i64 y.e, .int .i64 y.s, .int .i64 y.w, .int .i64 y.b] 30)
      have q4 := q3.alloc q3.size (.cells #[.int .i64 y.t, .int .i64 y.n, .int .i64 y.e, .int .i64 y.s, .int .i64 y.w, .int .i64 y.b] 30)
      obtain ⟨lx, ⟨x0, x1, x2, x3, x4, x5⟩, -⟩ := (IsD.new (w := w3) (d := y) (ty := 30)).all
      go_upto_region 8 with (fail)
      clear O3 q3
      generalize w3.heap.size = bx at x0 x1 x2 x3 x4 x5 lx ⊢
      generalize w3.alloc (.cells #[.int .i64 y.t, .int .i64 y.n, .int .i64 y.e, .int .i64 y.s, .int .i64 y.w, .int .i64 y.b] 30) = W4 at O4 q4 x0 x1 x2 x3 x4 x5 lx ⊢
      have f0 := own_free O4 (m * 6)
      have f1 := own_free O4 (m * 6 + 1)
      have f2 := own_free O4 (m * 6 + 2)
      have f3 := own_free O4 (m * 6 + 3)
      have f4 := own_free O4 (m * 6 + 4)
      have f5 := own_free O4 (m * 6 + 5)
      obtain ⟨v0, p0⟩ := own_has O4 (m * 6) (by omega)
      obtain ⟨v1, p1⟩ := own_has O4 (m * 6 + 1) (by omega)
      obtain ⟨v2, p2⟩ := own_has O4 (m * 6 + 2) (by omega)
      obtain ⟨v3, p3⟩ := own_has O4 (m * 6 + 3) (by omega)
      obtain ⟨v4, p4⟩ := own_has O4 (m * 6 + 4) (by omega)
      obtain ⟨v5, p5⟩ := own_has O4 (m * 6 + 5) (by omega)
      have q5 := hide (below_put6 q4 hwg (m * 6) y)
      have O5 := hide (over_die O4 HX.out hlx.out HMN.out)
      clear O4 q4
      go_wp2
      go_roundw
      case rel => exact ⟨m + 1, by omega, by go_num, O5.out, q5.out⟩
      case measure => simp [intOf] <;> omega
    · obtain rfl : m = n := by omega
      have HO := hide (show wr.ownsRow w.heap.size 30 6 (.slice (some ⟨gr, 0, none⟩) m m) m (cellsW M) from by
        have := over_done (cellsW M) xs hlx.out
        rw [cellsW_len, HMN.out] at this
        rw [this] at O
        exact own_mono O hwg)
      clear O
      go_wp2
      go_returns
      exact ⟨_, rfl, HO.out, q⟩
theorem specTW_any (g n : Nat) (L : List D) (k : Int) (w : World) (hn : n = L.length) (h4 : n ≤ 1048576) (hD : DAt w g 0 L) : Calls Try.prog 45 #[.slice (some ⟨g, 0, none⟩) n n, .int .i64 k] w (TwPost L k w) := by
  unfold TwPost twL twB
  cases h1 : towB L
  · exact (specTW_no1 g n L k w hn h4 hD h1).mono fun e w' h => ⟨_, h.1, World.ownsRow_nil _ _ _ _, h.2⟩
  · cases h2 : decide (0 ≤ k ∧ k ≤ 3)
    · exact (specTW_no2 g n L k w hn h4 hD h1 h2).mono fun e w' h => ⟨_, h.1, World.ownsRow_nil _ _ _ _, h.2⟩
    · obtain ⟨j, rfl⟩ : ∃ j : Nat, k = (j : Int) := ⟨k.toNat, by simp at h2; omega⟩
      rw [if_pos (show (true && true) = true from rfl), List.length_map, ← hn]
      exact specTW_yes g n L j w hn h4 hD h1 (by simp at h2; omega)
theorem implTW_any (g n : Nat) (L : List D) (k : Int) (w : World) (hn : n = L.length) (h4 : n ≤ 1048576) (hD : DAt w g 0 L) : Calls Try.prog 46 #[.slice (some ⟨g, 0, none⟩) n n, .int .i64 k] w (TwPost L k w) := by
  unfold TwPost twL twB
  cases h1 : towB L
  · exact (implTW_no1 g n L k w hn h4 hD h1).mono fun e w' h => ⟨_, h.1, World.ownsRow_nil _ _ _ _, h.2⟩
  · cases h2 : decide (0 ≤ k ∧ k ≤ 3)
    · exact (implTW_no2 g n L k w hn h4 hD h1 h2).mono fun e w' h => ⟨_, h.1, World.ownsRow_nil _ _ _ _, h.2⟩
    · obtain ⟨j, rfl⟩ : ∃ j : Nat, k = (j : Int) := ⟨k.toNat, by simp at h2; omega⟩
      rw [if_pos (show (true && true) = true from rfl), List.length_map, ← hn]
      exact implTW_yes g n L j w hn h4 hD h1 (by simp at h2; omega)
set_option maxHeartbeats 3200000 in
theorem walk_TurnTower (VV0 : Value) (L0 : List D) (a1 : Int) (ha1 : (Lit.int .i64 a1).wf = true) (w : World) (hV : DsIn w VV0 L0) : Calls Try.prog 12 #[VV0, .int .i64 a1] w fun e w' => e = .returned (.bool true) ∧ Below w.heap.size w w' := by
  have HV0 := hide hV
  clear hV
  by_cases hl : L0.length ≤ 1048576
  · have HL1 := hide hl
    obtain ⟨z, hz, hz0⟩ : ∃ z : Int, z = 1048576 - (L0.length : Int) ∧ 0 ≤ z := ⟨_, rfl, by omega⟩
    have HSZ := hide (show Calls Try.prog 23 #[VV0, .int .i64 1048576] w fun e w' => e = .returned (.int .i64 z) ∧ w = w' from by
      have := szDieS_any VV0 L0 1048576 w HV0.out (by omega)
      rw [if_neg (by omega), ← hz] at this
      exact this)
    have hzn : ¬ z < 0 := by omega
    clear hz hl
    obtain ⟨nn, hnn⟩ : ∃ x : Int, x = 1 + ((L0.length * 6 : Nat) : Int) := ⟨_, rfl⟩
    have hnn0 : ¬ nn < 0 := by omega
    have HNN := hide hnn
    clear hnn
    have hlen := hide (show (twL L0 a1).length ≤ 100000 from twL_len _ _)
    obtain ⟨Z, hZ⟩ : ∃ Z, Z = twL L0 a1 := ⟨_, rfl⟩
    have HZ := hide hZ
    clear hZ
    rw [← HZ.out] at hlen
    obtain ⟨ok, hok⟩ : ∃ ok, ok = twB L0 a1 := ⟨_, rfl⟩
    have HOK := hide hok
    clear hok
    have e1 : (ok != ok) = false := by simp
    obtain ⟨N, hN⟩ : ∃ N : Int, N = ((Z.length * 6 : Nat) : Int) := ⟨_, rfl⟩
    have n1 : ¬ (1 + N < 0) := by omega
    have n2 : ((1 + N) != (1 + N)) = false := by simp
    have HN := hide hN
    clear hN
    go_enter Try.func12, Try.ntmps12
    go_wp2_with fail
    refine HSZ.out.mono ?_
    rintro e w' ⟨rfl, rfl⟩
    clear hz0
    go_wp2_with fail
    refine (toDieS_any VV0 L0 _ HV0.out HL1.out).mono ?_
    rintro e w1 ⟨g1, _, rfl, O1, q1⟩
    have HVW := hide HV0.out
    have HV1 := hide (dsIn_to q1 HV0.out rfl)
    clear HV0
    have D1 := hide (dAt_own O1 rfl)
    have HXX := hide O1
    clear O1
    go_wp2_with fail
    refine (specTW_any g1 _ L0 a1 _ rfl HL1.out D1.out).mono ?_
    rintro e w2 ⟨r0, rfl, O2, hb2⟩
    have q2 := below_to hb2 q1 q1.size rfl rfl rfl rfl
    have HV2 := hide (dsIn_to hb2 HV1.out rfl)
    rw [← HZ.out] at O2
    rw [← HOK.out]
    have HO2 := hide (O2)
    clear hb2 HV1 q1 O2
    have HOA := hide HO2.out
    have q2S := hide q2.size
    go_wp2_with fail
    refine (toDieS_any VV0 L0 _ HV2.out HL1.out).mono ?_
    rintro e w3 ⟨g3, _, rfl, O3, hb3⟩
    have q3 := below_to hb3 q2 q2.size rfl rfl rfl rfl
    have HO3 := hide (own_to hb3 HO2.out rfl)
    have HV3 := hide (dsIn_to hb3 HV2.out rfl)
    have D3 := hide (dAt_own O3 rfl)
    try clear HXX
    have HXX := hide O3
    clear hb3 HO2 HV2 q2 O3
    have HX3 := hide (HXX.out)
    have HA2 := hide (fun g hg hx => own_apart HOA.out HXX.out (by first | exact Nat.le_refl _ | simp) g hx hg)
    have HXY := hide HXX.out
    have HSX := hide (show w.heap.size ≤ w2.heap.size from q2S.out)
    have hltO := hide (fun g hg => (HO3.out.lt g hg).2)
    have hsq : w.heap.size ≤ _ := q3.size
    go_wp2_with fail
    refine (implTW_any g3 _ L0 a1 _ rfl HL1.out D3.out).mono ?_
    rintro e w4 ⟨r1, rfl, O4, hb4⟩
    have q4 := below_to hb4 q3 q3.size rfl rfl rfl rfl
    have HO4 := hide (own_to hb4 HO3.out rfl)
    have HV4 := hide (dsIn_to hb4 HV3.out rfl)
    have HX4 := hide (own_to hb4 HX3.out rfl)
    rw [← HZ.out] at O4
    rw [← HOK.out]
    have HG4 := hide (O4)
    have HA1 := hide (own_apart HXY.out O4 (by first | exact Nat.le_refl _ | simp))
    clear hb4 HO3 HV3 HX3 q3 O4
    go_wp2_with fail
    refine (eqDieS_any r1 r0 Z.length _ _ Z _ (by have := hlen.out; omega) HG4.out HO4.out).mono ?_
    rintro e w5 ⟨rfl, hb5⟩
    have q5 := below_to hb5 q4 q4.size rfl rfl rfl rfl
    have HG5 := hide (own_to hb5 HG4.out rfl)
    have HO5 := hide (own_to hb5 HO4.out rfl)
    have HV5 := hide (dsIn_to hb5 HV4.out rfl)
    have HX5 := hide (own_to hb5 HX4.out rfl)
    clear hb5 HG4 HO4 HV4 HX4 q4 
    go_wp2_with fail
    refine (toDieS_any VV0 L0 _ HV5.out HL1.out).mono ?_
    rintro e w6 ⟨g6, _, rfl, O6, hb6⟩
    have q6 := below_to hb6 q5 q5.size rfl rfl rfl rfl
    have HG6 := hide (own_to hb6 HG5.out rfl)
    have HO6 := hide (own_to hb6 HO5.out rfl)
    have HV6 := hide (dsIn_to hb6 HV5.out rfl)
    have HX6 := hide (own_to hb6 HX5.out rfl)
    try clear HXX
    have HP6 := hide O6
    clear hb6 HG5 HO5 HV5 HX5 q5 O6
    go_wp2_with fail
    refine (eqDieS_any _ _ L0.length _ _ L0 _ (by have := HL1.out; omega) HX6.out HP6.out).mono ?_
    rintro e w7 ⟨rfl, hb7⟩
    have q7 := below_to hb7 q6 q6.size rfl rfl rfl rfl
    have HG7 := hide (own_to hb7 HG6.out rfl)
    have HO7 := hide (own_to hb7 HO6.out rfl)
    have HP7 := hide (own_to hb7 HP6.out rfl)
    have HV7 := hide (dsIn_to hb7 HV6.out rfl)
    have HX7 := hide (own_to hb7 HX6.out rfl)
    clear hb7 HG6 HO6 HP6 HV6 HX6 q6 
    clear HP7
    go_wp2_with fail
    refine (markDieS_kept _ L0.length _ L0 1 _ HL1.out (by omega) HX7.out).mono ?_
    rintro e wk ⟨rfl, -, hk⟩
    rw [← HNN.out]
    have hbk := hk.below (B := w.heap.size) (fun g hg => by have := (HX7.out.lt g hg).1; have := HSX.out; omega)
    have qk := q7.trans hbk
    have HGk := hide (own_kept hk HG7.out HA1.out)
    have HOk := hide (own_kept hk HO7.out HA2.out)
    have HVk := hide (dsIn_to qk HVW.out rfl)
    clear hk hbk HX7 HG7 HO7 HV7 q7
    have q8 := qk
    have HG8 := HGk
    have HO8 := HOk
    have HV8 := HVk
    clear qk HGk HOk HVk
    go_wp2_with fail
    refine (eqDieS_any r1 r0 Z.length _ _ Z _ (by have := hlen.out; omega) HG8.out HO8.out).mono ?_
    rintro e w9 ⟨rfl, hb9⟩
    have q9 := below_to hb9 q8 q8.size rfl rfl rfl rfl
    have HG9 := hide (own_to hb9 HG8.out rfl)
    have HO9 := hide (own_to hb9 HO8.out rfl)
    have HV9 := hide (dsIn_to hb9 HV8.out rfl)
    clear hb9 HG8 HO8 HV8 q8 
    go_wp2_with fail
    refine (markDieS_any r1 Z.length _ Z 1 _ (by have := hlen.out; omega) (by omega) HG9.out).mono ?_
    rintro e w10 ⟨rfl, G10, hb10⟩
    rw [← HN.out]
    have q10 := q9.trans (hb10.mono hsq)
    have HV10 := hide (dsIn_to q10 HVW.out rfl)
    have HO10 := hide (own_below hb10 HO9.out hltO.out)
    have HG10 := hide G10
    clear hb10 G10 q9 HO9 HG9 HV9
    go_wp2_with fail
    refine (heldDieS_any r1 Z.length _ 1 _ (by have := hlen.out; omega) (by omega) HG10.out).mono ?_
    rintro e w' ⟨rfl, rfl⟩
    rw [← HN.out]
    go_wp2_with fail
    refine (toDieS_any VV0 L0 _ HV10.out HL1.out).mono ?_
    rintro e w11 ⟨g11, _, rfl, O11, hb11⟩
    have q11 := below_to hb11 q10 q10.size rfl rfl rfl rfl
    have HG11 := hide (own_to hb11 HG10.out rfl)
    have HO11 := hide (own_to hb11 HO10.out rfl)
    have HV11 := hide (dsIn_to hb11 HV10.out rfl)
    have D11 := hide (dAt_own O11 rfl)
    try clear HXX
    have HXX := hide O11
    clear hb11 HG10 HO10 HV10 q10 O11
    go_wp2_with fail
    refine (implTW_any g11 _ L0 a1 _ rfl HL1.out D11.out).mono ?_
    rintro e w12 ⟨r2, rfl, O12, hb12⟩
    have q12 := below_to hb12 q11 q11.size rfl rfl rfl rfl
    have HG12 := hide (own_to hb12 HG11.out rfl)
    have HO12 := hide (own_to hb12 HO11.out rfl)
    have HV12 := hide (dsIn_to hb12 HV11.out rfl)
    rw [← HZ.out] at O12
    rw [← HOK.out]
    have HH12 := hide (O12)
    clear hb12 HG11 HO11 HV11 q11 O12
    go_wp2_with fail
    refine (eqDieS_any r2 r0 Z.length _ _ Z _ (by have := hlen.out; omega) HH12.out HO12.out).mono ?_
    rintro e w13 ⟨rfl, hb13⟩
    have q13 := below_to hb13 q12 q12.size rfl rfl rfl rfl
    have HG13 := hide (own_to hb13 HG12.out rfl)
    have HH13 := hide (own_to hb13 HH12.out rfl)
    have HO13 := hide (own_to hb13 HO12.out rfl)
    have HV13 := hide (dsIn_to hb13 HV12.out rfl)
    clear hb13 HG12 HH12 HO12 HV12 q12 
    go_wp2_with fail
    refine (heldDieS_any r1 Z.length _ 1 _ (by have := hlen.out; omega) (by omega) HG13.out).mono ?_
    rintro e w' ⟨rfl, rfl⟩
    rw [← HN.out]
    go_wp2
    go_returns
    exact ⟨rfl, q13⟩
  · have HSZ := hide (show Calls Try.prog 23 #[VV0, .int .i64 1048576] w fun e w' => e = .returned (.int .i64 (-1)) ∧ w = w' from by
      have := szDieS_any VV0 L0 1048576 w HV0.out (by omega)
      rw [if_pos (by omega)] at this
      exact this)
    clear hl
    go_enter Try.func12, Try.ntmps12
    go_wp2_with fail
    refine HSZ.out.mono ?_
    rintro e w' ⟨rfl, rfl⟩
    go_wp2
    go_returns
    exact ⟨rfl, Below.refl _ _⟩
end Go.Proofs.Ytkiocklkpnjejaa
