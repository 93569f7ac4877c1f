/- BlockedDice of the model. -/
import Derived.Test.YtdndegonpdakkaaDoorBkA
namespace Go.Proofs.YtdndegonpdakkaaDoor
set_option maxRecDepth 100000
set_option linter.all false
open Go.RowKit

/-- What holds in the model's loops. -/
structure BkI (w wr : World) (B W H m g cap : Nat) (F : List UInt8) (v : Value) (A : List Int) : Prop where
  grid : IsG wr B (W : Int) (H : Int) (.slice (some ⟨g, 0, none⟩) m cap)
  bytes : BytesAt wr g F
  row : wr.ownsRow (B + 1) 3 1 v A.length (ints A)
  below : Below w.heap.size w wr
theorem BkI.to {w wr w0 w1 : World} {B W H m g cap : Nat} {F : List UInt8} {v : Value} {A : List Int} (hb : Below w0.heap.size w0 w1) (h : BkI w wr B W H m g cap F v A) (e : w0.heap = wr.heap) (e2 : w0.os = wr.os) (e3 : w0.tape = wr.tape) (e4 : w0.output = wr.output) : BkI w w1 B W H m g cap F v A :=
  ⟨isG_to hb h.grid e, bytesAt_to hb h.bytes e, own_to hb h.row e, below_to hb h.below h.below.size e e2 e3 e4⟩
theorem BkI.app {w wr w' : World} {B W H m g cap : Nat} {F : List UInt8} {v v' u : Value} {A : List Int} {x : Int} {t : TypeId} (h : BkI w wr B W H m g cap F v A) (hgB : g < B) (hB : w.heap.size ≤ B) (hO : w'.ownsRow (B + 1) 3 1 v' (A.length + 1) (ints A ++ [.int .i64 x])) (hg : (wr.alloc (.cells #[u] t)).grownBy w' v.ownBlock) : BkI w w' B W H m g cap F v' (A ++ [x]) := by
  have hBl := h.grid.lt
  have hne : ∀ j, j < B + 1 → some j ≠ v.ownBlock := fun j hj e => by
    have := (h.row.lt j e.symm).1
    omega
  refine ⟨(h.grid.alloc _).kept hg (hne B (by omega)), ?_, ?_, (h.below.alloc h.below.size _).grown hg (by have := h.below.size; simp; omega) (fun j hj => by have := (h.row.lt j hj).1; omega)⟩
  · obtain ⟨cur, c1, c2⟩ := bytesAt_to (w0 := wr) ((Below.refl wr.heap.size wr).alloc (Nat.le_refl _) (.cells #[u] t)) h.bytes rfl
    exact ⟨cur, (hg.block g (by simp; omega) (hne g (by omega))).trans c1, c2⟩
  · rw [List.length_append, ints_snoc]
    exact hO
set_option maxHeartbeats 1600000 in
theorem specBD_on (s : ByteArray) (gd : Nat) (L : List St) (n : Nat) (hN : n = L.length) (w : World) (hs : s.size ≤ 1048576) (hD : StAt w gd 0 L) (h : isBd s.data.toList = true) (h2 : tog s.data.toList L = true) : Calls Tryd.prog 26 #[.string s, .slice (some ⟨gd, 0, none⟩) n n] w (BdPost (bkL s.data.toList L n) true w) := by
  obtain ⟨n1, n3, hall⟩ := tog_facts h2
  have HNE := hide (fun (i : Nat) (u : St) (hi : L[i]? = some u) => show nearS u from floor_near h (Bool.and_eq_true_iff.1 (hall i u hi).1).1)
  have hnn1 : 1 ≤ n := by omega
  have hnn3 : n ≤ 3 := by omega
  have H := hide h
  have H2 := hide h2
  have HN := hide hN
  have HD := hide hD
  obtain ⟨i0, hi, hz0, hz1, hz2⟩ := info_parts info_intI
  have HI := hide hi
  have HZ0 := hide hz0
  have HZ1 := hide hz1
  have HZ2 := hide hz2
  clear hi hz0 hz1 hz2 h h2 hN hD n1 n3 hall
  go_enter Tryd.func26, Tryd.ntmps26
  go_wp2_with fail
  refine (myAsked_in s gd L n HN.out _ hs HD.out H.out).mono ?_
  rintro e w1 ⟨W, Hh, m, g, cap, hG, rfl, hA, hb1⟩
  rw [H2.out]
  have HG := hide hG
  have hgB := hA.lt
  have hB0 := hb1.size
  have HT := hide (show BkI w (w1.alloc (.cells #[.int .i64 (W : Int), .int .i64 (Hh : Int), .slice (some ⟨g, 0, none⟩) m cap] 50)) w1.heap.size W Hh m g cap (splitP s.data.toList).flatten (.slice none 0 0) (bkL s.data.toList L 0) from
    ⟨IsG.new (w := w1) (x := (W : Int)) (y := (Hh : Int)) (v := .slice (some ⟨g, 0, none⟩) m cap), bytesAt_to (w0 := w1) ((Below.refl _ _).alloc (Nat.le_refl _) _) hA rfl, ⟨rfl, .inl ⟨rfl, rfl⟩⟩, hb1.alloc hb1.size (.cells #[.int .i64 (W : Int), .int .i64 (Hh : Int), .slice (some ⟨g, 0, none⟩) m cap] 50)⟩)
  clear hG hA hb1
  obtain ⟨B, hB⟩ : ∃ B, B = w1.heap.size := ⟨_, rfl⟩
  rw [← hB] at HT hgB hB0
  go_upto_region 6 with (fail)
  rw [← hB]
  generalize w1.alloc (.cells #[.int .i64 (W : Int), .int .i64 (Hh : Int), .slice (some ⟨g, 0, none⟩) m cap] 50) = W1 at HT ⊢
  clear hB
  go_loopw [8, 24] (fun mv i wr => ∃ (k : Nat) (v : Value), k ≤ n ∧ i = .int .i64 (k : Int) ∧ v = mv ∧ BkI w wr B W Hh m g cap (splitP s.data.toList).flatten v (bkL s.data.toList L k)) (fun _ i _ => n - (intOf i).toNat)
  case atStart => exact ⟨0, _, by omega, rfl, rfl, HT.out⟩
  case round =>
    obtain ⟨k, v, hk, rfl, rfl, T⟩ := hrel
    clear HT
    by_cases hlt : k < n
    · have hki : (k : Int) < (n : Int) := by omega
      have hk3 : k < 3 := by omega
      have w1q : IntKind.i64.wrap ((k : Int) + 1) = (k : Int) + 1 := IntWalk.i64_in _ (by omega)
      have HT := hide T
      clear T
      go_upto_region 10 with (fail)
      go_loopw [10, 11] (fun c i wq => ∃ j : Nat, j ≤ 4 ∧ i = .int .i64 (j : Int) ∧ c = .bool (canJ s.data.toList L k j) ∧ BkI w wq B W Hh m g cap (splitP s.data.toList).flatten v (bkL s.data.toList L k)) (fun _ i _ => 4 - (intOf i).toNat)
      case atStart => exact ⟨0, by omega, rfl, rfl, HT.out⟩
      case round =>
        obtain ⟨j, hj, rfl, rfl, T⟩ := hrel
        clear HT
        by_cases hltj : j < 4
        · have hji : (j : Int) < 4 := by omega
          have w2q : IntKind.i64.wrap ((j : Int) + 1) = (j : Int) + 1 := IntWalk.i64_in _ (by omega)
          obtain ⟨_, ⟨d0, d1, d2⟩, -⟩ := T.grid.all
          have HT := hide T
          have HAd := hide (show BytesAt _ g (splitP s.data.toList).flatten from T.bytes)
          have HDd := hide (stAt_to (w0 := w) T.below HD.out rfl)
          have HCJ := hide (show canJ s.data.toList L k (j + 1) = (canJ s.data.toList L k j || (mvL s.data.toList L k (j : Int)).isSome) from rfl)
          clear T
          go_wp2_with fail
          refine (myMove_any s.data.toList W Hh m HG.out g cap gd n L n HN.out hnn3 k hlt HNE.out (j : Int) _ HAd.out HDd.out).mono ?_
          rintro e w2 ⟨vv, rfl, -, -, hb2⟩
          have HT2 := hide (HT.out.to hb2 rfl rfl rfl rfl)
          clear d0 d1 d2 hb2 HAd HDd HT
          generalize (mvL s.data.toList L k (j : Int)).isSome = ok at HCJ ⊢
          generalize canJ s.data.toList L k j = cj at HCJ ⊢
          cases cj with
          | false =>
            have HCJ2 := hide (show canJ s.data.toList L k (j + 1) = ok from by rw [HCJ.out]; rfl)
            go_wp2
            go_roundw
            case rel => exact ⟨j + 1, by omega, by go_num, by rw [HCJ2.out], HT2.out⟩
            case measure => simp [intOf] <;> omega
          | true =>
            have HCJ2 := hide (show canJ s.data.toList L k (j + 1) = true from by rw [HCJ.out]; rfl)
            go_wp2
            go_roundw
            case rel => exact ⟨j + 1, by omega, by go_num, by rw [HCJ2.out], HT2.out⟩
            case measure => simp [intOf] <;> omega
        · obtain rfl : j = 4 := by omega
          have HT2 := hide T
          clear T
          cases hcan : canJ s.data.toList L k 4 with
          | true =>
            have HS := hide (show bkL s.data.toList L (k + 1) = bkL s.data.toList L k from by
              show (if canJ s.data.toList L k 4 = true then _ else _) = _
              rw [hcan, if_pos rfl])
            clear hcan
            go_wp2
            go_roundw
            case rel => exact ⟨k + 1, _, by omega, by go_num, rfl, by rw [HS.out]; exact HT2.out⟩
            case measure => simp [intOf] <;> omega
          | false =>
            have HS := hide (show bkL s.data.toList L (k + 1) = bkL s.data.toList L k ++ [(k : Int)] from by
              show (if canJ s.data.toList L k 4 = true then _ else _) = _
              rw [hcan, if_neg (by decide)])
            clear hcan
            have hlen := bkL_len s.data.toList L k
            have hsz := HT2.out.grid.lt
            obtain ⟨p, hp⟩ : ∃ p, p = (bkL s.data.toList L k).length := ⟨_, rfl⟩
            have HP := hide hp
            rw [← hp] at hlen
            clear hp
            have hown0 := HT2.out.row
            rw [← HP.out] at hown0
            have HOW := hide hown0
            clear hown0
            go_wp2_with (at_builtin; refine wpList_append_own_at _ rfl _ _ 41 rfl (B + 1) 3 i0 (.int .i64 0) 1 8 Tryd.underlying41 HI.out HZ0.out HZ1.out HZ2.out rfl (by decide) _ _ _ rfl (HOW.out.alloc _) ⟨_, 0, none⟩ 1 1 [.int .i64 (k : Int)] rfl rfl (cell_one_newR _ _ _) (by intro u hu; simp only [List.mem_singleton] at hu; subst hu; rfl) (by unfold maxLen; omega) (by omega) (by simp; omega) ?_; intro v' w4 hown hgr hnil hblk)
            rw [HP.out] at hown
            have HT4 := hide (HT2.out.app (x := (k : Int)) hgB hB0 hown hgr)
            rw [← HS.out] at HT4
            clear hown hgr hnil hblk HOW HT2
            go_wp2
            go_roundw
            case rel => exact ⟨k + 1, _, by omega, by go_num, rfl, HT4.out⟩
            case measure => simp [intOf] <;> omega
    · obtain rfl : k = n := by omega
      have HT := hide T
      clear T
      go_wp2
      go_returns
      exact ⟨_, rfl, own_mono HT.out.row (by omega), HT.out.below⟩
theorem specBD_any (s : ByteArray) (gd : Nat) (L : List St) (n : Nat) (hN : n = L.length) (w : World) (hs : s.size ≤ 1048576) (hD : StAt w gd 0 L) : Calls Tryd.prog 26 #[.string s, .slice (some ⟨gd, 0, none⟩) n n] w (BdPost (bdL s.data.toList L) (adB s.data.toList L) w) := by
  cases h : isBd s.data.toList with
  | false =>
    have H := hide h
    have key : Calls Tryd.prog 26 #[.string s, .slice (some ⟨gd, 0, none⟩) n n] w fun e w' => e = .returned (.tuple #[.slice none 0 0, .bool false]) ∧ Below w.heap.size w w' := by
      clear h hD
      go_enter Tryd.func26, Tryd.ntmps26
      go_wp2_with fail
      refine (myAsked_bad s _ _ hs H.out).mono ?_
      rintro e w1 ⟨rfl, hb1⟩
      have q1 := hb1.alloc hb1.size (.cells #[.int .i64 0, .int .i64 0, .slice none 0 0] 50)
      go_wp2
      go_returns
      exact ⟨rfl, q1⟩
    refine key.mono ?_
    rintro e w' ⟨he, hb⟩
    exact bdPost_no (adB_no h) he hb
  | true =>
    cases h2 : tog s.data.toList L with
    | false =>
      have H := hide h
      have H2 := hide h2
      have HN := hide hN
      have HD := hide hD
      have key : Calls Tryd.prog 26 #[.string s, .slice (some ⟨gd, 0, none⟩) n n] w fun e w' => e = .returned (.tuple #[.slice none 0 0, .bool false]) ∧ Below w.heap.size w w' := by
        clear h h2 hN hD
        go_enter Tryd.func26, Tryd.ntmps26
        go_wp2_with fail
        refine (myAsked_in s gd L n HN.out _ hs HD.out H.out).mono ?_
        rintro e w1 ⟨W, Hh, m, g, cap, hG, rfl, hA, hb1⟩
        rw [H2.out]
        have q1 := hb1.alloc hb1.size (.cells #[.int .i64 (W : Int), .int .i64 (Hh : Int), .slice (some ⟨g, 0, none⟩) m cap] 50)
        clear hG hA hb1
        go_wp2
        go_returns
        exact ⟨rfl, q1⟩
      refine key.mono ?_
      rintro e w' ⟨he, hb⟩
      exact bdPost_no (adB_off h2) he hb
    | true =>
      rw [bdL_yes (adB_on h h2), adB_on h h2, ← hN]
      exact specBD_on s gd L n hN w hs hD h h2
end Go.Proofs.YtdndegonpdakkaaDoor
