/- The model of nets: spec.FoldNet, PlacesOfNet, FoldOrder. No condition. -/
import Derived.Test.YtbfclnigjijkbaaNeJ
import Derived.Test.YtbfclnigjijkbaaNetJ
namespace Go.Proofs.Ytbfclnigjijkbaa
set_option maxRecDepth 100000
set_option linter.all false
open Go.RowKit

theorem specFold_no (s : ByteArray) (w : World) (hn : netB s.data.toList = false) : Calls Try.prog 12 #[.string s] w fun e w' => e = .returned (.tuple #[D.v zeroD, .bool false]) ∧ Below w.heap.size w w' := by
  have HN := hide hn
  have q0 : Below w.heap.size w (w.alloc (.cells #[.int .i64 0, .int .i64 0, .int .i64 0, .int .i64 0, .int .i64 0, .int .i64 0] 24)) := by go_grown
  have G0 := IsD.new (w := w) (d := ⟨0, 0, 0, 0, 0, 0⟩) (ty := 24)
  clear hn
  go_enter Try.func12, Try.ntmps12
  go_wp2_with fail
  refine (neNet_any s _).mono ?_
  generalize w.alloc (.cells #[.int .i64 0, .int .i64 0, .int .i64 0, .int .i64 0, .int .i64 0, .int .i64 0] 24) = W0 at q0 G0 ⊢
  rintro e w2 (⟨hy, -⟩ | ⟨-, x, y, a, m, c, u, rfl, hb⟩)
  · rw [HN.out] at hy; cases hy
  · have g2 := (isD_to hb G0 rfl).alloc (.cells #[.int .i64 x, .int .i64 y, .slice a m c] 37)
    have q2 := below_after q0 hb q0.size
    have q3 := q2.alloc q2.size (.cells #[.int .i64 x, .int .i64 y, .slice a m c] 37)
    obtain ⟨l2, ⟨d0, d1, d2, d3, d4, d5⟩, e0, e1, e2, e3, e4, e5⟩ := g2.all
    clear q0 G0 hb
    go_wp2
    refine bodyPost_ret (ret_die2 Try.results12 rfl rfl (g2.set6 ⟨0, 0, 0, 0, 0, 0⟩)) rfl ⟨rfl, ?_⟩
    exact below_set6 q3 (Nat.le_refl _) ⟨0, 0, 0, 0, 0, 0⟩
set_option maxHeartbeats 1600000 in
theorem specFold_yes (s : ByteArray) (w : World) (hn : netB s.data.toList = true) : Calls Try.prog 12 #[.string s] w fun e w' => e = .returned (.tuple #[D.v (foldD s.data.toList), .bool true]) ∧ Below w.heap.size w w' := by
  have HN := hide hn
  have q0 : Below w.heap.size w (w.alloc (.cells #[.int .i64 0, .int .i64 0, .int .i64 0, .int .i64 0, .int .i64 0, .int .i64 0] 24)) := by go_grown
  have G0 := IsD.new (w := w) (d := ⟨0, 0, 0, 0, 0, 0⟩) (ty := 24)
  clear hn
  go_enter Try.func12, Try.ntmps12
  go_wp2_with fail
  refine (neNet_any s _).mono ?_
  generalize w.alloc (.cells #[.int .i64 0, .int .i64 0, .int .i64 0, .int .i64 0, .int .i64 0, .int .i64 0] 24) = W0 at q0 G0 ⊢
  rintro e w2 (⟨-, gb, cap, ob, rfl, hg, ho, A, R, hb⟩ | ⟨hy, -⟩)
  rotate_left
  · rw [HN.out] at hy; cases hy
  obtain ⟨W, hW⟩ : ∃ W, W = width s.data.toList := ⟨_, rfl⟩
  obtain ⟨V, hV⟩ : ∃ V, V = (splitP s.data.toList).length := ⟨_, rfl⟩
  obtain ⟨n, hnn⟩ : ∃ n, n = (flatL s.data.toList).length := ⟨_, rfl⟩
  rw [← hnn] at R
  have HFO := hide (fun wx hx hr => neFold_any s.data.toList W V n gb cap ob (net_is_six HN.out) hnn wx hx hr)
  rw [← hW, ← hV, ← hnn]
  have g2 := (isD_to hb G0 rfl).alloc (.cells #[.int .i64 (W : Int), .int .i64 (V : Int), .slice (some ⟨gb, 0, none⟩) n cap] 37)
  have q2 := below_after q0 hb q0.size
  have q3 := q2.alloc q2.size (.cells #[.int .i64 (W : Int), .int .i64 (V : Int), .slice (some ⟨gb, 0, none⟩) n cap] 37)
  have A3 := hide (byN_to (w1 := w2.alloc (.cells #[.int .i64 (W : Int), .int .i64 (V : Int), .slice (some ⟨gb, 0, none⟩) n cap] 37)) ((Below.refl _ _).alloc (Nat.le_refl _) _) A rfl)
  have R3 := hide (R.alloc (.cells #[.int .i64 (W : Int), .int .i64 (V : Int), .slice (some ⟨gb, 0, none⟩) n cap] 37))
  obtain ⟨l0, ⟨a0, a1, a2⟩, -⟩ := (IsGN.new (w := w2) (x := (W : Int)) (y := (V : Int)) (v := .slice (some ⟨gb, 0, none⟩) n cap)).all
  have HX := hide (show foldD s.data.toList = foldD s.data.toList from rfl)
  have G2 := hide g2
  have Q3 := hide q3
  clear q0 G0 hb A R hW hV hnn q2 q3 g2
  go_wp2_with (go_at_call 27; (refine (HFO.out _ A3.out R3.out).mono ?_); rintro e w4 ⟨rfl, hb4⟩; have g4 := isD_to hb4 G2.out rfl; have q4 := below_after Q3.out hb4 Q3.out.size; obtain ⟨l2, ⟨d0, d1, d2, d3, d4, d5⟩, e0, e1, e2, e3, e4, e5⟩ := g4.all; clear hb4)
  refine bodyPost_ret (ret_die2 Try.results12 rfl rfl (g4.set6 (foldD s.data.toList))) rfl ⟨rfl, ?_⟩
  exact below_set6 q4 (Nat.le_refl _) (foldD s.data.toList)
theorem neLetter_any (b : Nat) (hb : b < 6) (w : World) : Calls Try.prog 31 #[.int .i64 (b : Int)] w fun e w' => e = .returned (.string ⟨#[letB b]⟩) ∧ w = w' := by
  match b, hb with
  | 0, _ => (go_enter Try.func31, Try.ntmps31; go_wp2; go_returns; exact ⟨rfl, rfl⟩)
  | 1, _ => (go_enter Try.func31, Try.ntmps31; go_wp2; go_returns; exact ⟨rfl, rfl⟩)
  | 2, _ => (go_enter Try.func31, Try.ntmps31; go_wp2; go_returns; exact ⟨rfl, rfl⟩)
  | 3, _ => (go_enter Try.func31, Try.ntmps31; go_wp2; go_returns; exact ⟨rfl, rfl⟩)
  | 4, _ => (go_enter Try.func31, Try.ntmps31; go_wp2; go_returns; exact ⟨rfl, rfl⟩)
  | 5, _ => (go_enter Try.func31, Try.ntmps31; go_wp2; go_returns; exact ⟨rfl, rfl⟩)
theorem specPlaces_no (s : ByteArray) (w : World) (hn : netB s.data.toList = false) : Calls Try.prog 15 #[.string s] w fun e w' => e = .returned (.tuple #[.string ⟨#[]⟩, .bool false]) ∧ Below w.heap.size w w' := by
  have HN := hide hn
  clear hn
  go_enter Try.func15, Try.ntmps15
  go_wp2_with fail
  refine (neNet_any s _).mono ?_
  rintro e w2 (⟨hy, -⟩ | ⟨-, x, y, a, m, c, u, rfl, hb⟩)
  · rw [HN.out] at hy; cases hy
  · go_wp2
    go_returns
    exact ⟨rfl, hb.alloc hb.size _⟩
theorem placesW_len {l : List UInt8} (h : sixB l = true) : (placesW l).length = 6 := by unfold placesW; rw [List.length_map, ← lands_bots h, List.length_map, lands_len h]
set_option maxHeartbeats 3200000 in
theorem specPlaces_yes (s : ByteArray) (w : World) (hn : netB s.data.toList = true) : Calls Try.prog 15 #[.string s] w fun e w' => e = .returned (.tuple #[.string ⟨(placesW s.data.toList).toArray⟩, .bool true]) ∧ Below w.heap.size w w' := by
  have HNE := fun wx => neNet_any s wx
  obtain ⟨l, hl⟩ : ∃ l, l = s.data.toList := ⟨_, rfl⟩
  simp only [← hl] at HNE hn ⊢
  have h6 := net_is_six hn
  have HN := hide hn
  have HNE := hide HNE
  have HSY := hide (fun k d (hd : (digs l)[k]? = some d) => dig_says h6 hd)
  have HAT := hide (fun k (hk : k < 6) => digs_at h6 hk)
  have HPL := hide (placesW_len h6)
  obtain ⟨W, hW⟩ : ∃ W, W = width l := ⟨_, rfl⟩
  obtain ⟨V, hV⟩ : ∃ V, V = (splitP l).length := ⟨_, rfl⟩
  obtain ⟨n, hnn⟩ : ∃ n, n = (flatL l).length := ⟨_, rfl⟩
  have HDG := hide (fun gb cap wx (hx : ByN wx gb (flatL l)) => digs_any l W V n gb cap h6 hnn wx hx)
  clear hl hn h6
  go_enter Try.func15, Try.ntmps15
  go_wp2_with fail
  refine (HNE.out _).mono ?_
  rintro e w2 (⟨-, gb, cap, ob, rfl, hg, ho, A, R, hb⟩ | ⟨hy, -⟩)
  rotate_left
  · rw [HN.out] at hy; cases hy
  rw [← hnn] at R
  rw [← hW, ← hV, ← hnn]
  have HNN := hide hnn
  have q2 := hb.alloc hb.size (.cells #[.int .i64 (W : Int), .int .i64 (V : Int), .slice (some ⟨gb, 0, none⟩) n cap] 37)
  have A3 := byN_to (w1 := w2.alloc (.cells #[.int .i64 (W : Int), .int .i64 (V : Int), .slice (some ⟨gb, 0, none⟩) n cap] 37)) ((Below.refl _ _).alloc (Nat.le_refl _) _) A rfl
  have R3 := R.alloc (.cells #[.int .i64 (W : Int), .int .i64 (V : Int), .slice (some ⟨gb, 0, none⟩) n cap] 37)
  obtain ⟨l0, ⟨a0, a1, a2⟩, -⟩ := (IsGN.new (w := w2) (x := (W : Int)) (y := (V : Int)) (v := .slice (some ⟨gb, 0, none⟩) n cap)).all
  clear hb A R hW hV hnn
  go_wp2_with fail
  refine (HDG.out _ _ _ A3).mono ?_
  rintro e w3 ⟨db, dc, rfl, hdb0, hdb1, OD, hb3⟩
  have HR := hide (rowIs_to hb3 R3 rfl)
  have HB := hide (below_after q2 hb3 q2.size)
  have HOD := hide OD
  clear a0 a1 a2 l0 A3 R3 q2 OD hb3 hdb0
  go_wp2
  go_loop [21, 7, 9] (fun i o _ => ∃ k : Nat, k ≤ 6 ∧ i = .int .i64 (k : Int) ∧ o = .string ⟨((placesW l).take k).toArray⟩) (fun i _ _ => 6 - (intOf i).toNat)
  case atStart => exact ⟨0, Nat.zero_le _, rfl, rfl⟩
  case round =>
    obtain ⟨k, hk, rfl, rfl⟩ := hrel
    by_cases hlt : k < 6
    · have hki : (k : Int) < 6 := by omega
      obtain ⟨d, hd⟩ := HAT.out k hlt
      obtain ⟨hdn, -, hbt, b, hb6, hbe⟩ := HSY.out k d hd
      rw [← HNN.out] at hdn
      have hdi : (d : Int) < (n : Int) := by omega
      have dcell := ints_cell HOD.out k (d : Int) (natI_get hd)
      have ocell : w3.cell? ⟨ob, d, none⟩ = some (.int .i64 (b : Int)) := by rw [← hbe]; exact HR.out.cell hdn
      have HTK := hide (show (placesW l).take (k + 1) = (placesW l).take k ++ [letB b] from by
        rw [List.take_add_one]
        unfold placesW
        rw [List.getElem?_map, hbt, hbe]
        rfl)
      have hol : ((placesW l).take k).length ≤ 6 := by rw [List.length_take]; omega
      generalize (placesW l).take k = o at HTK hol
      have ha : ¬ 9223372036854775807 < o.length + 1 := by omega
      clear hd hbt hbe
      go_wp2_with (go_at_call 31; (refine (neLetter_any b hb6 _).mono ?_); rintro e w4 ⟨rfl, rfl⟩)
      go_round
      case rel => exact ⟨k + 1, by omega, by go_num, by rw [HTK.out, ← str_snoc]⟩
      case measure => simp [intOf]; omega
    · obtain rfl : k = 6 := by omega
      rw [List.take_of_length_le (by rw [HPL.out]; omega)]
      go_wp2
      go_returns
      exact ⟨rfl, HB.out⟩
theorem specOrder_no (s : ByteArray) (w : World) (hn : netB s.data.toList = false) : Calls Try.prog 17 #[.string s] w fun e w' => e = .returned (.tuple #[.slice none 0 0, .bool false]) ∧ Below w.heap.size w w' := by
  have HN := hide hn
  clear hn
  go_enter Try.func17, Try.ntmps17
  go_wp2_with fail
  refine (neNet_any s _).mono ?_
  rintro e w2 (⟨hy, -⟩ | ⟨-, x, y, a, m, c, u, rfl, hb⟩)
  · rw [HN.out] at hy; cases hy
  · go_wp2
    go_returns
    exact ⟨rfl, hb.alloc hb.size _⟩
end Go.Proofs.Ytbfclnigjijkbaa
