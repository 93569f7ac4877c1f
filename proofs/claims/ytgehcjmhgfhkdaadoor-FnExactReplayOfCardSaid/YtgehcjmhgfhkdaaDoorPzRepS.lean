/- The replay of a word: the model's ReplayOf. -/
import Derived.Test.YtgehcjmhgfhkdaaDoorPzRep
import Derived.Maps.AppendAt
namespace Go.Proofs.YtgehcjmhgfhkdaaDoor
set_option maxRecDepth 100000
set_option linter.all false
open Go.RowKit

theorem own_grownP {w w' : World} {r : Option Nat} {b : Nat} {e : TypeId} {z : Nat} {v : Value} {n : Nat} {xs : List Value} (hb : w.grownBy w' r) (h : w.ownsRow b e z v n xs) (hl : ∀ g, v.ownBlock = some g → r ≠ some g) : w'.ownsRow b e z v n xs := by
  have hlt := h.lt
  obtain ⟨h1, h2⟩ := h
  refine ⟨h1, ?_⟩
  rcases h2 with h2 | ⟨g, cap, cur, hv, hg, hh, q⟩
  · exact .inl h2
  · have hv2 : v.ownBlock = some g := by rw [hv]; rfl
    exact .inr ⟨g, cap, cur, hv, hg, by rw [hb.block g (hlt g hv2).2 (fun e => hl g hv2 e.symm)]; exact hh, q⟩
structure RpJ (w wr : World) (p : Pz) (L : List UInt8) (vv acc : Value) (B0 n k : Nat) : Prop where
  row : wr.ownsRow w.heap.size 32 8 vv n (cellsS (WL p L))
  txt : wr.ownsRow B0 9 1 acc k (strs ((rpL p L).take k))
  apart : ∀ g, vv.ownBlock = some g → g < B0
  le : B0 ≤ wr.heap.size
  below : Below w.heap.size w wr
set_option maxHeartbeats 3200000 in
theorem specRP_any (p : Pz) (v : ByteArray) (w : World) (hs : p.b.size ≤ 1048576) (hv : v.size ≤ 1048576) : Calls Tryd.prog 16 #[Pz.v p, .string v] w fun e w' => ∃ vv, e = .returned (.tuple #[vv, .bool (wb p v.data.toList)]) ∧ w'.ownsRow w.heap.size 9 1 vv (rpL p v.data.toList).length (strs (rpL p v.data.toList)) ∧ Below w.heap.size w w' := by
  obtain ⟨W0, hW, P0, q0⟩ := pz_start p w
  have HW := hide hW
  have HIP := hide (fun wx => puGood_any p wx hs)
  have HRA := hide (fun wx => boWayA_any p.b p.s v wx hs hv)
  obtain ⟨i0, hi, hz0, hz1, hz2⟩ := info_parts info_strP
  have HI := hide hi
  have HZ0 := hide hz0
  have HZ1 := hide hz1
  have HZ2 := hide hz2
  obtain ⟨l0, ⟨a0, a1, a2, a3, a4, a5, a6, a7, a8, a9, a10, a11⟩, -⟩ := P0.all
  clear hW hs hv hi hz0 hz1 hz2
  cases h : pzB p with
  | false =>
    rw [h] at HIP
    have hwb : wb p v.data.toList = false := by unfold wb; rw [h]; rfl
    have HE := hide (show rpL p v.data.toList = [] from by unfold rpL; rw [WL_wb hwb]; rfl)
    have HF := hide hwb
    rw [HE.out, HF.out]
    clear h hwb
    go_enter Tryd.func16, Tryd.ntmps16
    go_upto_region 1 with (fail)
    rw [HW.out]
    go_wp2_with fail
    refine (HIP.out _).mono ?_
    rintro e w1 ⟨rfl, hb1⟩
    have q1 := below_to hb1 q0 q0.size rfl rfl rfl rfl
    clear hb1
    go_wp2
    go_returns
    exact ⟨_, rfl, ⟨rfl, .inl ⟨rfl, rfl⟩⟩, q1⟩
  | true =>
    rw [h] at HIP
    have hsa : saV p.b.data.toList p.s v.data.toList = WL p v.data.toList := by unfold WL; rw [h]; rfl
    have hra : raB p.b.data.toList p.s v.data.toList = wb p v.data.toList := by unfold wb; rw [h]; rfl
    rw [hsa, hra] at HRA
    generalize wb p v.data.toList = ok at HRA ⊢
    have hwl := (WL_len p v.data.toList).2
    rw [rpL_len]
    obtain ⟨n, hn⟩ : ∃ n, n = (WL p v.data.toList).length := ⟨_, rfl⟩
    rw [← hn] at HRA hwl ⊢
    have HN := hide hn
    have HRL := hide (show (rpL p v.data.toList).length = n from by rw [rpL_len, hn])
    clear h hn hsa hra
    go_enter Tryd.func16, Tryd.ntmps16
    go_upto_region 1 with (fail)
    rw [HW.out]
    go_wp2_with fail
    refine (HIP.out _).mono ?_
    rintro e w1 ⟨rfl, hb1⟩
    have q1 := below_to hb1 q0 q0.size rfl rfl rfl rfl
    have P1 := isPz_to hb1 P0 rfl
    clear hb1 a0 a1 a2 a3 a4 a5 a6 a7 a8 a9 a10 a11 l0 P0 q0
    obtain ⟨l0, ⟨a0, a1, a2, a3, a4, a5, a6, a7, a8, a9, a10, a11⟩, -⟩ := P1.all
    go_wp2_with fail
    refine (HRA.out _).mono ?_
    rintro e w2 ⟨vv, rfl, hO, hb2⟩
    have q2 := below_to hb2 q1 q1.size rfl rfl rfl rfl
    have hB0 := q2.size
    have HO2 := hide (own_mono hO q1.size)
    have HAP := hide (fun g hg => (hO.lt g hg).2)
    have HT := hide (show RpJ w w2 p v.data.toList vv (.slice none 0 0) w2.heap.size n 0 from ⟨HO2.out, ⟨rfl, .inl ⟨rfl, rfl⟩⟩, HAP.out, Nat.le_refl _, q2⟩)
    clear hO hb2 a0 a1 a2 a3 a4 a5 a6 a7 a8 a9 a10 a11 l0 P1 q1 q2
    rcases HO2.out.2 with ⟨rfl, h0⟩ | ⟨gq, cq, cur, rfl, -, -, -, -, -, -⟩
    · have HB := hide HT.out.below
      have HE := hide (show strs (rpL p v.data.toList) = [] from by rw [List.eq_nil_of_length_eq_zero (HRL.out.trans h0)]; rfl)
      clear HT HN hwl HO2 HAP
      subst h0
      go_wp2
      go_loopw [25, 8] (fun i acc wr => i = .int .i64 0 ∧ acc = .slice none 0 0 ∧ Below w.heap.size w wr) (fun _ _ _ => 0)
      case atStart => exact ⟨rfl, rfl, HB.out⟩
      case round =>
        obtain ⟨rfl, rfl, hB⟩ := hrel
        go_wp2
        go_returns
        exact ⟨_, rfl, by rw [HE.out]; exact ⟨rfl, .inl ⟨rfl, rfl⟩⟩, hB⟩
    · generalize w2.heap.size = B0 at HT HAP hB0
      clear HO2 HAP
      go_wp2
      go_loopw [25, 8] (fun i acc wr => ∃ k : Nat, k ≤ n ∧ i = .int .i64 (k : Int) ∧ RpJ w wr p v.data.toList (.slice (some ⟨gq, 0, none⟩) n cq) acc B0 n k) (fun i _ _ => n - (intOf i).toNat)
      case atStart => exact ⟨0, Nat.zero_le _, rfl, HT.out⟩
      case round =>
        obtain ⟨k, hk, rfl, T⟩ := hrel
        clear HT
        by_cases hlt : k < n
        · obtain ⟨u, hu⟩ : ∃ u, (WL p v.data.toList)[k]? = some u := ⟨_, List.getElem?_eq_getElem (by rw [← HN.out]; exact hlt)⟩
          obtain ⟨c0, c1, c2, c3, c4, c5, c6, c7⟩ := row_cells_at k T.row hlt hu
          have HTK := hide (show (rpL p v.data.toList).take (k + 1) = (rpL p v.data.toList).take k ++ [dText u.d] from by rw [List.take_add_one, rpL_at hu]; rfl)
          have HDT := hide (fun wx => diText_any u.d wx (WL_good hu))
          have hki : (k : Int) < (n : Int) := by omega
          have w1q : IntKind.i64.wrap ((k : Int) + 1) = (k : Int) + 1 := IntWalk.i64_in _ (by omega)
          have R3 := hide (T.row.alloc (.cells #[.int .i64 u.x, .int .i64 u.y, .int .i64 u.d.t, .int .i64 u.d.n, .int .i64 u.d.e, .int .i64 u.d.s, .int .i64 u.d.w, .int .i64 u.d.b] 32))
          have X3 := hide (T.txt.alloc (.cells #[.int .i64 u.x, .int .i64 u.y, .int .i64 u.d.t, .int .i64 u.d.n, .int .i64 u.d.e, .int .i64 u.d.s, .int .i64 u.d.w, .int .i64 u.d.b] 32))
          have q3 := T.below.alloc T.below.size (.cells #[.int .i64 u.x, .int .i64 u.y, .int .i64 u.d.t, .int .i64 u.d.n, .int .i64 u.d.e, .int .i64 u.d.s, .int .i64 u.d.w, .int .i64 u.d.b] 32)
          have HAP := hide T.apart
          have hle := T.le
          clear hu T
          go_wp2_with fail
          refine (HDT.out _).mono ?_
          rintro e w4 ⟨rfl, hb4⟩
          have q4 := below_to hb4 q3 q3.size rfl rfl rfl rfl
          have O4 := hide (own_to hb4 R3.out rfl)
          have T4 := hide (own_to hb4 X3.out rfl)
          have hle4 : B0 ≤ w4.heap.size := by have := hb4.size; simp at this; omega
          clear hb4 q3 c0 c1 c2 c3 c4 c5 c6 c7 R3 X3 hle
          go_wp2_with (at_builtin; refine wpList_append_own_at _ rfl _ _ 40 rfl B0 9 i0 (.string ⟨#[]⟩) 1 16 Tryd.underlying40 HI.out HZ0.out HZ1.out HZ2.out rfl (by decide) _ _ _ rfl (T4.out.alloc _) ⟨_, 0, none⟩ 1 1 [sV (dText u.d)] rfl rfl (cell_one_newR _ _ _) (by intro x hx; simp only [List.mem_singleton] at hx; subst hx; rfl) (by unfold maxLen; omega) (by omega) (by simp; omega) ?_; intro v' w5 hown hg hnil hblk)
          have T5 := hide (show RpJ w w5 p v.data.toList (.slice (some ⟨gq, 0, none⟩) n cq) v' B0 n (k + 1) from ⟨own_grownP hg (O4.out.alloc _) (fun g hg2 e => by have h1 := HAP.out g hg2; have h2 := (T4.out.lt g e).1; omega), by
            rw [HTK.out, strs_snoc]
            exact hown, HAP.out, by have := hg.size; simp at this; omega, (q4.alloc q4.size _).grown hg (by have := q4.size; simp; omega) (fun j hj => by have := (T4.out.lt j hj).1; omega)⟩)
          clear hown hg hnil hblk O4 T4 q4
          go_wp2
          go_roundw
          case rel => exact ⟨k + 1, by omega, by go_num, T5.out⟩
          case measure => simp [intOf] <;> omega
        · obtain rfl : k = n := by omega
          have HT := hide (own_mono T.txt hB0)
          rw [List.take_of_length_le (by rw [HRL.out]; omega)] at HT
          have q4 := T.below
          clear T
          go_wp2
          go_returns
          exact ⟨_, rfl, HT.out, q4⟩
end Go.Proofs.YtgehcjmhgfhkdaaDoor
