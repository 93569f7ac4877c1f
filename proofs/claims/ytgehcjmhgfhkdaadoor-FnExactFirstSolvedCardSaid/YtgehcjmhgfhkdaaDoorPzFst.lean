/- The first beginning of a word that solves a puzzle: the model's FirstSolved. -/
import Derived.Test.YtgehcjmhgfhkdaaDoorPzWay
namespace Go.Proofs.YtgehcjmhgfhkdaaDoor
set_option maxRecDepth 100000
set_option linter.all false
open Go.RowKit

theorem zs_no {p : Pz} {v : ByteArray} (h : WL p v.data.toList = []) : zsS p v = ⟨#[]⟩ ∧ zsB p v = false := zs_none (fun j s hj hs => by rw [h] at hj; simp at hj)
theorem WL_bad {p : Pz} {L : List UInt8} (h : pzB p = false) : WL p L = [] := by unfold WL; rw [h]; rfl
theorem WL_word {p : Pz} {L : List UInt8} (h : isWord L = false) : WL p L = [] := by
  unfold WL saV raB
  rw [h]
  simp
theorem WL_off {p : Pz} {L : List UInt8} (h : raB p.b.data.toList p.s L = false) : WL p L = [] := by
  unfold WL saV
  rw [h]
  simp
structure FsJ (w wr : World) (p : Pz) (L : List UInt8) (vv : Value) (n k : Nat) : Prop where
  row : wr.ownsRow w.heap.size 32 8 vv n (cellsS (WL p L))
  puz : IsPz wr w.heap.size p 34
  none : ∀ j s, j < k → (WL p L)[j]? = some s → metP p.x p.y p.t s = false
  below : Below w.heap.size w wr
set_option maxHeartbeats 1600000 in
theorem specFS_any (p : Pz) (v : ByteArray) (w : World) (hs : p.b.size ≤ 1048576) (hv : v.size ≤ 1048576) : Calls Tryd.prog 21 #[Pz.v p, .string v] w fun e w' => e = .returned (.tuple #[.string (zsS p v), .bool (zsB p v)]) ∧ Below w.heap.size w w' := by
  have hvm : v.size ≤ maxLen := by unfold maxLen; omega
  obtain ⟨W0, hW, P0, q0⟩ := pz_start p w
  have HW := hide hW
  have HIP := hide (fun wx => puGood_any p wx hs)
  have HRL := hide (fun wx => diWord_any v wx hvm)
  have HRA := hide (fun wx => boWayA_any p.b p.s v wx hs hv)
  have HPD := hide (puDone_any p)
  have hwl := WL_len p v.data.toList
  have hvl : v.data.toList.length = v.size := by simp
  obtain ⟨l0, ⟨a0, a1, a2, a3, a4, a5, a6, a7, a8, a9, a10, a11⟩, -⟩ := P0.all
  clear hW hs hvm
  cases h : pzB p with
  | false =>
    rw [h] at HIP
    have HE := hide (zs_no (WL_bad (L := v.data.toList) h))
    clear h hwl hvl
    go_enter Tryd.func21, Tryd.ntmps21
    go_upto_region 1 with (fail)
    rw [HW.out]
    go_wp2_with fail
    refine (HIP.out _).mono ?_
    rintro e w1 ⟨rfl, hb1⟩
    have q1 := below_to hb1 q0 q0.size rfl rfl rfl rfl
    clear hb1
    go_wp2
    go_returns
    exact ⟨ret_sb2 HE.out, q1⟩
  | true =>
    rw [h] at HIP
    cases h2 : isWord v.data.toList with
    | false =>
      rw [h2] at HRL
      have HE := hide (zs_no (WL_word (p := p) h2))
      clear h h2 hwl hvl
      go_enter Tryd.func21, Tryd.ntmps21
      go_upto_region 1 with (fail)
      rw [HW.out]
      go_wp2_with fail
      refine (HIP.out _).mono ?_
      rintro e w1 ⟨rfl, hb1⟩
      have q1 := below_to hb1 q0 q0.size rfl rfl rfl rfl
      clear hb1
      go_wp2_with fail
      refine (HRL.out _).mono ?_
      rintro e w2 ⟨rfl, rfl⟩
      go_wp2
      go_returns
      exact ⟨ret_sb2 HE.out, q1⟩
    | true =>
      rw [h2] at HRL
      cases h3 : raB p.b.data.toList p.s v.data.toList with
      | false =>
        rw [h3] at HRA
        have HE := hide (zs_no (WL_off (p := p) h3))
        clear h h2 h3 hwl hvl
        go_enter Tryd.func21, Tryd.ntmps21
        go_upto_region 1 with (fail)
        rw [HW.out]
        go_wp2_with fail
        refine (HIP.out _).mono ?_
        rintro e w1 ⟨rfl, hb1⟩
        have q1 := below_to hb1 q0 q0.size rfl rfl rfl rfl
        have P1 := isPz_to hb1 P0 rfl
        clear hb1 a0 a1 a2 a3 a4 a5 a6 a7 a8 a9 a10 a11 l0 P0 q0
        go_wp2_with fail
        refine (HRL.out _).mono ?_
        rintro e w2 ⟨rfl, rfl⟩
        obtain ⟨l0, ⟨a0, a1, a2, a3, a4, a5, a6, a7, a8, a9, a10, a11⟩, -⟩ := P1.all
        go_wp2_with fail
        refine (HRA.out _).mono ?_
        rintro e w3 ⟨vv, rfl, -, hb3⟩
        have q3 := below_to hb3 q1 q1.size rfl rfl rfl rfl
        clear hb3
        go_wp2
        go_returns
        exact ⟨ret_sb2 HE.out, q3⟩
      | true =>
        rw [h3] at HRA
        have hsa : saV p.b.data.toList p.s v.data.toList = WL p v.data.toList := by unfold WL; rw [h]; rfl
        have hne : 0 < (WL p v.data.toList).length := by rw [← hsa]; unfold saV; rw [h3, if_pos rfl, waysT_len]; omega
        rw [hsa] at HRA
        obtain ⟨n, hn⟩ : ∃ n, n = (WL p v.data.toList).length := ⟨_, rfl⟩
        rw [← hn] at HRA hwl hne
        have HN := hide hn
        have hnv : n ≤ v.size + 1 := by omega
        have hn61 : n ≤ 61 := hwl.2
        clear h h2 h3 hsa hwl hvl hn
        go_enter Tryd.func21, Tryd.ntmps21
        go_upto_region 1 with (fail)
        rw [HW.out]
        go_wp2_with fail
        refine (HIP.out _).mono ?_
        rintro e w1 ⟨rfl, hb1⟩
        have q1 := below_to hb1 q0 q0.size rfl rfl rfl rfl
        have P1 := isPz_to hb1 P0 rfl
        clear hb1 a0 a1 a2 a3 a4 a5 a6 a7 a8 a9 a10 a11 l0 P0 q0
        go_wp2_with fail
        refine (HRL.out _).mono ?_
        rintro e w2 ⟨rfl, rfl⟩
        obtain ⟨l0, ⟨a0, a1, a2, a3, a4, a5, a6, a7, a8, a9, a10, a11⟩, -⟩ := P1.all
        go_wp2_with fail
        refine (HRA.out _).mono ?_
        rintro e w3 ⟨vv, rfl, hO, hb3⟩
        obtain ⟨gq, cq, rfl, -, -⟩ := own_form hO hne
        have HT := hide (show FsJ w w3 p v.data.toList (.slice (some ⟨gq, 0, none⟩) n cq) n 0 from ⟨own_mono hO q1.size, isPz_to hb3 P1 rfl, fun _ _ h _ => absurd h (Nat.not_lt_zero _), below_to hb3 q1 q1.size rfl rfl rfl rfl⟩)
        clear hO hb3 a0 a1 a2 a3 a4 a5 a6 a7 a8 a9 a10 a11 l0 P1 q1
        go_wp2
        go_loopw [31] (fun i wr => ∃ k : Nat, k ≤ n ∧ i = .int .i64 (k : Int) ∧ FsJ w wr p v.data.toList (.slice (some ⟨gq, 0, none⟩) n cq) n k) (fun i _ => n - (intOf i).toNat)
        case atStart => exact ⟨0, Nat.zero_le _, rfl, HT.out⟩
        case round =>
          obtain ⟨k, hk, rfl, T⟩ := hrel
          clear HT
          by_cases hlt : k < n
          · obtain ⟨u, hu⟩ : ∃ u, (WL p v.data.toList)[k]? = some u := ⟨_, List.getElem?_eq_getElem (by rw [← HN.out]; exact hlt)⟩
            obtain ⟨c0, c1, c2, c3, c4, c5, c6, c7⟩ := row_cells_at k T.row hlt hu
            have HU := hide hu
            have HT := hide T
            have hki : (k : Int) < (n : Int) := by omega
            have hkv : (k : Int) ≤ (v.size : Int) := by omega
            have w1q : IntKind.i64.wrap ((k : Int) + 1) = (k : Int) + 1 := IntWalk.i64_in _ (by omega)
            have q3 := T.below.alloc T.below.size (.cells #[.int .i64 u.x, .int .i64 u.y, .int .i64 u.d.t, .int .i64 u.d.n, .int .i64 u.d.e, .int .i64 u.d.s, .int .i64 u.d.w, .int .i64 u.d.b] 32)
            have P3 := T.puz.alloc (.cells #[.int .i64 u.x, .int .i64 u.y, .int .i64 u.d.t, .int .i64 u.d.n, .int .i64 u.d.e, .int .i64 u.d.s, .int .i64 u.d.w, .int .i64 u.d.b] 32)
            have R3 := hide (T.row.alloc (.cells #[.int .i64 u.x, .int .i64 u.y, .int .i64 u.d.t, .int .i64 u.d.n, .int .i64 u.d.e, .int .i64 u.d.s, .int .i64 u.d.w, .int .i64 u.d.b] 32))
            obtain ⟨l0, ⟨a0, a1, a2, a3, a4, a5, a6, a7, a8, a9, a10, a11⟩, -⟩ := T.puz.all
            clear hu T
            go_wp2_with fail
            refine (HPD.out u _).mono ?_
            rintro e w4 ⟨rfl, hb4⟩
            have q4 := below_to hb4 q3 q3.size rfl rfl rfl rfl
            have P4 := hide (isPz_to hb4 P3 rfl)
            have R4 := hide (own_to hb4 R3.out rfl)
            clear hb4 q3 c0 c1 c2 c3 c4 c5 c6 c7 P3 R3 a0 a1 a2 a3 a4 a5 a6 a7 a8 a9 a10 a11 l0
            cases hm : metP p.x p.y p.t u with
            | false =>
              have T4 := hide (show FsJ w w4 p v.data.toList (.slice (some ⟨gq, 0, none⟩) n cq) n (k + 1) from ⟨R4.out, P4.out, fun j s hj hs => by
                by_cases e : j = k
                · subst e
                  have := HU.out.symm.trans hs
                  injection this with this
                  rw [← this]
                  exact hm
                · exact HT.out.none j s (by omega) hs, q4⟩)
              clear hm HT
              go_wp2
              go_roundw
              case rel => exact ⟨k + 1, by omega, by go_num, T4.out⟩
              case measure => simp [intOf] <;> omega
            | true =>
              have HE := hide (zs_hit HT.out.none HU.out hm)
              clear hm HT
              go_wp2
              go_returns
              exact ⟨ret_sb2 HE.out, q4⟩
          · obtain rfl : k = n := by omega
            have HE := hide (zs_none (p := p) (v := v) (fun j s hj hs => T.none j s (by rw [HN.out]; exact hj) hs))
            have q4 := T.below
            clear T
            go_wp2
            go_returns
            exact ⟨ret_sb2 HE.out, q4⟩
end Go.Proofs.YtgehcjmhgfhkdaaDoor
