/- The text of a puzzle: the program's PuzzleText. -/
import Derived.Test.YtgehcjmhgfhkdaaDoorPzTextS
import Derived.Test.YtgehcjmhgfhkdaaDoorJoinC
namespace Go.Proofs.YtgehcjmhgfhkdaaDoor
set_option maxRecDepth 100000
set_option linter.all false
open Go.RowKit

theorem itoa_at (x : Int) (h0 : 0 ≤ x) (h9 : x ≤ 9) (w : World) : Calls Tryd.prog 53 #[.int .i64 x] w fun e w' => e = .returned (.string ⟨#[dgD x]⟩) ∧ w' = w := by
  obtain ⟨n, rfl⟩ := Int.eq_ofNat_of_zero_le h0
  have e : Lib.decDigits n = [dgD (n : Int)] := by
    unfold Lib.decDigits
    rw [dif_pos (by omega)]
    rfl
  have h := Tryd.strconv_Itoa_small n (by omega) w
  rw [e] at h
  exact h
theorem cells7 {w : World} {b : Nat} {ty : TypeId} {a0 a1 a2 a3 a4 a5 a6 : ByteArray} (h : w.heap[b]? = some (.cells #[.string a0, .string a1, .string a2, .string a3, .string a4, .string a5, .string a6] ty (0, 0))) : ∀ (j : Nat) (x : ByteArray), [a0, a1, a2, a3, a4, a5, a6][j]? = some x → w.cell? ⟨b, j, none⟩ = some (.string x) := by
  intro j x hj
  rcases j with _ | _ | _ | _ | _ | _ | _ | j
  all_goals
    first
    | (simp at hj; subst hj; simp [World.cell?, h]; done)
    | (simp at hj; done)
set_option maxHeartbeats 3200000 in
theorem implPT_any (p : Pz) (w : World) (hs : p.b.size ≤ 1048576) (hg : Glob w) : Calls Tryd.prog 27 #[Pz.v p] w fun e w' => e = .returned (.tuple #[.string (ptS p), .bool (pzB p)]) ∧ Below w.heap.size w w' := by
  obtain ⟨W0, hW, P0, q0⟩ := pz_start p w
  have HW := hide hW
  have HG := hide (glob_to q0 hg rfl)
  have HIP := hide (fun wx hx => implIP_any p wx hs hx)
  obtain ⟨l0, ⟨a0, a1, a2, a3, a4, a5, a6, a7, a8, a9, a10, a11⟩, -⟩ := P0.all
  clear hW hg
  cases h : pzB p with
  | false =>
    rw [h] at HIP
    have HE := hide (show ptS p = ⟨#[]⟩ from by unfold ptS; rw [h]; rfl)
    rw [HE.out]
    clear h hs
    go_enter Tryd.func27, Tryd.ntmps27
    go_upto_region 1 with (fail)
    rw [HW.out]
    go_wp2_with fail
    refine (HIP.out _ HG.out).mono ?_
    rintro e w1 ⟨rfl, hb1⟩
    have q1 := below_to hb1 q0 q0.size rfl rfl rfl rfl
    clear hb1
    go_wp2
    go_returns
    exact ⟨rfl, q1⟩
  | true =>
    rw [h] at HIP
    obtain ⟨⟨⟨x0, x1⟩, ⟨y0, y1⟩⟩, ⟨⟨u0, u1⟩, ⟨v0, v1⟩⟩, ⟨z0, z1⟩, hd⟩ := pt_bounds h
    have hb42 : p.b.size ≤ 42 := by have := isBd_len (tp_yes h).1; simpa using this
    have HDT := hide (fun wx => (show Calls Tryd.prog 43 #[D.v p.s.d] wx (fun e w' => e = .returned (.tuple #[.string ⟨(dText p.s.d).toArray⟩, .bool true]) ∧ Below wx.heap.size wx w') from by
      have := implDieText_any p.s.d wx
      rw [hd, if_pos rfl] at this
      exact this))
    have HE := hide (show ptS p = ⟨(ptL p).toArray⟩ from by unfold ptS; rw [h]; rfl)
    rw [HE.out]
    unfold ptL
    have hdl : (dText p.s.d).length = 6 := rfl
    clear h hs hd HE
    generalize dText p.s.d = dt at HDT hdl ⊢
    have HJ := hide (show joinC ([p.b, ⟨#[dgD p.s.x]⟩, ⟨#[dgD p.s.y]⟩, ⟨dt.toArray⟩, ⟨#[dgD p.x]⟩, ⟨#[dgD p.y]⟩, ⟨#[dgD p.t]⟩].map (·.data.toList)) = p.b.data.toList ++ 58 :: dgD p.s.x :: 58 :: dgD p.s.y :: 58 :: (dt ++ [58, dgD p.x, 58, dgD p.y, 58, dgD p.t]) from by simp [joinC])
    have HX := hide (show ∀ x ∈ ([p.b, ⟨#[dgD p.s.x]⟩, ⟨#[dgD p.s.y]⟩, ⟨dt.toArray⟩, ⟨#[dgD p.x]⟩, ⟨#[dgD p.y]⟩, ⟨#[dgD p.t]⟩] : List ByteArray), x.size ≤ 100 from by
      intro x hx
      simp only [List.mem_cons, List.not_mem_nil, or_false] at hx
      have e1 : ∀ c : UInt8, (⟨#[c]⟩ : ByteArray).size ≤ 100 := fun c => by show 1 ≤ 100; decide
      rcases hx with rfl | rfl | rfl | rfl | rfl | rfl | rfl
      · omega
      · exact e1 _
      · exact e1 _
      · show dt.toArray.size ≤ 100; simp; omega
      · exact e1 _
      · exact e1 _
      · exact e1 _)
    clear hb42 hdl
    go_enter Tryd.func27, Tryd.ntmps27
    go_upto_region 1 with (fail)
    rw [HW.out]
    go_wp2_with fail
    refine (HIP.out _ HG.out).mono ?_
    rintro e w1 ⟨rfl, hb1⟩
    have q1 := below_to hb1 q0 q0.size rfl rfl rfl rfl
    have P1 := isPz_to hb1 P0 rfl
    clear hb1 a0 a1 a2 a3 a4 a5 a6 a7 a8 a9 a10 a11 l0 P0 q0
    obtain ⟨l0, ⟨a0, a1, a2, a3, a4, a5, a6, a7, a8, a9, a10, a11⟩, -⟩ := P1.all
    go_wp2_with fail
    refine (HDT.out _).mono ?_
    rintro e w2 ⟨rfl, hb2⟩
    have q2 := below_to hb2 q1 q1.size rfl rfl rfl rfl
    have P2 := isPz_to hb2 P1 rfl
    clear hb2 a0 a1 a2 a3 a4 a5 a6 a7 a8 a9 a10 a11 l0 P1 q1
    obtain ⟨l0, ⟨a0, a1, a2, a3, a4, a5, a6, a7, a8, a9, a10, a11⟩, -⟩ := P2.all
    go_upto_region 4 with (fail)
    go_region_held3 (fun w' => w'.cell? ⟨w.heap.size, 0, none⟩ = some (.string p.b) ∧ w'.cell? ⟨w.heap.size, 1, none⟩ = some (.int .i64 p.s.x) ∧ w'.cell? ⟨w.heap.size, 2, none⟩ = some (.int .i64 p.s.y) ∧ w'.cell? ⟨w.heap.size, 9, none⟩ = some (.int .i64 p.x) ∧ w'.cell? ⟨w.heap.size, 10, none⟩ = some (.int .i64 p.y) ∧ w'.cell? ⟨w.heap.size, 11, none⟩ = some (.int .i64 p.t)) (first | (refine ⟨?_, ?_, ?_, ?_, ?_, ?_⟩ <;> with_reducible assumption) | (refine ⟨?_, ?_, ?_, ?_, ?_, ?_⟩ <;> (refine (((Below.refl _ _).alloc (Nat.le_refl _) _).cell (by exact l0)).trans ?_; with_reducible assumption)) | (refine ⟨?_, ?_, ?_, ?_, ?_, ?_⟩ <;> assumption))
      (first
        | (go_at_call 53; refine Calls.mono (itoa_at _ (by assumption) (by assumption) _) ?_; rintro e wn ⟨rfl, rfl⟩))
    all_goals
      go_wp2_with fail
      refine Calls.mono (joinK _ 7 [p.b, ⟨#[dgD p.s.x]⟩, ⟨#[dgD p.s.y]⟩, ⟨dt.toArray⟩, ⟨#[dgD p.x]⟩, ⟨#[dgD p.y]⟩, ⟨#[dgD p.t]⟩] _ (cells7 (ty := 86) ?_) ?_ (by simp) (by simp) (by simp) HX.out) ?_
      · show (w2.heap.push _)[w2.heap.size]? = _
        simp
      · show w2.heap.size < (w2.heap.push _).size
        simp
      · rintro e w5 ⟨rfl, hb5⟩
        rw [HJ.out]
        have q5 := below_to hb5 (q2.alloc q2.size _) (by have := q2.size; show _ ≤ (w2.heap.push _).size; simp; omega) rfl rfl rfl rfl
        clear hb5
        go_wp2
        go_returns
        exact ⟨rfl, q5⟩
end Go.Proofs.YtgehcjmhgfhkdaaDoor
