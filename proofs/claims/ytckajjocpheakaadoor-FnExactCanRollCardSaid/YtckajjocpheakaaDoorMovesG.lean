/- The program's CanRoll at a state on a board. -/
import Derived.Test.YtckajjocpheakaaDoorMovesF
namespace Go.Proofs.YtckajjocpheakaaDoor
set_option maxRecDepth 100000
set_option linter.all false
open Go.RowKit

set_option maxHeartbeats 1600000 in
theorem implCan_on (s : ByteArray) (t : St) (w : World) (hs : s.size ≤ 1048576) (hg : Glob w) (h : isBd s.data.toList = true) (h2 : stL s.data.toList t = true) : Calls Tryd.prog 15 #[.string s, St.v t] w fun e w' => e = .returned (.tuple #[.string ⟨(canW s.data.toList t 4).toArray⟩, .bool true]) ∧ Below w.heap.size w w' := by
  have HG := hide (show Glob (w.alloc (.cells #[.int .i64 t.x, .int .i64 t.y, .int .i64 t.d.t, .int .i64 t.d.n, .int .i64 t.d.e, .int .i64 t.d.s, .int .i64 t.d.w, .int .i64 t.d.b] 30)) from glob_to (w0 := w) ((Below.refl _ _).alloc (Nat.le_refl _) _) hg rfl)
  obtain ⟨hx, hy⟩ := st_near h h2
  have HX := hide hx
  have HY := hide hy
  have HGD := hide (st_floor h2).2
  have H := hide h
  have HST := hide h2
  have HS := hide hs
  have HOF := hide (fun gR wx (hx : RowsAt wx gR (rowsB s)) => onFloor_any s gR wx hx)
  have HMV := hide (fun gR b wx (hx : CloF wx b gR s) => movesOfF_any s gR b hs h t HGD.out HX.out HY.out wx hx)
  generalize canW s.data.toList t 4 = x at HMV ⊢
  clear h h2 hx hy hg hs
  go_enter Tryd.func15, Tryd.ntmps15
  go_wp2_with fail
  refine (rowsUnder_on s t _ HS.out HG.out H.out HST.out).mono ?_
  rintro e w1 ⟨rfl, RA, hb1⟩
  have hz : (w.alloc (.cells #[.int .i64 t.x, .int .i64 t.y, .int .i64 t.d.t, .int .i64 t.d.n, .int .i64 t.d.e, .int .i64 t.d.s, .int .i64 t.d.w, .int .i64 t.d.b] 30)).heap.size + 1 = w.heap.size + 2 := by simp
  rw [hz] at RA ⊢
  generalize w.heap.size + 2 = gR at RA ⊢
  clear hz
  have u1 := isS_to hb1 (IsS.new (w := w) (s := t) (ty := 30)) rfl
  have q1 : Below w.heap.size w w1 := below_after (by go_grown) hb1 (by simp)
  have HRA := hide RA
  have HU := hide u1
  have HQ := hide q1
  obtain ⟨l0, ⟨a0, a1, a2, a3, a4, a5, a6, a7⟩, -⟩ := u1.all
  clear hb1 RA u1 q1
  have HLD := hide (show RowsAt w1.drew gR (rowsB s) from HRA.out)
  generalize (rowsB s).length = nr at HOF ⊢
  go_upto_region 4 with (fail)
  go_region_held3 (fun w' => w'.cell? ⟨w.heap.size, 0, none⟩ = some (.int .i64 t.x) ∧ w'.cell? ⟨w.heap.size, 1, none⟩ = some (.int .i64 t.y) ∧ w'.cell? ⟨w.heap.size, 2, none⟩ = some (.int .i64 t.d.t) ∧ w'.cell? ⟨w.heap.size, 3, none⟩ = some (.int .i64 t.d.n) ∧ w'.cell? ⟨w.heap.size, 4, none⟩ = some (.int .i64 t.d.e) ∧ w'.cell? ⟨w.heap.size, 5, none⟩ = some (.int .i64 t.d.s) ∧ w'.cell? ⟨w.heap.size, 6, none⟩ = some (.int .i64 t.d.w) ∧ w'.cell? ⟨w.heap.size, 7, none⟩ = some (.int .i64 t.d.b)) (first | (refine ⟨?_, ?_, ?_, ?_, ?_, ?_, ?_, ?_⟩ <;> with_reducible assumption) | (refine ⟨?_, ?_, ?_, ?_, ?_, ?_, ?_, ?_⟩ <;> assumption))
    (first
      | (go_at_call 41; (refine (HOF.out _ _ HLD.out).mono ?_); rintro e w4 ⟨b, rfl, hC4, hb4⟩; have C4 := hide hC4; have u4 := isS_to hb4 HU.out rfl; have q4 := below_to hb4 HQ.out HQ.out.size rfl rfl rfl rfl; obtain ⟨m0, ⟨b0, b1, b2, b3, b4, b5, b6, b7⟩, -⟩ := u4.all; clear hb4 hC4)
      | (go_at_call 40; (refine (HMV.out _ b _ C4.out).mono ?_); rintro e w5 ⟨rfl, hb5⟩; have u5 := isS_to hb5 u4 rfl; have HQ4 := hide (below_to hb5 q4 q4.size rfl rfl rfl rfl); obtain ⟨n0, ⟨d0, d1, d2, d3, d4, d5, d6, d7⟩, -⟩ := u5.all; clear hb5))
  all_goals
    go_wp2
    go_returns
    exact ⟨rfl, HQ4.out⟩
end Go.Proofs.YtckajjocpheakaaDoor
