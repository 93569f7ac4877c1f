/- The contract of routesFrom with the price of shortest words. -/
import Derived.Test.YthdkhikkdcjifaaDoorRov
namespace Go.Proofs.YthdkhikkdcjifaaDoor
set_option maxRecDepth 100000
set_option linter.all false
open Go.RowKit Go.Maps Go.ChangeMaps

/-- Is there a state to start from? -/
def askB (s : ByteArray) (t : St) : Bool := isBd s.data.toList && stL s.data.toList t
theorem rowsUnder_no (s : ByteArray) (t : St) (w : World) (hs : s.size ≤ 1048576) (hg : Glob w) (h : askB s t = false) : Calls Tryd.prog 74 #[.string s, St.v t] w fun e w' => e = .returned (.tuple #[.slice none 0 0, .bool false]) ∧ Below w.heap.size w w' := by
  cases h1 : isBd s.data.toList
  · exact rowsUnder_bad s t w hs hg h1
  · refine rowsUnder_off s t w hs hg h1 ?_
    unfold askB at h
    rw [h1] at h
    simpa using h
theorem ask_split {s : ByteArray} {t : St} (h : askB s t = true) : isBd s.data.toList = true ∧ stL s.data.toList t = true ∧ flAt s.data.toList t = true ∧ goodB t.d = true := by
  unfold askB at h
  rw [Bool.and_eq_true] at h
  have h2 := h.2
  unfold stL at h2
  rw [Bool.and_eq_true] at h2
  exact ⟨h.1, h.2, h2.1, h2.2⟩
set_option maxHeartbeats 1600000 in
theorem routesFrom_no (s : ByteArray) (t : St) (w : World) (hs : s.size ≤ 1048576) (hg : Glob w) (h : askB s t = false) : Calls Tryd.prog 47 #[.string s, St.v t, (.func (.func 48) #[] #[])] w fun e w' => e = .returned (.tuple #[.map none, .bool false]) ∧ Below w.heap.size w w' := by
  have S0 : IsS (w.alloc (.cells #[.int .i64 t.x, .int .i64 t.y, .int .i64 t.d.t, .int .i64 t.d.n, .int .i64 t.d.e, .int .i64 t.d.s, .int .i64 t.d.w, .int .i64 t.d.b] 30)) w.heap.size t 30 := IsS.new
  have HG := hide (show Glob (w.alloc (.cells #[.int .i64 t.x, .int .i64 t.y, .int .i64 t.d.t, .int .i64 t.d.n, .int .i64 t.d.e, .int .i64 t.d.s, .int .i64 t.d.w, .int .i64 t.d.b] 30)) from glob_to (w0 := w) ((Below.refl _ _).alloc (Nat.le_refl _) _) hg rfl)
  have HR := hide (fun wx hx => rowsUnder_no s t wx hs hx h)
  have q0 : Below w.heap.size w (w.alloc (.cells #[.int .i64 t.x, .int .i64 t.y, .int .i64 t.d.t, .int .i64 t.d.n, .int .i64 t.d.e, .int .i64 t.d.s, .int .i64 t.d.w, .int .i64 t.d.b] 30)) := by go_grown
  clear hg h hs
  obtain ⟨l0, ⟨a0, a1, a2, a3, a4, a5, a6, a7⟩, -⟩ := S0.all
  go_enter Tryd.func47, Tryd.ntmps47
  go_wp2_with (go_at_call 74; fail)
  refine (HR.out _ HG.out).mono ?_
  rintro e w1 ⟨rfl, hb1⟩
  have q1 := below_to hb1 q0 q0.size rfl rfl rfl rfl
  go_wp2
  go_returns
  exact ⟨rfl, q1⟩
set_option maxHeartbeats 3200000 in
theorem routesFrom_yes (s : ByteArray) (t : St) (w : World) (hs : s.size ≤ 1048576) (hg : Glob w) (h : askB s t = true) : Calls Tryd.prog 47 #[.string s, St.v t, (.func (.func 48) #[] #[])] w fun e w' => ∃ rb, e = .returned (.tuple #[.map (some rb), .bool true]) ∧ w.heap.size ≤ rb ∧ MapR w' rb (seL (wyL (flAt s.data.toList) t)) (wyL (flAt s.data.toList) t).length ∧ Below w.heap.size w w' := by
  have S0 : IsS (w.alloc (.cells #[.int .i64 t.x, .int .i64 t.y, .int .i64 t.d.t, .int .i64 t.d.n, .int .i64 t.d.e, .int .i64 t.d.s, .int .i64 t.d.w, .int .i64 t.d.b] 30)) w.heap.size t 30 := IsS.new
  have HG := hide (show Glob (w.alloc (.cells #[.int .i64 t.x, .int .i64 t.y, .int .i64 t.d.t, .int .i64 t.d.n, .int .i64 t.d.e, .int .i64 t.d.s, .int .i64 t.d.w, .int .i64 t.d.b] 30)) from glob_to (w0 := w) ((Below.refl _ _).alloc (Nat.le_refl _) _) hg rfl)
  obtain ⟨hb, hst, hfl, hgd⟩ := ask_split h
  have HR := hide (fun wx hx => rowsUnder_on s t wx hs hx hb hst)
  have HO := hide (fun (g : Nat) (wx : World) (hx : RowsAt wx g (rowsB s)) => onFloor_any s g wx hx)
  have HV := hide (fun (g cb : Nat) (wx : World) (hx : CloF wx cb g s) => routesOver_any s g cb hs hb t hgd hfl wx hx)
  have q0 : Below w.heap.size w (w.alloc (.cells #[.int .i64 t.x, .int .i64 t.y, .int .i64 t.d.t, .int .i64 t.d.n, .int .i64 t.d.e, .int .i64 t.d.s, .int .i64 t.d.w, .int .i64 t.d.b] 30)) := by go_grown
  clear hg h hs hb hst hfl hgd
  generalize wyL (flAt s.data.toList) t = L at HV ⊢
  obtain ⟨l0, ⟨a0, a1, a2, a3, a4, a5, a6, a7⟩, -⟩ := S0.all
  go_enter Tryd.func47, Tryd.ntmps47
  go_wp2_with (go_at_call 74; fail)
  refine (HR.out _ HG.out).mono ?_
  rintro e w1 ⟨rfl, hrows, hb1⟩
  have S1 := isS_to hb1 S0 rfl
  have q1 := below_to hb1 q0 q0.size rfl rfl rfl rfl
  simp only [World.size_alloc] at hrows
  have HROW := hide (show RowsAt w1.drew (w.heap.size + 1 + 1) (rowsB s) from hrows)
  clear hb1 S0 q0 hrows a0 a1 a2 a3 a4 a5 a6 a7 l0
  obtain ⟨l0, ⟨a0, a1, a2, a3, a4, a5, a6, a7⟩, -⟩ := S1.all
  go_wp2_with fail
  generalize (rowsB s).length = n at HO ⊢
  go_region_held3 (fun w' => w'.cell? ⟨w.heap.size, 0, none⟩ = some (.int .i64 t.x) ∧ w'.cell? ⟨w.heap.size, 1, none⟩ = some (.int .i64 t.y) ∧ w'.cell? ⟨w.heap.size, 2, none⟩ = some (.int .i64 t.d.t) ∧ w'.cell? ⟨w.heap.size, 3, none⟩ = some (.int .i64 t.d.n) ∧ w'.cell? ⟨w.heap.size, 4, none⟩ = some (.int .i64 t.d.e) ∧ w'.cell? ⟨w.heap.size, 5, none⟩ = some (.int .i64 t.d.s) ∧ w'.cell? ⟨w.heap.size, 6, none⟩ = some (.int .i64 t.d.w) ∧ w'.cell? ⟨w.heap.size, 7, none⟩ = some (.int .i64 t.d.b)) (first | (refine ⟨?_, ?_, ?_, ?_, ?_, ?_, ?_, ?_⟩ <;> with_reducible assumption) | (refine ⟨?_, ?_, ?_, ?_, ?_, ?_, ?_, ?_⟩ <;> assumption))
    (first
      | (go_at_call 76; (refine (HO.out _ _ HROW.out).mono ?_); rintro e w2 ⟨cb, rfl, hclo, hb2⟩; have hB2 : Below w1.drew.heap.size w1.drew w2 := (by with_reducible exact hb2); have S2 := isS_to hB2 S1 rfl; have q2 := below_to hB2 q1 q1.size rfl rfl rfl rfl; have HCLO := hide hclo; obtain ⟨m0, ⟨b0, b1, b2, b3, b4, b5, b6, b7⟩, -⟩ := S2.all; clear hb2 hclo)
      | (go_at_call 75; (refine (HV.out _ cb _ HCLO.out).mono ?_); rintro e w3 ⟨rb, rfl, hrb, hmap, hb3⟩; have hB3 : Below w2.heap.size w2 w3 := (by with_reducible exact hb3); have S3 := isS_to hB3 S2 rfl; have q3 := below_to hB3 q2 q2.size rfl rfl rfl rfl; have HMAP := hide hmap; have hrw : w.heap.size ≤ rb := Nat.le_trans q2.size hrb; obtain ⟨n0, ⟨c0, c1, c2, c3, c4, c5, c6, c7⟩, -⟩ := S3.all; clear hb3 hmap))
  all_goals
    go_wp2
    go_returns
    exact ⟨rb, rfl, hrw, HMAP.out, q3⟩
end Go.Proofs.YthdkhikkdcjifaaDoor
