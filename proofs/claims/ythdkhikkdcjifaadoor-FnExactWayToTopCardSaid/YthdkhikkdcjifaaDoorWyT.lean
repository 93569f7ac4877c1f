/- Any state as a key and as an argument; the contracts of spec.wyFind, spec.wyTo, impl.routeTo. -/
import Derived.Test.YthdkhikkdcjifaaDoorWalksCR
import Derived.Test.YthdkhikkdcjifaaDoorEqS
namespace Go.Proofs.YthdkhikkdcjifaaDoor
set_option maxRecDepth 100000
set_option linter.all false
open Go.RowKit Go.Maps Go.ChangeMaps Go.Joins Go.ChangeShapes Go.WideShapes Go.Deep

/-- A state of integers that an int holds. -/
def wfS (s : St) : Prop := (Lit.int .i64 s.x).wf = true ∧ (Lit.int .i64 s.y).wf = true ∧ (Lit.int .i64 s.d.t).wf = true ∧ (Lit.int .i64 s.d.n).wf = true ∧ (Lit.int .i64 s.d.e).wf = true ∧ (Lit.int .i64 s.d.s).wf = true ∧ (Lit.int .i64 s.d.w).wf = true ∧ (Lit.int .i64 s.d.b).wf = true
theorem open_stateW {H : Type} {enc : TypeId × Value → H} {w : World} {base : Nat} {spare : Nat → Bool} {held : Bool} {r : Reach} {b0 : Nat} {v : Value} {x : DataW H} {p : List MemPlace}
    (hv : Value.okWide Tryd.prog w r b0 25 v) (h : DataW.Trod enc Tryd.prog w base spare held 25 v x p) : ∃ s : St, wfS s ∧ v = St.v s := by
  obtain ⟨cs, rfl, hsz⟩ := okWide_struct Tryd.underlying25 hv
  obtain ⟨l⟩ := cs
  match l, hsz.trans cells_state with
  | [c0, c1, c2, c3, c4, c5, c6, c7], _ =>
    obtain ⟨fuel, hf⟩ := h
    obtain ⟨xs, n, _, hx, _, hlen, hg⟩ := DataW.trod_struct Tryd.underlying25 hf
    have ci := cells_int
    have cd := cells_inner
    have g0 := hg 0 _ rfl
    have g1 := hg 1 _ rfl
    have g2 := hg 2 _ rfl
    simp only [Value.cells] at g0 g1 g2
    have hl : ∀ j, j < 3 → ∃ y, xs[j]? = some y := fun j hj => ⟨xs[j]'(by simp_all), List.getElem?_eq_getElem _⟩
    obtain ⟨y0, e0⟩ := hl 0 (by omega)
    obtain ⟨y1, e1⟩ := hl 1 (by omega)
    obtain ⟨y2, e2⟩ := hl 2 (by omega)
    obtain ⟨a0, rfl, wf0⟩ := one_int c0 y0 (g0.trans e0)
    obtain ⟨a1, rfl, wf1⟩ := one_int c1 y1 (g1.trans e1)
    have h2 : DataW.trod enc Tryd.prog w base spare held n 23 [c2, c3, c4, c5, c6, c7] = some y2 := g2.trans e2
    obtain ⟨zs, m, _, hz, _, hzl, hq⟩ := DataW.trod_struct Tryd.underlying23 h2
    have q0 := hq 0 _ rfl
    have q1 := hq 1 _ rfl
    have q2 := hq 2 _ rfl
    have q3 := hq 3 _ rfl
    have q4 := hq 4 _ rfl
    have q5 := hq 5 _ rfl
    have kl : ∀ j, j < 6 → ∃ y, zs[j]? = some y := fun j hj => ⟨zs[j]'(by simp_all), List.getElem?_eq_getElem _⟩
    obtain ⟨z0, k0⟩ := kl 0 (by omega)
    obtain ⟨z1, k1⟩ := kl 1 (by omega)
    obtain ⟨z2, k2⟩ := kl 2 (by omega)
    obtain ⟨z3, k3⟩ := kl 3 (by omega)
    obtain ⟨z4, k4⟩ := kl 4 (by omega)
    obtain ⟨z5, k5⟩ := kl 5 (by omega)
    obtain ⟨b0, rfl, vf0⟩ := one_int c2 z0 (q0.trans k0)
    obtain ⟨b1, rfl, vf1⟩ := one_int c3 z1 (q1.trans k1)
    obtain ⟨b2, rfl, vf2⟩ := one_int c4 z2 (q2.trans k2)
    obtain ⟨b3, rfl, vf3⟩ := one_int c5 z3 (q3.trans k3)
    obtain ⟨b4, rfl, vf4⟩ := one_int c6 z4 (q4.trans k4)
    obtain ⟨b5, rfl, vf5⟩ := one_int c7 z5 (q5.trans k5)
    exact ⟨⟨a0, a1, ⟨b0, b1, b2, b3, b4, b5⟩⟩, ⟨wf0, wf1, vf0, vf1, vf2, vf3, vf4, vf5⟩, rfl⟩
theorem key_stateW {s : St} (h : wfS s) : ∃ l, keyOf Tryd.prog 30 (St.v s) = some l := by
  obtain ⟨hX, hY, h0, h1, h2, h3, h4, h5⟩ := h
  have k1 : Tryd.prog.keyType 30 = true := by kernel_rfl
  have k2 : (St.v s).formed Tryd.prog 30 = true := by kernel_rfl
  have k3 : ∃ d, Tryd.prog.types.size + 1 = d + 3 := ⟨Tryd.prog.types.size - 2, by
    have : 2 ≤ Tryd.prog.types.size := of_decide_eq_true (by kernel_rfl)
    omega⟩
  have k4 : ∀ d a, (Lit.int .i64 a).wf = true → Tryd.prog.keyLits (d + 1) 3 [.int .i64 a] = some [.int .i64 a] := by
    intro d a ha
    unfold Program.keyLits
    rw [Tryd.underlying3]
    simp [ha]
  have c3 : Tryd.prog.cellsOf 3 = 1 := by kernel_rfl
  have c6 : Tryd.prog.cellsOf 28 = 6 := by kernel_rfl
  have c8 : Tryd.prog.cellsOf 30 = 8 := by kernel_rfl
  have k6 : ∀ d, ∃ ls, Tryd.prog.keyLits (d + 2) 28 [.int .i64 s.d.t, .int .i64 s.d.n, .int .i64 s.d.e, .int .i64 s.d.s, .int .i64 s.d.w, .int .i64 s.d.b] = some ls := by
    intro d
    unfold Program.keyLits
    rw [Tryd.underlying28]
    simp [c3, c6, k4 d _ h0, k4 d _ h1, k4 d _ h2, k4 d _ h3, k4 d _ h4, k4 d _ h5]
  obtain ⟨d, hd⟩ := k3
  have k5 : ∃ ls, Tryd.prog.keyLits (d + 3) 30 (St.v s).cells.toList = some ls := by
    obtain ⟨ls6, hls6⟩ := k6 d
    unfold Program.keyLits
    rw [Tryd.underlying30]
    simp [Value.cells, c3, c6, c8, k4 (d + 1) _ hX, k4 (d + 1) _ hY, hls6]
  obtain ⟨ls, hls⟩ := k5
  unfold keyOf
  rw [Tryd.underlying30]
  simp only [k1, k2, hd, hls, Bool.and_self, if_true, Option.map_some]
  exact ⟨_, rfl⟩
/-- 'm[s]' at whatever state, in the map of all that has been found. -/
theorem lookS_wy {M : List Nd} (hn : (M.map (·.s)).Nodup) (hs : ∀ q ∈ M, okS q.s) {s : St} (hw : wfS s) {w : World} {b : Nat} (h : MapR w b (seL M) M.length) :
    (Instr.lookup 65 (.map (some b)) (St.v s) true).run Tryd.prog w = .ok (.tuple #[Rt.v (((findI M s).bind (fun i => M[i]?)).elim zeroR rtOf), .bool (findI M s).isSome]) w := by
  have hL := seL_ok hn hs
  cases hf : findI M s with
  | none =>
    obtain ⟨kl, hk⟩ := key_stateW hw
    rcases lawS.find w hk ((seL M).map entS) (by
      intro e he
      obtain ⟨x, hx, rfl⟩ := List.mem_map.1 he
      exact key_state (hL.ok x hx)) with ⟨h1, h2⟩ | ⟨j, e, h1, h2, h3⟩
    · simp [Instr.lookup, run_underlying Tryd.underlying65, MapKept.run_getObj_map h, lawS.check w _ hk, h1, zero_route, Result.andThen, zeroR]
    · obtain ⟨x, hx, rfl⟩ := ent_get h2
      obtain ⟨i, q, hq, rfl⟩ := seL_mem (List.mem_of_getElem? hx)
      exact absurd (vS_inj h3) (findI_none hf q (List.mem_of_getElem? hq))
  | some i =>
    obtain ⟨q, hq, hqs⟩ := findI_some hf
    have hx : (seL M)[i]? = some (seOf q i) := by rw [seL_get, hq]; rfl
    have := (lookS_yes hL hx h).1
    have e : (seOf q i).1.1 = s := hqs
    rw [e] at this
    rw [this]
    simp [hq, seOf]
theorem lookS_nil {s : St} (hw : wfS s) (w : World) : (Instr.lookup 65 (.map none) (St.v s) true).run Tryd.prog w = .ok (.tuple #[Rt.v zeroR, .bool false]) w := by
  obtain ⟨kl, hk⟩ := key_stateW hw
  have := Maps.look_nil (P := Tryd.prog) (w := w) true lawS Tryd.underlying65 (zero_route w) hk
  simpa using this
/-- What has been found at a state, if it is asked for and found. -/
def ndB (s : ByteArray) (t u : St) : Option Nd := if askB s t = true then (findI (wysB s t) u).bind (fun i => (wysB s t)[i]?) else none
theorem wysB_okS {s : ByteArray} {t : St} (h : askB s t = true) : ∀ q ∈ wysB s t, okS q.s := by
  obtain ⟨h1, _, h3, h4⟩ := ask_split h
  exact fun q hq => ((fitOk_board h1 h3 h4).oks 1000 0 (by omega) q hq).1
theorem wysB_nodup (s : ByteArray) (t : St) : ((wysB s t).map (·.s)).Nodup := (runW_ok (flAt s.data.toList) t 1000).nodup
theorem wysB_on {s : ByteArray} {t : St} (h : askB s t = true) : ∀ q ∈ wysB s t, stL s.data.toList q.s = true := by
  obtain ⟨h1, _, h3, h4⟩ := ask_split h
  intro q hq
  have hok := runW_ok (flAt s.data.toList) t 1000
  have hfl : flAt s.data.toList q.s = true := by
    obtain ⟨i, hi⟩ := List.mem_iff_getElem?.1 hq
    by_cases e : i = 0
    · subst e
      have h0 := hok.head
      rw [show runW (flAt s.data.toList) t 1000 = wysB s t from rfl, hi] at h0
      obtain rfl := Option.some.inj h0
      exact h3
    · exact hok.fits i q (by omega) hi
  unfold stL
  rw [show floorL s.data.toList q.s.x q.s.y = flAt s.data.toList q.s from rfl, hfl, (wysB_okS h q hq).2.2]
  rfl
theorem row_nd {w : World} {B g1 c1 k : Nat} {L : List WN} (h : w.ownsRow B 77 16 (.slice (some ⟨g1, 0, none⟩) L.length c1) L.length (wnL L)) {q : WN} (hx : L[k]? = some q) : g1 < w.heap.size ∧ w.cell? ⟨g1, k * 16, none⟩ = some (.int .i64 q.s.x) ∧ w.cell? ⟨g1, k * 16 + 1, none⟩ = some (.int .i64 q.s.y) ∧ w.cell? ⟨g1, k * 16 + 2, none⟩ = some (.int .i64 q.s.d.t) ∧ w.cell? ⟨g1, k * 16 + 3, none⟩ = some (.int .i64 q.s.d.n) ∧ w.cell? ⟨g1, k * 16 + 4, none⟩ = some (.int .i64 q.s.d.e) ∧ w.cell? ⟨g1, k * 16 + 5, none⟩ = some (.int .i64 q.s.d.s) ∧ w.cell? ⟨g1, k * 16 + 6, none⟩ = some (.int .i64 q.s.d.w) ∧ w.cell? ⟨g1, k * 16 + 7, none⟩ = some (.int .i64 q.s.d.b) ∧ w.cell? ⟨g1, k * 16 + 8, none⟩ = some (.int .i64 (q.far : Int)) ∧ w.cell? ⟨g1, k * 16 + 9, none⟩ = some (.int .i64 q.cnt) ∧ w.cell? ⟨g1, k * 16 + 10, none⟩ = some (.int .i64 q.bf) ∧ w.cell? ⟨g1, k * 16 + 11, none⟩ = some (.int .i64 q.dr) ∧ w.cell? ⟨g1, k * 16 + 12, none⟩ = some (.int .i64 (q.nx 0)) ∧ w.cell? ⟨g1, k * 16 + 13, none⟩ = some (.int .i64 (q.nx 1)) ∧ w.cell? ⟨g1, k * 16 + 14, none⟩ = some (.int .i64 (q.nx 2)) ∧ w.cell? ⟨g1, k * 16 + 15, none⟩ = some (.int .i64 (q.nx 3)) := by
  have hk := (List.getElem?_eq_some_iff.1 hx).1
  obtain ⟨g', c', h1, -, h2⟩ := own_form h (by omega)
  have e : g1 = g' := by injection h1 with h1; injection h1 with h1; injection h1
  have hc : ∀ i x, i < 16 → (wnC q)[i]? = some x → w.cell? ⟨g1, k * 16 + i, none⟩ = some x := fun i x hi hx' => (h.cellAt (k * 16 + i) (by omega)).trans ((wnL_get L k _ hx i hi).trans hx')
  exact ⟨by rw [e]; exact h2, hc 0 _ (by omega) rfl, hc 1 _ (by omega) rfl, hc 2 _ (by omega) rfl, hc 3 _ (by omega) rfl, hc 4 _ (by omega) rfl, hc 5 _ (by omega) rfl, hc 6 _ (by omega) rfl, hc 7 _ (by omega) rfl, hc 8 _ (by omega) rfl, hc 9 _ (by omega) rfl, hc 10 _ (by omega) rfl, hc 11 _ (by omega) rfl, hc 12 _ (by omega) rfl, hc 13 _ (by omega) rfl, hc 14 _ (by omega) rfl, hc 15 _ (by omega) rfl⟩
/-- The number of a state among the nodes, counted from k. -/
def fndW : List WN → St → Nat → Int
  | [], _, _ => -1
  | x :: L, s, k => if x.s = s then (k : Int) else fndW L s (k + 1)
theorem fndW_findI (s : St) : ∀ (L : List WN) (M : List Nd) (k : Nat), L.map coreW = M.map coreN → fndW L s k = match findI M s with
    | some i => ((k + i : Nat) : Int)
    | none => -1
  | [], [], _, _ => rfl
  | [], _ :: _, _, h => by simp at h
  | _ :: _, [], _, h => by simp at h
  | x :: L, q :: M, k, h => by
    simp only [List.map_cons, List.cons.injEq] at h
    have hs : x.s = q.s := by
      have := h.1
      simp only [coreW, coreN, Prod.mk.injEq] at this
      exact this.1
    have ih := fndW_findI s L M (k + 1) h.2
    show (if x.s = s then (k : Int) else fndW L s (k + 1)) = _
    unfold findI
    rw [hs]
    by_cases e : q.s = s
    · rw [if_pos e, if_pos e]
      simp
    · rw [if_neg e, if_neg e, ih]
      cases findI M s with
      | none => rfl
      | some i =>
        show (((k + 1) + i : Nat) : Int) = ((k + (i + 1) : Nat) : Int)
        congr 1
        omega
set_option maxHeartbeats 3200000 in
theorem wyFind_any (B g1 c1 : Nat) (L : List WN) (s : St) (hl : L.length ≤ 1000) (w : World) (hr : w.ownsRow B 77 16 (.slice (some ⟨g1, 0, none⟩) L.length c1) L.length (wnL L)) : Calls Tryd.prog 77 #[.slice (some ⟨g1, 0, none⟩) L.length c1, St.v s] w fun e w' => e = .returned (.int .i64 (fndW L s 0)) ∧ Below w.heap.size w w' := by
  have S0 : IsS (w.alloc (.cells #[.int .i64 s.x, .int .i64 s.y, .int .i64 s.d.t, .int .i64 s.d.n, .int .i64 s.d.e, .int .i64 s.d.s, .int .i64 s.d.w, .int .i64 s.d.b] 30)) w.heap.size s 30 := IsS.new
  have R0 := hr.alloc (.cells #[.int .i64 s.x, .int .i64 s.y, .int .i64 s.d.t, .int .i64 s.d.n, .int .i64 s.d.e, .int .i64 s.d.s, .int .i64 s.d.w, .int .i64 s.d.b] 30)
  have q0 : Below w.heap.size w (w.alloc (.cells #[.int .i64 s.x, .int .i64 s.y, .int .i64 s.d.t, .int .i64 s.d.n, .int .i64 s.d.e, .int .i64 s.d.s, .int .i64 s.d.w, .int .i64 s.d.b] 30)) := by go_grown
  clear hr
  have HP := hide (show ∀ k (x : WN), L[k]? = some x → fndW (L.drop k) s k = if x.s = s then (k : Int) else fndW (L.drop (k + 1)) s (k + 1) from fun k x h => by
    have hl := (List.getElem?_eq_some_iff.1 h).1
    have hd : L.drop k = x :: L.drop (k + 1) := by
      rw [List.drop_eq_getElem_cons hl, (List.getElem?_eq_some_iff.1 h).2]
    rw [hd]
    rfl)
  have HE := hide (show fndW (L.drop L.length) s L.length = -1 from by rw [List.drop_length]; rfl)
  obtain ⟨res, hres⟩ : ∃ r, r = fndW L s 0 := ⟨_, rfl⟩
  rw [← hres]
  have HR := hide hres
  clear hres
  go_enter Tryd.func77, Tryd.ntmps77
  go_upto_region 1 with (fail)
  generalize w.alloc (.cells #[.int .i64 s.x, .int .i64 s.y, .int .i64 s.d.t, .int .i64 s.d.n, .int .i64 s.d.e, .int .i64 s.d.s, .int .i64 s.d.w, .int .i64 s.d.b] 30) = w0 at S0 R0 q0 ⊢
  go_wp2_with fail
  go_loopw [9] (fun i wr => ∃ k : Nat, k ≤ L.length ∧ i = .int .i64 (k : Int) ∧ Hid (res = fndW (L.drop k) s k) ∧ Below w0.heap.size w0 wr) (fun i _ => L.length - (intOf i).toNat)
  case atStart => exact ⟨0, Nat.zero_le _, rfl, HR.out, Below.refl _ _⟩
  case round =>
    obtain ⟨k, hk, rfl, hrs, hB⟩ := hrel
    have S1 := isS_to hB S0 rfl
    have R1 := own_to hB R0 rfl
    have q1 := below_to hB q0 q0.size rfl rfl rfl rfl
    by_cases hlt : k < L.length
    · have hki : (k : Int) < (L.length : Int) := by omega
      have hx : L[k]? = some (L[k]'hlt) := List.getElem?_eq_getElem hlt
      generalize L[k]'hlt = q at hx
      have HS := hide (HP.out k q hx)
      obtain ⟨l0, a0, a1, a2, a3, a4, a5, a6, a7, a8, a9, a10, a11, a12, a13, a14, a15⟩ := row_nd R1 hx
      obtain ⟨l1, ⟨b0, b1, b2, b3, b4, b5, b6, b7⟩, -⟩ := S1.all
      have heq := fun wx => eql_state q.s s wx
      have hB2 : Below w0.heap.size w0 (wr.alloc (.cells #[.int .i64 q.s.x, .int .i64 q.s.y, .int .i64 q.s.d.t, .int .i64 q.s.d.n, .int .i64 q.s.d.e, .int .i64 q.s.d.s, .int .i64 q.s.d.w, .int .i64 q.s.d.b, .int .i64 (q.far : Int), .int .i64 q.cnt, .int .i64 q.bf, .int .i64 q.dr, .int .i64 (q.nx 0), .int .i64 (q.nx 1), .int .i64 (q.nx 2), .int .i64 (q.nx 3)] 77)) := hB.alloc hB.size _
      have q2 : Below w.heap.size w (wr.alloc (.cells #[.int .i64 q.s.x, .int .i64 q.s.y, .int .i64 q.s.d.t, .int .i64 q.s.d.n, .int .i64 q.s.d.e, .int .i64 q.s.d.s, .int .i64 q.s.d.w, .int .i64 q.s.d.b, .int .i64 (q.far : Int), .int .i64 q.cnt, .int .i64 q.bf, .int .i64 q.dr, .int .i64 (q.nx 0), .int .i64 (q.nx 1), .int .i64 (q.nx 2), .int .i64 (q.nx 3)] 77)) := q1.alloc q1.size _
      clear hx S1 R1 q1 hB
      by_cases hqs : q.s = s
      · have hd : decide (q.s = s) = true := decide_eq_true hqs
        have HRES := hide (show res = (k : Int) from by rw [hrs.out, HS.out, if_pos hqs])
        rw [hd] at heq
        clear hqs hd
        go_wp2
        go_returns
        exact ⟨ret_int HRES.out.symm, q2⟩
      · have hd : decide (q.s = s) = false := decide_eq_false hqs
        have HRES := hide (show res = fndW (L.drop (k + 1)) s (k + 1) from by rw [hrs.out, HS.out, if_neg hqs])
        rw [hd] at heq
        clear hqs hd
        go_wp2
        go_roundw
        case rel => exact ⟨k + 1, by omega, by go_num, HRES.out, hB2⟩
        case measure => simp [intOf]; omega
    · obtain rfl : k = L.length := by omega
      have HRES := hide (show res = -1 from by rw [hrs.out, HE.out])
      go_wp2
      go_returns
      exact ⟨ret_int HRES.out.symm, q1⟩
end Go.Proofs.YthdkhikkdcjifaaDoor
