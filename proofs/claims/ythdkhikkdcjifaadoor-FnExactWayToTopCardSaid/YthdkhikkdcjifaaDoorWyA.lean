/- The contract of spec.wyAll. -/
import Derived.Test.YthdkhikkdcjifaaDoorWyN
import Derived.Deep.Cut
import Derived.Deep.CutRange
import Derived.Deep.RegionHeld3
namespace Go.Proofs.YthdkhikkdcjifaaDoor
set_option maxRecDepth 100000
set_option linter.all false
open Go.RowKit
attribute [local go_sem ↓] Go.wp_at_zero Go.wp_at_succ

theorem fl_near {l : List UInt8} (hb : isBd l = true) {W : Nat} (hW : width l = W) {s : St} (h : flAt l s = true) (hd : goodB s.d = true) : nearS W s := by
  have := grid_mem (fl_grid hb h)
  obtain ⟨_, _, b3, b4, _⟩ := bd_facts hb
  subst hW
  have h1 : 0 ≤ s.x ∧ s.x < (width l : Int) ∧ 0 ≤ s.y ∧ s.y < ((splitP l).length : Int) := this
  exact ⟨by omega, by omega, hd⟩
theorem all_near {l : List UInt8} (hb : isBd l = true) {W : Nat} (hW : width l = W) {s0 : St} (HF : FitOk (flAt l) s0) (n j : Nat) (hj : j ≤ 4) : ∀ q ∈ stepsW (flAt l) n (runW (flAt l) s0 n) j, nearS W q.s := by
  intro q hq
  have hok := (HF.oks n j hj q hq).1
  refine fl_near hb hW ?_ hok.2.2
  obtain ⟨k', j', hk⟩ := steps_ok (flAt l) s0 n j hj
  obtain ⟨i, hi⟩ := List.mem_iff_getElem?.1 hq
  by_cases e : i = 0
  · subst e
    rw [hk.head] at hi
    obtain rfl := Option.some.inj hi
    exact HF.home
  · exact hk.fits i q (by omega) hi
theorem map_core {L : List WN} {k : Nat} {x y : WN} (hx : L[k]? = some x) (h : coreW y = coreW x) : (L.set k y).map coreW = L.map coreW := by
  rw [List.map_set, h]
  exact set_same (by rw [List.getElem?_map, hx]; rfl)
theorem map_code {W : Nat} {L : List WN} {k : Nat} {x y : WN} (hx : L[k]? = some x) (h : y.s = x.s) : (L.set k y).map (fun z => codeS W z.s) = L.map (fun z => codeS W z.s) := by
  rw [List.map_set, h]
  exact set_same (by rw [List.getElem?_map, hx]; rfl)
theorem core_at {L : List WN} {M : List Nd} (h : L.map coreW = M.map coreN) {k : Nat} {x : WN} {p : Nd} (hx : L[k]? = some x) (hp : M[k]? = some p) : x.s = p.s ∧ x.far = p.far ∧ x.cnt = wrap64 (p.ws.length : Int) ∧ x.bf = p.bf ∧ x.dr = p.dr := by
  have h1 : (L.map coreW)[k]? = some (coreW x) := by rw [List.getElem?_map, hx]; rfl
  rw [h, List.getElem?_map, hp] at h1
  have := Option.some.inj h1
  simp only [coreN, coreW, Prod.mk.injEq] at this
  exact ⟨this.1.symm, this.2.1.symm, this.2.2.1.symm, this.2.2.2.1.symm, this.2.2.2.2.symm⟩
theorem core_len {L : List WN} {M : List Nd} (h : L.map coreW = M.map coreN) : L.length = M.length := by
  have := congrArg List.length h
  simpa using this
theorem core_codes {W : Nat} {L : List WN} {M : List Nd} (h : L.map coreW = M.map coreN) : L.map (fun z => codeS W z.s) = M.map (fun q => codeS W q.s) := by
  have e1 : L.map (fun z => codeS W z.s) = (L.map coreW).map (fun c => codeS W c.1) := by rw [List.map_map]; rfl
  rw [e1, h, List.map_map]
  rfl
theorem wy_cutA {w wr w2 : World} {g n cap W H : Nat} {fl : List UInt8} {s0 r : St} {v u : Value} {L : List WN} {Cs : List Int} (hI : WyI w g n cap W H fl s0 v u L Cs wr)
    (hb : Below (wr.alloc (.cells #[.int .i64 0, .int .i64 0, .int .i64 0, .int .i64 0, .int .i64 0, .int .i64 0, .int .i64 0, .int .i64 0] 30)).drew.heap.size (wr.alloc (.cells #[.int .i64 0, .int .i64 0, .int .i64 0, .int .i64 0, .int .i64 0, .int .i64 0, .int .i64 0, .int .i64 0] 30)).drew w2) (N : IsS w2 wr.heap.size ⟨0, 0, ⟨0, 0, 0, 0, 0, 0⟩⟩ 30) : IsS ((((((((w2.setCell ⟨wr.heap.size, 0, none⟩ (.int .i64 r.x)).setCell ⟨wr.heap.size, 1, none⟩ (.int .i64 r.y)).setCell ⟨wr.heap.size, 2, none⟩ (.int .i64 r.d.t)).setCell ⟨wr.heap.size, 3, none⟩ (.int .i64 r.d.n)).setCell ⟨wr.heap.size, 4, none⟩ (.int .i64 r.d.e)).setCell ⟨wr.heap.size, 5, none⟩ (.int .i64 r.d.s)).setCell ⟨wr.heap.size, 6, none⟩ (.int .i64 r.d.w)).setCell ⟨wr.heap.size, 7, none⟩ (.int .i64 r.d.b)) wr.heap.size r 30 ∧ WyI w g n cap W H fl s0 v u L Cs ((((((((w2.setCell ⟨wr.heap.size, 0, none⟩ (.int .i64 r.x)).setCell ⟨wr.heap.size, 1, none⟩ (.int .i64 r.y)).setCell ⟨wr.heap.size, 2, none⟩ (.int .i64 r.d.t)).setCell ⟨wr.heap.size, 3, none⟩ (.int .i64 r.d.n)).setCell ⟨wr.heap.size, 4, none⟩ (.int .i64 r.d.e)).setCell ⟨wr.heap.size, 5, none⟩ (.int .i64 r.d.s)).setCell ⟨wr.heap.size, 6, none⟩ (.int .i64 r.d.w)).setCell ⟨wr.heap.size, 7, none⟩ (.int .i64 r.d.b)) := by
  have hb8 : Below wr.heap.size wr ((((((((w2.setCell ⟨wr.heap.size, 0, none⟩ (.int .i64 r.x)).setCell ⟨wr.heap.size, 1, none⟩ (.int .i64 r.y)).setCell ⟨wr.heap.size, 2, none⟩ (.int .i64 r.d.t)).setCell ⟨wr.heap.size, 3, none⟩ (.int .i64 r.d.n)).setCell ⟨wr.heap.size, 4, none⟩ (.int .i64 r.d.e)).setCell ⟨wr.heap.size, 5, none⟩ (.int .i64 r.d.s)).setCell ⟨wr.heap.size, 6, none⟩ (.int .i64 r.d.w)).setCell ⟨wr.heap.size, 7, none⟩ (.int .i64 r.d.b)) := below_set8 (below_to hb ((Below.refl wr.heap.size wr).alloc (Nat.le_refl _) (.cells #[.int .i64 0, .int .i64 0, .int .i64 0, .int .i64 0, .int .i64 0, .int .i64 0, .int .i64 0, .int .i64 0] 30)) (by simp) rfl rfl rfl rfl) (Nat.le_refl _) r
  exact ⟨N.set8 r, hI.to hb8 rfl rfl rfl rfl⟩
theorem wy_cutB {w wr w2 : World} {g n cap W H : Nat} {fl : List UInt8} {s0 r : St} {v u : Value} {L : List WN} {Cs : List Int} (hI : WyI w g n cap W H fl s0 v u L Cs wr)
    (hb : Below wr.drew.heap.size wr.drew w2) : IsS (w2.alloc (.cells #[.int .i64 r.x, .int .i64 r.y, .int .i64 r.d.t, .int .i64 r.d.n, .int .i64 r.d.e, .int .i64 r.d.s, .int .i64 r.d.w, .int .i64 r.d.b] 30)) w2.heap.size r 30 ∧ WyI w g n cap W H fl s0 v u L Cs (w2.alloc (.cells #[.int .i64 r.x, .int .i64 r.y, .int .i64 r.d.t, .int .i64 r.d.n, .int .i64 r.d.e, .int .i64 r.d.s, .int .i64 r.d.w, .int .i64 r.d.b] 30)) :=
  ⟨IsS.new, (hI.to (w0 := wr.drew) hb rfl rfl rfl rfl).alloc _⟩
theorem WyI.drew {w wr : World} {g n cap W H : Nat} {fl : List UInt8} {s0 : St} {v u : Value} {L : List WN} {Cs : List Int} (h : WyI w g n cap W H fl s0 v u L Cs wr) : WyI w g n cap W H fl s0 v u L Cs wr.drew := ⟨h.row, h.cod, h.grd, h.st, h.byt, h.below.drew⟩

/-- What the model's search hands back. -/
def AllWy (fit : St → Bool) (s0 : St) (w : World) (e : Ending) (w' : World) : Prop := ∃ v L, e = .returned v ∧ L.map coreW = (wyL fit s0).map coreN ∧ w'.ownsRow (w.heap.size + 2) 77 16 v L.length (wnL L) ∧ Below w.heap.size w w'
theorem new_cell (w : World) (cs : Array Value) (T : TypeId) (m : Nat) (z : Value) (h : cs[m]? = some z) : (w.alloc (.cells cs T)).cell? ((⟨w.heap.size, 0, none⟩ : Addr).add m) = some z := by
  have h1 : (w.alloc (.cells cs T)).heap[w.heap.size]? = some (.cells cs T) := by
    show (w.heap.push _)[w.heap.size]? = _
    simp
  have h2 : ((⟨w.heap.size, 0, none⟩ : Addr).add m) = ⟨w.heap.size, m, none⟩ := by
    unfold Addr.add
    split <;> simp_all
  rw [h2]
  unfold World.cell?
  rw [show (⟨w.heap.size, m, none⟩ : Addr).block = w.heap.size from rfl, h1]
  simpa using h
theorem apart_blk {w : World} {b : Nat} {cs : Array Value} {T e : TypeId} {B z n : Nat} {v : Value} {xs : List Value} (h : w.heap[b]? = some (.cells cs T (0, 0))) (ho : w.ownsRow B e z v n xs) (hne : T ≠ e) : some b ≠ v.ownBlock := by
  intro e1
  rcases ho.2 with ⟨h0, _⟩ | ⟨g, cap, cur, hv, _, hh, _⟩
  · rw [h0] at e1; cases e1
  · rw [hv] at e1
    have e' : b = g := by simpa [Value.ownBlock] using e1
    subst e'
    rw [h] at hh
    injection hh with hh
    injection hh with _ hh
    exact hne hh
set_option maxHeartbeats 8000000 in
theorem wyAll_any (l : List UInt8) (W H n : Nat) (hG : GridOk l W H n) (g cap : Nat) (s0 : St) (hs : flAt l s0 = true) (hgd : goodB s0.d = true) (w : World) (hA : BytesAt w g (splitP l).flatten) :
    Calls Tryd.prog 45 #[gridV W H n g cap, St.v s0] w (AllWy (flAt l) s0 w) := by
  obtain ⟨i0, hi, hz0, hz1, hz2⟩ := info_parts info_node
  obtain ⟨i1, hj, hy0, hy1, hy2⟩ := info_parts info_intW
  have HI := hide hi
  have HZ0 := hide hz0
  have HZ1 := hide hz1
  have HZ2 := hide hz2
  have HJ := hide hj
  have HY0 := hide hy0
  have HY1 := hide hy1
  have HY2 := hide hy2
  clear hi hz0 hz1 hz2 hj hy0 hy1 hy2
  have HG := hide hG
  obtain ⟨hbd, hwl, hhl, hnl⟩ := hG
  have HW7 := hide (show W ≤ 7 from by have := (bd_facts hbd).2.1; omega)
  have HF := hide (fitOk_board hbd hs hgd)
  have HNE := hide (fun k j hj => all_near hbd hwl HF.out k j hj)
  have HFN := hide (fun (s : St) (h : flAt l s = true) (hd : goodB s.d = true) => fl_near hbd hwl h hd)
  have HBO := hide (fun (s : St) (k : Int) (wx : World) (hx : BytesAt wx g (splitP l).flatten) h1 h2 => boRoll_any l W H n HG.out g cap s k wx hx h1 h2)
  have HCO := hide (fun (s : St) (h : nearS W s) (wx : World) => wyCode_any W H n g cap HW7.out s (by have := h.2.1; omega) (by have := h.1; have := HW7.out; omega) h.2.2 wx)
  have HN0 := hide (HFN.out s0 hs hgd)
  have HA := hide hA
  clear hbd hwl hhl hnl hs hgd hA
  obtain ⟨fit, hfit⟩ : ∃ fit, fit = flAt l := ⟨_, rfl⟩
  rw [← hfit] at HF HNE HFN ⊢
  have HFIT := hide hfit
  clear hfit
  have G0 : IsG ((w.alloc (.cells #[.int .i64 (W : Int), .int .i64 (H : Int), .slice (some ⟨g, 0, none⟩) n cap] 59)).alloc (.cells #[.int .i64 s0.x, .int .i64 s0.y, .int .i64 s0.d.t, .int .i64 s0.d.n, .int .i64 s0.d.e, .int .i64 s0.d.s, .int .i64 s0.d.w, .int .i64 s0.d.b] 30)) w.heap.size (W : Int) (H : Int) (.slice (some ⟨g, 0, none⟩) n cap) := IsG.new.alloc _
  have S0 : IsS ((w.alloc (.cells #[.int .i64 (W : Int), .int .i64 (H : Int), .slice (some ⟨g, 0, none⟩) n cap] 59)).alloc (.cells #[.int .i64 s0.x, .int .i64 s0.y, .int .i64 s0.d.t, .int .i64 s0.d.n, .int .i64 s0.d.e, .int .i64 s0.d.s, .int .i64 s0.d.w, .int .i64 s0.d.b] 30)) (w.alloc (.cells #[.int .i64 (W : Int), .int .i64 (H : Int), .slice (some ⟨g, 0, none⟩) n cap] 59)).heap.size s0 30 := IsS.new
  simp only [World.size_alloc] at S0
  have A0 : BytesAt ((w.alloc (.cells #[.int .i64 (W : Int), .int .i64 (H : Int), .slice (some ⟨g, 0, none⟩) n cap] 59)).alloc (.cells #[.int .i64 s0.x, .int .i64 s0.y, .int .i64 s0.d.t, .int .i64 s0.d.n, .int .i64 s0.d.e, .int .i64 s0.d.s, .int .i64 s0.d.w, .int .i64 s0.d.b] 30)) g (splitP l).flatten := bytesAt_to (w0 := w) (by go_grown) HA.out rfl
  have q0 : Below w.heap.size w ((w.alloc (.cells #[.int .i64 (W : Int), .int .i64 (H : Int), .slice (some ⟨g, 0, none⟩) n cap] 59)).alloc (.cells #[.int .i64 s0.x, .int .i64 s0.y, .int .i64 s0.d.t, .int .i64 s0.d.n, .int .i64 s0.d.e, .int .i64 s0.d.s, .int .i64 s0.d.w, .int .i64 s0.d.b] 30)) := by go_grown
  have hz : ((w.alloc (.cells #[.int .i64 (W : Int), .int .i64 (H : Int), .slice (some ⟨g, 0, none⟩) n cap] 59)).alloc (.cells #[.int .i64 s0.x, .int .i64 s0.y, .int .i64 s0.d.t, .int .i64 s0.d.n, .int .i64 s0.d.e, .int .i64 s0.d.s, .int .i64 s0.d.w, .int .i64 s0.d.b] 30)).heap.size = w.heap.size + 2 := by simp
  go_enter Tryd.func45, Tryd.ntmps45
  go_upto_region 1 with (fail)
  generalize ((w.alloc (.cells #[.int .i64 (W : Int), .int .i64 (H : Int), .slice (some ⟨g, 0, none⟩) n cap] 59)).alloc (.cells #[.int .i64 s0.x, .int .i64 s0.y, .int .i64 s0.d.t, .int .i64 s0.d.n, .int .i64 s0.d.e, .int .i64 s0.d.s, .int .i64 s0.d.w, .int .i64 s0.d.b] 30)) = w0 at G0 S0 A0 q0 hz ⊢
  obtain ⟨l0, ⟨a0, a1, a2, a3, a4, a5, a6, a7⟩, -⟩ := S0.all
  obtain ⟨lg, ⟨b0, b1, b2⟩, -⟩ := G0.all
  go_upto_region 2 with (fail)
  have R1 : (w0.alloc (.cells #[.int .i64 s0.x, .int .i64 s0.y, .int .i64 s0.d.t, .int .i64 s0.d.n, .int .i64 s0.d.e, .int .i64 s0.d.s, .int .i64 s0.d.w, .int .i64 s0.d.b, .int .i64 0, .int .i64 1, .int .i64 (-1), .int .i64 0, .int .i64 0, .int .i64 0, .int .i64 0, .int .i64 0] 77)).ownsRow (w.heap.size + 2) 77 16 (.slice (some ⟨w0.heap.size, 0, none⟩) 1 1) 1 (wnL [⟨s0, 0, 1, -1, 0, fun _ => 0⟩]) := by
    have := World.ownsRow_lit (base := w.heap.size + 2) (e := 77) (size := 16) w0 #[.int .i64 s0.x, .int .i64 s0.y, .int .i64 s0.d.t, .int .i64 s0.d.n, .int .i64 s0.d.e, .int .i64 s0.d.s, .int .i64 s0.d.w, .int .i64 s0.d.b, .int .i64 0, .int .i64 1, .int .i64 (-1), .int .i64 0, .int .i64 0, .int .i64 0, .int .i64 0, .int .i64 0] 1 (by omega) (by decide) rfl
    simpa [wnL, wnC] using this
  rw [hz] at R1
  have G1 : IsG (w0.alloc (.cells #[.int .i64 s0.x, .int .i64 s0.y, .int .i64 s0.d.t, .int .i64 s0.d.n, .int .i64 s0.d.e, .int .i64 s0.d.s, .int .i64 s0.d.w, .int .i64 s0.d.b, .int .i64 0, .int .i64 1, .int .i64 (-1), .int .i64 0, .int .i64 0, .int .i64 0, .int .i64 0, .int .i64 0] 77)) w.heap.size (W : Int) (H : Int) (.slice (some ⟨g, 0, none⟩) n cap) := G0.alloc _
  have S1 : IsS (w0.alloc (.cells #[.int .i64 s0.x, .int .i64 s0.y, .int .i64 s0.d.t, .int .i64 s0.d.n, .int .i64 s0.d.e, .int .i64 s0.d.s, .int .i64 s0.d.w, .int .i64 s0.d.b, .int .i64 0, .int .i64 1, .int .i64 (-1), .int .i64 0, .int .i64 0, .int .i64 0, .int .i64 0, .int .i64 0] 77)) (w.heap.size + 1) s0 30 := S0.alloc _
  have A1 : BytesAt (w0.alloc (.cells #[.int .i64 s0.x, .int .i64 s0.y, .int .i64 s0.d.t, .int .i64 s0.d.n, .int .i64 s0.d.e, .int .i64 s0.d.s, .int .i64 s0.d.w, .int .i64 s0.d.b, .int .i64 0, .int .i64 1, .int .i64 (-1), .int .i64 0, .int .i64 0, .int .i64 0, .int .i64 0, .int .i64 0] 77)) g (splitP l).flatten := bytesAt_to ((Below.refl _ _).alloc (Nat.le_refl _) _) A0 rfl
  have q1 : Below w.heap.size w (w0.alloc (.cells #[.int .i64 s0.x, .int .i64 s0.y, .int .i64 s0.d.t, .int .i64 s0.d.n, .int .i64 s0.d.e, .int .i64 s0.d.s, .int .i64 s0.d.w, .int .i64 s0.d.b, .int .i64 0, .int .i64 1, .int .i64 (-1), .int .i64 0, .int .i64 0, .int .i64 0, .int .i64 0, .int .i64 0] 77)) := q0.alloc q0.size _
  clear G0 S0 A0 q0 a0 a1 a2 a3 a4 a5 a6 a7 l0 b0 b1 b2 lg
  generalize w0.alloc (.cells #[.int .i64 s0.x, .int .i64 s0.y, .int .i64 s0.d.t, .int .i64 s0.d.n, .int .i64 s0.d.e, .int .i64 s0.d.s, .int .i64 s0.d.w, .int .i64 s0.d.b, .int .i64 0, .int .i64 1, .int .i64 (-1), .int .i64 0, .int .i64 0, .int .i64 0, .int .i64 0, .int .i64 0] 77) = w1 at R1 G1 S1 A1 q1 ⊢
  clear hz
  obtain ⟨l0, ⟨a0, a1, a2, a3, a4, a5, a6, a7⟩, -⟩ := S1.all
  obtain ⟨lg, ⟨b0, b1, b2⟩, -⟩ := G1.all
  go_wp2_with (go_at_call 71; fail)
  refine (HCO.out s0 HN0.out _).mono ?_
  rintro e w2 ⟨rfl, hb2⟩
  have I2 : WyI w g n cap W H (splitP l).flatten s0 (.slice (some ⟨w.heap.size + 2, 0, none⟩) 1 1) (.slice (some ⟨w2.heap.size, 0, none⟩) 1 1) [⟨s0, 0, 1, -1, 0, fun _ => 0⟩] [codeS W s0] (w2.alloc (.cells #[.int .i64 (codeS W s0)] 3)) := by
    have hq := below_to hb2 q1 q1.size rfl rfl rfl rfl
    have hc : (w2.alloc (.cells #[.int .i64 (codeS W s0)] 3)).ownsRow (w.heap.size + 2) 3 1 (.slice (some ⟨w2.heap.size, 0, none⟩) 1 1) 1 (codesV [codeS W s0]) := by
      have hsz : w.heap.size + 2 ≤ w2.heap.size := by have h1 := hb2.size; have h2 := S1.lt; omega
      have := World.ownsRow_lit (base := w.heap.size + 2) (e := 3) (size := 1) w2 #[.int .i64 (codeS W s0)] 1 hsz (by decide) rfl
      simpa [codesV] using this
    exact ⟨(own_to hb2 R1 rfl).alloc _, hc, (isG_to hb2 G1 rfl).alloc _, (isS_to hb2 S1 rfl).alloc _, bytesAt_to (w0 := w2) ((Below.refl _ _).alloc (Nat.le_refl _) _) (bytesAt_to hb2 A1 rfl) rfl, hq.alloc hq.size _⟩
  clear hb2 R1 G1 S1 A1 q1 a0 a1 a2 a3 a4 a5 a6 a7 l0 b0 b1 b2 lg
  go_wp2_with fail
  generalize w2.alloc (.cells #[.int .i64 (codeS W s0)] 3) = w3 at I2 ⊢
  have HC0 := hide (show ([⟨s0, 0, 1, -1, 0, fun _ => 0⟩] : List WN).map coreW = (runW fit s0 0).map coreN from by
    show _ = (startW s0).map coreN
    have : wrap64 (1 : Int) = 1 := by unfold wrap64; omega
    simp [startW, coreW, coreN, Nd.far, Nd.hd, this])
  go_loopw [5, 6, 7] (fun v u ki wr => ∃ (k : Nat) (L : List WN) (Cs : List Int), ki = .int .i64 (k : Int) ∧ k ≤ L.length ∧ Hid (L.map coreW = (runW fit s0 k).map coreN) ∧ Hid (Cs = L.map (fun z => codeS W z.s)) ∧ WyI w g n cap W H (splitP l).flatten s0 v u L Cs wr) (fun _ _ ki _ => 1000 - (intOf ki).toNat)
  case atStart => exact ⟨0, _, _, rfl, by simp, HC0.out, rfl, I2⟩
  case round =>
    clear I2
    obtain ⟨k, L, Cs, rfl, hk, hC, hCs, hI⟩ := hrel
    have hlenM : (runW fit s0 k).length ≤ 900 := HF.out.len k 0 (by omega)
    have HOK := hide (runW_ok fit s0 k)
    have hpos : 0 < L.length := by
      have := core_len hC.out
      have := (List.getElem?_eq_some_iff.1 HOK.out.head).1
      omega
    obtain ⟨g1, c1, g2, c2, rfl, rfl⟩ := hI.forms hpos (by rw [hCs.out]; simpa using hpos)
    generalize hM : runW fit s0 k = M at hlenM hC HOK
    have HM := hide hM
    clear hM
    have hLM := hide (core_len hC.out)
    by_cases hlt : k < L.length
    · have hp : M[k]? = some (M[k]'(by have := hLM.out; omega)) := List.getElem?_eq_getElem _
      generalize M[k]'(by have := hLM.out; omega) = p at hp
      have HP := hide hp
      clear hp
      have hki : (k : Int) < (L.length : Int) := by omega
      go_wp2_with fail
      go_loopw [5, 6, 8] (fun v u di wi => ∃ (j : Nat) (L' : List WN) (Cs' : List Int), di = .int .i64 (j : Int) ∧ j ≤ 4 ∧ Hid (L'.map coreW = (stepsW fit k M j).map coreN) ∧ Hid (Cs' = L'.map (fun z => codeS W z.s)) ∧ WyI w g n cap W H (splitP l).flatten s0 v u L' Cs' wi) (fun _ _ di _ => 4 - (intOf di).toNat)
      case atStart => exact ⟨0, L, Cs, rfl, by omega, hC.out, hCs.out, hI⟩
      case round =>
        clear hI hki
        obtain ⟨j, N, Ns, rfl, hj, hD, hNs, hI⟩ := hrel
        have HSTP := hide ((HOK.out).steps HP.out j hj)
        have HSUC := hide (show ∀ h4 : j < 4, stepsW fit k M (j + 1) = stepW fit k (stepsW fit k M j) ⟨j, h4⟩ from fun h4 => by
          rw [stepsW.eq_2, dif_pos h4])
        have HNEN := hide (show ∀ q ∈ stepsW fit k M j, nearS W q.s from fun q hq => HNE.out k j hj q (by rw [HM.out]; exact hq))
        have HOKS := hide (show ∀ q ∈ stepsW fit k M j, okS q.s ∧ ∀ J, okS (rlS q.s J) from fun q hq => HF.out.oks k j hj q (by rw [HM.out]; exact hq))
        have hlenS : (stepsW fit k M j).length ≤ 900 := by
          have := HF.out.len k j hj
          rw [HM.out] at this
          exact this
        have hk900 : k ≤ 900 := by have := (List.getElem?_eq_some_iff.1 HSTP.out.2).1; omega
        by_cases hj4 : j < 4
        · generalize hS : stepsW fit k M j = S at hD HSTP HSUC HNEN HOKS hlenS
          have HS := hide hS
          clear hS
          have hNS := hide (core_len hD.out)
          have hkN : k < N.length := by have := (List.getElem?_eq_some_iff.1 HSTP.out.2).1; have := hNS.out; omega
          have hlenN : N.length ≤ 900 := by have := hNS.out; omega
          obtain ⟨g1, c1, g2, c2, rfl, rfl⟩ := hI.forms (by omega) (by rw [hNs.out]; simp; omega)
          have hx : N[k]? = some (N[k]'hkN) := List.getElem?_eq_getElem hkN
          generalize N[k]'hkN = x at hx
          have HX := hide hx
          have HCX := hide (core_at hD.out hx HSTP.out.2)
          obtain ⟨nc, nf⟩ := hI.nextc hx hj4
          obtain ⟨l0, l1, ⟨a0, a1, a2, a3, a4, a5, a6, a7, a8, a9, a10, a11⟩, b0, b1, b2⟩ := hI.lts hx
          have hki : (k : Int) < (N.length : Int) := by omega
          have hji : (j : Int) < 4 := by omega
          go_upto_region 10 with (fail)
          have J1 := hI.store HA.out.lt hx (i := 12 + j) (by omega) (wnC_next x j hj4 (-1)) rfl
          rw [← Nat.add_assoc] at J1
          have HC1 := hide (map_core (L := N) (y := ⟨x.s, x.far, x.cnt, x.bf, x.dr, upd x.nx j (-1)⟩) hx rfl)
          have HD1 := hide (map_code (W := W) (L := N) (y := ⟨x.s, x.far, x.cnt, x.bf, x.dr, upd x.nx j (-1)⟩) hx rfl)
          have hx1 : (N.set k ⟨x.s, x.far, x.cnt, x.bf, x.dr, upd x.nx j (-1)⟩)[k]? = some ⟨x.s, x.far, x.cnt, x.bf, x.dr, upd x.nx j (-1)⟩ := List.getElem?_set_self hkN
          have hl1 : (N.set k ⟨x.s, x.far, x.cnt, x.bf, x.dr, upd x.nx j (-1)⟩).length = N.length := List.length_set
          rw [← hl1] at J1 hki hkN hlenN hNS ⊢
          have hNt := hide (show Ns = (N.set k ⟨x.s, x.far, x.cnt, x.bf, x.dr, upd x.nx j (-1)⟩).map (fun z => codeS W z.s) from hNs.out.trans HD1.out.symm)
          clear hI nc nf l0 l1 a0 a1 a2 a3 a4 a5 a6 a7 a8 a9 a10 a11 b0 b1 b2 hl1
          generalize hN1 : N.set k ⟨x.s, x.far, x.cnt, x.bf, x.dr, upd x.nx j (-1)⟩ = N1 at J1 HC1 HD1 hNt hx1 hki hkN hlenN hNS ⊢
          generalize wr.setCell ⟨g1, k * 16 + 12 + j, none⟩ (.int .i64 (-1)) = wa at J1 ⊢
          generalize (WN.mk x.s x.far x.cnt x.bf x.dr (upd x.nx j (-1))) = x1 at hN1 hx1
          have HD2 := hide (show N1.map coreW = S.map coreN from HC1.out.trans hD.out)
          clear hN1 HC1 HD1 hD HCX HX hx hNs
          have HX1 := hide hx1
          have HCX := hide (core_at HD2.out hx1 HSTP.out.2)
          obtain ⟨hox, hoy, -⟩ := (HOKS.out p (List.mem_of_getElem? HSTP.out.2)).1
          rw [← HCX.out.1] at hox hoy
          have HBR := hide (fun (wx : World) (hxx : BytesAt wx g (splitP l).flatten) => HBO.out x1.s (j : Int) wx hxx hox hoy)
          have HFT := hide (show fit (rlS p.s ⟨j, hj4⟩) = canT l x1.s (j : Int) from by rw [HFIT.out, HCX.out.1]; rfl)
          have HRR := hide (show rolT l x1.s (j : Int) = if canT l x1.s (j : Int) = true then rlS p.s ⟨j, hj4⟩ else ⟨0, 0, ⟨0, 0, 0, 0, 0, 0⟩⟩ from by unfold rolT rlS; rw [HCX.out.1])
          generalize rolT l x1.s (j : Int) = r at HBR HRR
          generalize canT l x1.s (j : Int) = bo at HBR HRR HFT
          clear hox hoy
          have HA1 := hide (show BytesAt wa.drew g (splitP l).flatten from J1.byt)
          have HA2 := hide (show BytesAt (wa.alloc (.cells #[.int .i64 0, .int .i64 0, .int .i64 0, .int .i64 0, .int .i64 0, .int .i64 0, .int .i64 0, .int .i64 0] 30)).drew g (splitP l).flatten from (J1.alloc (.cells #[.int .i64 0, .int .i64 0, .int .i64 0, .int .i64 0, .int .i64 0, .int .i64 0, .int .i64 0, .int .i64 0] 30)).byt)
          obtain ⟨l0, l1, ⟨a0, a1, a2, a3, a4, a5, a6, a7, -, -, -, -⟩, b0, b1, b2⟩ := J1.lts hx1
          go_cut [9, 10] from 35 to 107 (fun pp qv wx => ∃ bb, pp = .pointer (some ⟨bb, 0, none⟩) ∧ qv = .bool bo ∧ IsS wx bb r 30 ∧ WyI w g n cap W H (splitP l).flatten s0 (.slice (some ⟨g1, 0, none⟩) N1.length c1) (.slice (some ⟨g2, 0, none⟩) Ns.length c2) N1 Ns wx)
          case first =>
            go_region_held3 (fun w' => w'.cell? ⟨w.heap.size, 0, none⟩ = some (.int .i64 (W : Int)) ∧ w'.cell? ⟨w.heap.size, 1, none⟩ = some (.int .i64 (H : Int)) ∧ w'.cell? ⟨w.heap.size, 2, none⟩ = some (.slice (some ⟨g, 0, none⟩) n cap) ∧ w'.cell? ⟨g1, k * 16, none⟩ = some (.int .i64 x1.s.x) ∧ w'.cell? ⟨g1, k * 16 + 1, none⟩ = some (.int .i64 x1.s.y) ∧ w'.cell? ⟨g1, k * 16 + 2, none⟩ = some (.int .i64 x1.s.d.t) ∧ w'.cell? ⟨g1, k * 16 + 3, none⟩ = some (.int .i64 x1.s.d.n) ∧ w'.cell? ⟨g1, k * 16 + 4, none⟩ = some (.int .i64 x1.s.d.e) ∧ w'.cell? ⟨g1, k * 16 + 5, none⟩ = some (.int .i64 x1.s.d.s) ∧ w'.cell? ⟨g1, k * 16 + 6, none⟩ = some (.int .i64 x1.s.d.w) ∧ w'.cell? ⟨g1, k * 16 + 7, none⟩ = some (.int .i64 x1.s.d.b)) (first | (refine ⟨?_, ?_, ?_, ?_, ?_, ?_, ?_, ?_, ?_, ?_, ?_⟩ <;> with_reducible assumption) | (refine ⟨?_, ?_, ?_, ?_, ?_, ?_, ?_, ?_, ?_, ?_, ?_⟩ <;> (rw [cell_set8 (by omega)]; with_reducible assumption)) | (refine ⟨?_, ?_, ?_, ?_, ?_, ?_, ?_, ?_, ?_, ?_, ?_⟩ <;> (refine (((Below.refl _ _).alloc (Nat.le_refl _) _).cell (by first | exact l0 | exact l1 | exact m0 | exact m1)).trans ?_; with_reducible assumption)) | (refine ⟨?_, ?_, ?_, ?_, ?_, ?_, ?_, ?_, ?_, ?_, ?_⟩ <;> assumption))
              (first
                | (go_at_call 72; (refine (HBR.out _ (by first | (with_reducible exact HA1.out) | (with_reducible exact HA2.out))).mono ?_); rintro e w2 ⟨rfl, hb2⟩; (first | (have hA : Below (wa.alloc (.cells #[.int .i64 0, .int .i64 0, .int .i64 0, .int .i64 0, .int .i64 0, .int .i64 0, .int .i64 0, .int .i64 0] 30)).drew.heap.size (wa.alloc (.cells #[.int .i64 0, .int .i64 0, .int .i64 0, .int .i64 0, .int .i64 0, .int .i64 0, .int .i64 0, .int .i64 0] 30)).drew w2 := (by with_reducible exact hb2); have NA := isS_to hA (IsS.new (w := wa) (s := ⟨0, 0, ⟨0, 0, 0, 0, 0, 0⟩⟩) (ty := 30)) rfl; obtain ⟨l9, ⟨e0, e1, e2, e3, e4, e5, e6, e7⟩, f0, f1, f2, f3, f4, f5, f6, f7⟩ := NA.all; obtain ⟨m0, m1, ⟨y0, y1, y2, y3, y4, y5, y6, y7, -, -, -, -⟩, z0, z1, z2⟩ := ((J1.alloc (.cells #[.int .i64 0, .int .i64 0, .int .i64 0, .int .i64 0, .int .i64 0, .int .i64 0, .int .i64 0, .int .i64 0] 30)).to (w0 := (wa.alloc (.cells #[.int .i64 0, .int .i64 0, .int .i64 0, .int .i64 0, .int .i64 0, .int .i64 0, .int .i64 0, .int .i64 0] 30)).drew) hA rfl rfl rfl rfl).lts hx1) | (have hB : Below wa.drew.heap.size wa.drew w2 := (by with_reducible exact hb2); obtain ⟨m0, m1, ⟨y0, y1, y2, y3, y4, y5, y6, y7, -, -, -, -⟩, z0, z1, z2⟩ := (J1.to (w0 := wa.drew) hB rfl rfl rfl rfl).lts hx1))))
            all_goals
              go_wp2_with fail
              go_meet
              refine ⟨_, rfl, rfl, ?_⟩
              first
                | (with_reducible exact (wy_cutA (r := r) J1 hA NA))
                | (with_reducible exact (wy_cutB (r := r) J1 hB))
          obtain ⟨bb, rfl, rfl, N2, I2⟩ := hcut
          have hNSl := hide (show N1.length = S.length from core_len HD2.out)
          cases bo
          · have HSAME := hide (show stepsW fit k M (j + 1) = S from by
              rw [HSUC.out hj4]
              exact stepW_off HSTP.out.2 HFT.out)
            clear l0 l1 a0 a1 a2 a3 a4 a5 a6 a7 b0 b1 b2
            go_wp2
            go_roundw
            case rel => exact ⟨j + 1, N1, Ns, by go_num, by omega, by rw [HSAME.out]; exact HD2.out, hNt.out, I2⟩
            case measure => simp [intOf]; omega
          · have hr : r = rlS p.s ⟨j, hj4⟩ := HRR.out
            have HR := hide hr
            have HFR := hide (show fit r = true from by rw [hr]; exact HFT.out)
            have hor := (HOKS.out p (List.mem_of_getElem? HSTP.out.2)).2 ⟨j, hj4⟩
            rw [← hr] at hor
            have HNR := hide (HFN.out r HFR.out hor.2.2)
            have HPL := hide (show plc Ns (codeS W r) 0 = match findI S r with
                | some i => ((0 + i : Nat) : Int)
                | none => -1 from by
              rw [hNt.out, core_codes HD2.out]
              exact plc_findI HW7.out HNR.out S 0 HNEN.out)
            clear l0 l1 a0 a1 a2 a3 a4 a5 a6 a7 b0 b1 b2 HRR hor hr HA1 HA2 HBR
            obtain ⟨l0, ⟨a0, a1, a2, a3, a4, a5, a6, a7⟩, -⟩ := N2.all
            obtain ⟨l1, ⟨b0, b1, b2⟩, -⟩ := I2.grd.all
            go_upto_region 13 with (first | (go_at_call 71; refine (HCO.out r HNR.out _).mono ?_; rintro e w5 ⟨rfl, hb5⟩; have N5 := isS_to hb5 N2 rfl; have I5 := I2.to hb5 rfl rfl rfl rfl; clear hb5 a0 a1 a2 a3 a4 a5 a6 a7 l0 b0 b1 b2 l1 N2 I2) | (go_at_call 73; refine (wyPlace_any g2 c2 Ns (codeS W r) (by rw [hNt.out]; simp; omega) _ I5.codes).mono ?_; rintro e w6 ⟨rfl, rfl⟩; rw [HPL.out]))
            have hx1k := HX1.out
            cases hfi : findI S r with
            | none =>
              dsimp only
              have HFI := hide hfi
              clear hfi
              have hm1 : ((-1 : Int) < 0) := by omega
              have hfx : x1.far ≤ 100000 := by
                have h1 := HSTP.out.1.far_ix k k p (Nat.le_refl _) HSTP.out.2
                have h2 := HCX.out.2.1
                omega
              have hw1 : IntKind.i64.wrap ((x1.far : Int) + 1) = (x1.far : Int) + 1 := IntWalk.i64_in _ (by omega)
              obtain ⟨l0, l1, ⟨a0, a1, a2, a3, a4, a5, a6, a7, a8, a9, a10, a11⟩, b0, b1, b2⟩ := I5.lts hx1k
              obtain ⟨l2, ⟨d0, d1, d2, d3, d4, d5, d6, d7⟩, -⟩ := N5.all
              have HN5 := hide N5
              have HI5 := hide I5
              have HNEW := hide (show wnC (WN.mk r (x1.far + 1) 0 (k : Int) (j : Int) (fun _ => 0)) = [.int .i64 r.x, .int .i64 r.y, .int .i64 r.d.t, .int .i64 r.d.n, .int .i64 r.d.e, .int .i64 r.d.s, .int .i64 r.d.w, .int .i64 r.d.b, .int .i64 ((x1.far : Int) + 1), .int .i64 0, .int .i64 (k : Int), .int .i64 (j : Int), .int .i64 0, .int .i64 0, .int .i64 0, .int .i64 0] from rfl)
              have HCELL := hide (show ∀ (m : Nat) (z : Value), ([.int .i64 r.x, .int .i64 r.y, .int .i64 r.d.t, .int .i64 r.d.n, .int .i64 r.d.e, .int .i64 r.d.s, .int .i64 r.d.w, .int .i64 r.d.b, .int .i64 ((x1.far : Int) + 1), .int .i64 0, .int .i64 (k : Int), .int .i64 (j : Int), .int .i64 0, .int .i64 0, .int .i64 0, .int .i64 0] : List Value)[m]? = some z → (w5.alloc (.cells #[.int .i64 r.x, .int .i64 r.y, .int .i64 r.d.t, .int .i64 r.d.n, .int .i64 r.d.e, .int .i64 r.d.s, .int .i64 r.d.w, .int .i64 r.d.b, .int .i64 ((x1.far : Int) + 1), .int .i64 0, .int .i64 (k : Int), .int .i64 (j : Int), .int .i64 0, .int .i64 0, .int .i64 0, .int .i64 0] 77)).cell? ((⟨w5.heap.size, 0, none⟩ : Addr).add m) = some z from fun m z hz => new_cell w5 #[.int .i64 r.x, .int .i64 r.y, .int .i64 r.d.t, .int .i64 r.d.n, .int .i64 r.d.e, .int .i64 r.d.s, .int .i64 r.d.w, .int .i64 r.d.b, .int .i64 ((x1.far : Int) + 1), .int .i64 0, .int .i64 (k : Int), .int .i64 (j : Int), .int .i64 0, .int .i64 0, .int .i64 0, .int .i64 0] 77 m z (by simpa using hz))
              have H1C := hide (show ∀ z ∈ ([.int .i64 r.x, .int .i64 r.y, .int .i64 r.d.t, .int .i64 r.d.n, .int .i64 r.d.e, .int .i64 r.d.s, .int .i64 r.d.w, .int .i64 r.d.b, .int .i64 ((x1.far : Int) + 1), .int .i64 0, .int .i64 (k : Int), .int .i64 (j : Int), .int .i64 0, .int .i64 0, .int .i64 0, .int .i64 0] : List Value), z.oneCell' = true from by
                intro z hz
                simp only [List.mem_cons, List.not_mem_nil, or_false] at hz
                rcases hz with rfl | rfl | rfl | rfl | rfl | rfl | rfl | rfl | rfl | rfl | rfl | rfl | rfl | rfl | rfl | rfl <;> rfl)
              have hz5 : w.heap.size + 2 ≤ w5.heap.size := by have := I5.st.lt; omega
              clear N5 I5
              go_upto_region 15 with (fail)
              go_region_law (refine step_append_ownR rfl (.tmp 57) (.tmp 68) 62 rfl (w.heap.size + 2) 77 i0 (.agg #[.int .i64 0, .int .i64 0, .int .i64 0, .int .i64 0, .int .i64 0, .int .i64 0, .int .i64 0, .int .i64 0, .int .i64 0, .int .i64 0, .int .i64 0, .int .i64 0, .int .i64 0, .int .i64 0, .int .i64 0, .int .i64 0]) 16 128 Tryd.underlying62 HI.out HZ0.out HZ1.out HZ2.out rfl (by decide) _ _ _ (by simp [Act.eval]) (own_drewR (HI5.out.row.alloc _)) ⟨w5.heap.size, 0, none⟩ 1 1 [.int .i64 r.x, .int .i64 r.y, .int .i64 r.d.t, .int .i64 r.d.n, .int .i64 r.d.e, .int .i64 r.d.s, .int .i64 r.d.w, .int .i64 r.d.b, .int .i64 ((x1.far : Int) + 1), .int .i64 0, .int .i64 (k : Int), .int .i64 (j : Int), .int .i64 0, .int .i64 0, .int .i64 0, .int .i64 0] (by simp [Act.eval]) rfl HCELL.out H1C.out (by unfold maxLen; omega) (by omega) (by simp; omega) ?_; intro v' w7 hown7 hg7)
              all_goals
                obtain ⟨g3, c3, rfl, -, -⟩ := own_form hown7 (by omega)
                have I7 : WyI w g n cap W H (splitP l).flatten s0 (.slice (some ⟨g3, 0, none⟩) (N1.length + 1) c3) (.slice (some ⟨g2, 0, none⟩) Ns.length c2) (N1 ++ [(WN.mk r (x1.far + 1) 0 (k : Int) (j : Int) (fun _ => 0))]) Ns w7 := (HI5.out.drew.alloc (.cells #[.int .i64 r.x, .int .i64 r.y, .int .i64 r.d.t, .int .i64 r.d.n, .int .i64 r.d.e, .int .i64 r.d.s, .int .i64 r.d.w, .int .i64 r.d.b, .int .i64 ((x1.far : Int) + 1), .int .i64 0, .int .i64 (k : Int), .int .i64 (j : Int), .int .i64 0, .int .i64 0, .int .i64 0, .int .i64 0] 77)).push0 HA.out.lt (by rw [wnL_snoc, HNEW.out, List.length_append]; exact hown7) hg7
                have N7 : IsS w7 bb r 30 := (HN5.out.drew.alloc (.cells #[.int .i64 r.x, .int .i64 r.y, .int .i64 r.d.t, .int .i64 r.d.n, .int .i64 r.d.e, .int .i64 r.d.s, .int .i64 r.d.w, .int .i64 r.d.b, .int .i64 ((x1.far : Int) + 1), .int .i64 0, .int .i64 (k : Int), .int .i64 (j : Int), .int .i64 0, .int .i64 0, .int .i64 0, .int .i64 0] 77)).kept hg7 (apart_blk HN5.out HI5.out.row (by decide))
                clear hown7 hg7 l0 l1 a0 a1 a2 a3 a4 a5 a6 a7 a8 a9 a10 a11 b0 b1 b2 l2 d0 d1 d2 d3 d4 d5 d6 d7
                have hNsl := hide (show Ns.length ≤ 900 from by rw [hNt.out]; simp; omega)
                obtain ⟨l0, ⟨a0, a1, a2, a3, a4, a5, a6, a7⟩, -⟩ := N7.all
                obtain ⟨l1, ⟨b0, b1, b2⟩, -⟩ := I7.grd.all
                have hbase : w.heap.size + 2 ≤ w7.heap.size := by have := I7.st.lt; omega
                go_upto_region 17 with (first | (go_at_call 71; refine (HCO.out r HNR.out _).mono ?_; rintro e w8 ⟨rfl, hb8⟩; have I8 := I7.to hb8 rfl rfl rfl rfl; have hb8s : w.heap.size + 2 ≤ w8.heap.size := Nat.le_trans hbase hb8.size; clear hb8 a0 a1 a2 a3 a4 a5 a6 a7 l0 b0 b1 b2 l1 N7 I7) | (at_builtin; refine wpList_append_own_at _ rfl _ _ 48 rfl (w.heap.size + 2) 3 i1 (.int .i64 0) 1 8 Tryd.underlying48 HJ.out HY0.out HY1.out HY2.out rfl (by decide) _ _ _ rfl (I8.cod.alloc _) ⟨w8.heap.size, 0, none⟩ 1 1 [.int .i64 (codeS W r)] rfl rfl (cell_one_newR w8 _ _) (fun z hz => by simp at hz; subst hz; rfl) (by have := hNsl.out; unfold maxLen; omega) (by have := hNsl.out; omega) (by simp; omega) ?_; intro v9 w9 hown9 hg9 _ _; obtain ⟨g4, c4, rfl, -, -⟩ := own_form hown9 (by omega)))
                have I9 : WyI w g n cap W H (splitP l).flatten s0 (.slice (some ⟨g3, 0, none⟩) (N1.length + 1) c3) (.slice (some ⟨g4, 0, none⟩) (Ns.length + 1) c4) (N1 ++ [(WN.mk r (x1.far + 1) 0 (k : Int) (j : Int) (fun _ => 0))]) (Ns ++ [codeS W r]) w9 := (I8.alloc (.cells #[.int .i64 (codeS W r)] 3)).push1 HA.out.lt (by rw [List.length_append]; unfold codesV; rw [List.map_append]; exact hown9) hg9
                clear I8 hown9 hg9
                have hNt3 := hide (show Ns ++ [codeS W r] = (N1 ++ [(WN.mk r (x1.far + 1) 0 (k : Int) (j : Int) (fun _ => 0))]).map (fun z => codeS W z.s) from by rw [List.map_append, ← hNt.out]; rfl)
                have hx3 : (N1 ++ [(WN.mk r (x1.far + 1) 0 (k : Int) (j : Int) (fun _ => 0))])[k]? = some x1 := get_left hx1k
                have hy : (N1 ++ [(WN.mk r (x1.far + 1) 0 (k : Int) (j : Int) (fun _ => 0))])[N1.length]? = some (WN.mk r (x1.far + 1) 0 (k : Int) (j : Int) (fun _ => 0)) := by rw [List.getElem?_append_right (Nat.le_refl _)]; simp
                have hl3 : N1.length + 1 = (N1 ++ [(WN.mk r (x1.far + 1) 0 (k : Int) (j : Int) (fun _ => 0))]).length := by simp
                have hl4 : Ns.length + 1 = (Ns ++ [codeS W r]).length := by simp
                have hii : ((N1.length : Nat) : Int) < (((N1 ++ [(WN.mk r (x1.far + 1) 0 (k : Int) (j : Int) (fun _ => 0))]).length : Nat) : Int) := by rw [← hl3]; omega
                have hki3 : (k : Int) < (((N1 ++ [(WN.mk r (x1.far + 1) 0 (k : Int) (j : Int) (fun _ => 0))]).length : Nat) : Int) := by rw [← hl3]; omega
                have hkN3 : k < (N1 ++ [(WN.mk r (x1.far + 1) 0 (k : Int) (j : Int) (fun _ => 0))]).length := by rw [← hl3]; omega
                rw [hl3, hl4] at I9 ⊢
                clear hki hkN hl3 hl4
                obtain ⟨N3, hN3⟩ : ∃ N3, N3 = N1 ++ [(WN.mk r (x1.far + 1) 0 (k : Int) (j : Int) (fun _ => 0))] := ⟨_, rfl⟩
                rw [← hN3] at I9 hNt3 hx3 hy hii hki3 hkN3 ⊢
                have HN3 := hide hN3
                clear hN3
                obtain ⟨y, hye⟩ : ∃ y : WN, y = (WN.mk r (x1.far + 1) 0 (k : Int) (j : Int) (fun _ => 0)) := ⟨_, rfl⟩
                rw [← hye] at hy
                have hfar : y.far = x1.far + 1 := by rw [hye]
                have HYE := hide hye
                clear hye
                have hki := hki3
                have hkN := hkN3
                clear hki3 hkN3
                obtain ⟨i, hil⟩ : ∃ i, i = N1.length := ⟨_, rfl⟩
                rw [← hil] at hy hii ⊢
                have HIL := hide hil.symm
                clear hil
                obtain ⟨l0, l1, ⟨-, -, -, -, -, -, -, -, a8, a9, -, -⟩, -⟩ := I9.lts hx3
                obtain ⟨-, -, ⟨-, -, -, -, -, -, -, -, y8, y9, -, -⟩, -⟩ := I9.lts hy
                have e0 : ((y.far : Int) == (x1.far : Int) + 1) = true := by rw [hfar]; simp
                go_wp2_with fail
                go_region
                have I6 := I9.drew
                generalize w9.drew = w6 at I6 ⊢
                clear I9 l0 l1 a8 a9 y8 y9
                obtain ⟨l0, l1, ⟨-, -, -, -, -, -, -, -, -, a9, -, -⟩, -⟩ := I6.lts hx3
                obtain ⟨-, -, ⟨-, -, -, -, -, -, -, -, -, y9, -, -⟩, -⟩ := I6.lts hy
                have hf9 := own_free I6.row (i * 16 + 9)
                have J6 := I6.store HA.out.lt hy (i := 9) (by omega) (wnC_cnt y (wrap64 (y.cnt + x1.cnt))) rfl
                go_upto_region 18 with (fail)
                go_region
                have J7 := J6.drew
                go_upto_region 19 with (fail)
                have hik : i ≠ k := fun e => by
                  subst e
                  rw [hx3] at hy
                  obtain rfl := Option.some.inj hy
                  omega
                have hxk2 : (N3.set i ⟨y.s, y.far, wrap64 (y.cnt + x1.cnt), y.bf, y.dr, y.nx⟩)[k]? = some x1 := by rw [List.getElem?_set_ne hik]; exact hx3
                have hl2 : (N3.set i ⟨y.s, y.far, wrap64 (y.cnt + x1.cnt), y.bf, y.dr, y.nx⟩).length = N3.length := List.length_set
                have HCO2 := hide (show (N3.set i ⟨y.s, y.far, wrap64 (y.cnt + x1.cnt), y.bf, y.dr, y.nx⟩).map coreW = (stepsW fit k M (j + 1)).map coreN from by
                  rw [HSUC.out hj4, stepW_new HSTP.out.2 (by rw [← HR.out]; exact HFR.out) (by rw [← HR.out]; exact HFI.out), List.map_append, ← HD2.out, HN3.out, HYE.out]
                  have hi3 : i = N1.length := HIL.out.symm
                  have e3 : (N1 ++ [(WN.mk r (x1.far + 1) 0 (k : Int) (j : Int) (fun _ => 0))]).set i (WN.mk r (x1.far + 1) (wrap64 (0 + x1.cnt)) (k : Int) (j : Int) (fun _ => 0)) = N1 ++ [(WN.mk r (x1.far + 1) (wrap64 (0 + x1.cnt)) (k : Int) (j : Int) (fun _ => 0))] := by
                    rw [List.set_append_right _ _ (by omega), hi3]
                    simp
                  rw [e3, List.map_append]
                  congr 1
                  have hnf : (Nd.mk (rlS p.s ⟨j, hj4⟩) (extW p ⟨j, hj4⟩) (k : Int) (j : Int)).far = p.far + 1 := by
                    unfold Nd.far
                    rw [extW_hd (HSTP.out.1.ne p (List.mem_of_getElem? HSTP.out.2))]
                    simp
                  have c6' := HCX.out.2.2.1
                  have hww : wrap64 (0 + wrap64 (p.ws.length : Int)) = wrap64 (p.ws.length : Int) := by
                    have := wrap_add 0 (p.ws.length : Int)
                    rw [show wrap64 (0 : Int) = 0 from by unfold wrap64; omega] at this
                    rw [this, Int.zero_add]
                  simp only [List.map_cons, List.map_nil, coreW, coreN, hnf, HCX.out.2.1, c6', hww, HR.out]
                  simp [extW])
                have HCD2 := hide (show (Ns ++ [codeS W r]) = (N3.set i ⟨y.s, y.far, wrap64 (y.cnt + x1.cnt), y.bf, y.dr, y.nx⟩).map (fun z => codeS W z.s) from hNt3.out.trans (map_code (W := W) (y := ⟨y.s, y.far, wrap64 (y.cnt + x1.cnt), y.bf, y.dr, y.nx⟩) hy rfl).symm)
                rw [← hl2] at J7 hki hkN ⊢
                generalize N3.set i ⟨y.s, y.far, wrap64 (y.cnt + x1.cnt), y.bf, y.dr, y.nx⟩ = N2' at J7 hxk2 HCO2 HCD2 hki hkN ⊢
                generalize (w6.setCell ⟨g1, i * 16 + 9, none⟩ (.int .i64 (wrap64 (y.cnt + x1.cnt)))).drew = w7 at J7 ⊢
                clear hl2 J6 I6 a9 y9 hf9 l0 l1
                obtain ⟨nc, nf⟩ := J7.nextc hxk2 hj4
                have J8 := J7.store HA.out.lt hxk2 (i := 12 + j) (by omega) (wnC_next x1 j hj4 (i : Int)) rfl
                rw [← Nat.add_assoc] at J8
                have HC8 := hide ((map_core (L := N2') (y := ⟨x1.s, x1.far, x1.cnt, x1.bf, x1.dr, upd x1.nx j (i : Int)⟩) hxk2 rfl).trans HCO2.out)
                have HD8 := hide (HCD2.out.trans (map_code (W := W) (L := N2') (y := ⟨x1.s, x1.far, x1.cnt, x1.bf, x1.dr, upd x1.nx j (i : Int)⟩) hxk2 rfl).symm)
                have hl8 : (N2'.set k ⟨x1.s, x1.far, x1.cnt, x1.bf, x1.dr, upd x1.nx j (i : Int)⟩).length = N2'.length := List.length_set
                rw [← hl8] at J8 hki ⊢
                go_wp2
                go_roundw
                case rel => exact ⟨j + 1, _, Ns ++ [codeS W r], by go_num, by omega, HC8.out, HD8.out, J8⟩
                case measure => simp [intOf]; omega
            | some i =>
              have HFI := hide hfi
              clear hfi
              obtain ⟨q, hq, hqs⟩ := findI_some HFI.out
              have hil : i < S.length := (List.getElem?_eq_some_iff.1 hq).1
              have hilN : i < N1.length := by have := hNSl.out; omega
              have hy : N1[i]? = some (N1[i]'hilN) := List.getElem?_eq_getElem hilN
              generalize N1[i]'hilN = y at hy
              have HCY := hide (core_at HD2.out hy hq)
              have HQ := hide hq
              clear hq hqs
              have hz0 : ¬ ((i : Int) < 0) := by omega
              have hni : (0 + i : Nat) = i := by omega
              simp only [hni]
              have hii : (i : Int) < (N1.length : Int) := by omega
              obtain ⟨l0, l1, ⟨a0, a1, a2, a3, a4, a5, a6, a7, a8, a9, a10, a11⟩, b0, b1, b2⟩ := I5.lts hx1k
              obtain ⟨-, -, ⟨y0, y1, y2, y3, y4, y5, y6, y7, y8, y9, y10, y11⟩, -⟩ := I5.lts hy
              have hfx : x1.far ≤ 100000 := by
                have h1 := HSTP.out.1.far_ix k k p (Nat.le_refl _) HSTP.out.2
                have h2 := HCX.out.2.1
                omega
              have hw1 : IntKind.i64.wrap ((x1.far : Int) + 1) = (x1.far : Int) + 1 := IntWalk.i64_in _ (by omega)
              by_cases hfar : y.far = x1.far + 1
              · have e0 : ((y.far : Int) == (x1.far : Int) + 1) = true := by rw [hfar]; simp
                go_wp2_with fail
                go_region
                have I6 := I5.drew
                generalize w5.drew = w6 at I6 ⊢
                clear I5 N5 l0 l1 a0 a1 a2 a3 a4 a5 a6 a7 a8 a9 a10 a11 b0 b1 b2 y0 y1 y2 y3 y4 y5 y6 y7 y8 y9 y10 y11
                obtain ⟨l0, l1, ⟨-, -, -, -, -, -, -, -, -, a9, -, -⟩, -⟩ := I6.lts hx1k
                obtain ⟨-, -, ⟨-, -, -, -, -, -, -, -, -, y9, -, -⟩, -⟩ := I6.lts hy
                have hf9 := own_free I6.row (i * 16 + 9)
                have J6 := I6.store HA.out.lt hy (i := 9) (by omega) (wnC_cnt y (wrap64 (y.cnt + x1.cnt))) rfl
                go_upto_region 18 with (fail)
                go_region
                have J7 := J6.drew
                go_upto_region 19 with (fail)
                have hik : i ≠ k := fun e => by
                  subst e
                  rw [hx1k] at hy
                  obtain rfl := Option.some.inj hy
                  omega
                have hxk2 : (N1.set i ⟨y.s, y.far, wrap64 (y.cnt + x1.cnt), y.bf, y.dr, y.nx⟩)[k]? = some x1 := by rw [List.getElem?_set_ne hik]; exact hx1k
                have hl2 : (N1.set i ⟨y.s, y.far, wrap64 (y.cnt + x1.cnt), y.bf, y.dr, y.nx⟩).length = N1.length := List.length_set
                have HCO2 := hide (show (N1.set i ⟨y.s, y.far, wrap64 (y.cnt + x1.cnt), y.bf, y.dr, y.nx⟩).map coreW = (stepsW fit k M (j + 1)).map coreN from by
                  rw [HSUC.out hj4, stepW_add HSTP.out.2 (by rw [← HR.out]; exact HFR.out) (by rw [← HR.out]; exact HFI.out) HQ.out (by have h1 := HCY.out.2.1; have h2 := HCX.out.2.1; omega), List.map_set, List.map_set, HD2.out]
                  congr 1
                  have hqhd : (Nd.mk q.s (q.ws ++ extW p ⟨j, hj4⟩) q.bf q.dr).far = q.far := by
                    have := HSTP.out.1.ne q (List.mem_of_getElem? HQ.out)
                    unfold Nd.far Nd.hd
                    cases hw : q.ws with
                    | nil => exact absurd hw this
                    | cons a l => simp
                  unfold coreW coreN
                  rw [hqhd]
                  obtain ⟨c1', c2', c3', c4', c5'⟩ := HCY.out
                  have c6' := HCX.out.2.2.1
                  simp only [c1', c2', c3', c4', c5', c6', wrap_add]
                  simp [extW])
                have HCD2 := hide (show Ns = (N1.set i ⟨y.s, y.far, wrap64 (y.cnt + x1.cnt), y.bf, y.dr, y.nx⟩).map (fun z => codeS W z.s) from hNt.out.trans (map_code (W := W) (y := ⟨y.s, y.far, wrap64 (y.cnt + x1.cnt), y.bf, y.dr, y.nx⟩) hy rfl).symm)
                rw [← hl2] at J7 hki hkN ⊢
                generalize N1.set i ⟨y.s, y.far, wrap64 (y.cnt + x1.cnt), y.bf, y.dr, y.nx⟩ = N2' at J7 hxk2 HCO2 HCD2 hki hkN ⊢
                generalize (w6.setCell ⟨g1, i * 16 + 9, none⟩ (.int .i64 (wrap64 (y.cnt + x1.cnt)))).drew = w7 at J7 ⊢
                clear hl2 J6 I6 a9 y9 hf9 l0 l1
                obtain ⟨nc, nf⟩ := J7.nextc hxk2 hj4
                have J8 := J7.store HA.out.lt hxk2 (i := 12 + j) (by omega) (wnC_next x1 j hj4 (i : Int)) rfl
                rw [← Nat.add_assoc] at J8
                have HC8 := hide ((map_core (L := N2') (y := ⟨x1.s, x1.far, x1.cnt, x1.bf, x1.dr, upd x1.nx j (i : Int)⟩) hxk2 rfl).trans HCO2.out)
                have HD8 := hide (HCD2.out.trans (map_code (W := W) (L := N2') (y := ⟨x1.s, x1.far, x1.cnt, x1.bf, x1.dr, upd x1.nx j (i : Int)⟩) hxk2 rfl).symm)
                have hl8 : (N2'.set k ⟨x1.s, x1.far, x1.cnt, x1.bf, x1.dr, upd x1.nx j (i : Int)⟩).length = N2'.length := List.length_set
                rw [← hl8] at J8 hki ⊢
                go_wp2
                go_roundw
                case rel => exact ⟨j + 1, _, Ns, by go_num, by omega, HC8.out, HD8.out, J8⟩
                case measure => simp [intOf]; omega
              · have e0 : ((y.far : Int) == (x1.far : Int) + 1) = false := by simp; omega
                have HCO2 := hide (show N1.map coreW = (stepsW fit k M (j + 1)).map coreN from by
                  rw [HSUC.out hj4, stepW_old HSTP.out.2 (by rw [← HR.out]; exact HFR.out) (by rw [← HR.out]; exact HFI.out) HQ.out (by have h1 := HCY.out.2.1; have h2 := HCX.out.2.1; omega)]
                  exact HD2.out)
                go_wp2_with fail
                go_region
                have J7 := I5.drew
                generalize w5.drew = w7 at J7 ⊢
                clear I5 N5 l0 l1 a0 a1 a2 a3 a4 a5 a6 a7 a8 a9 a10 a11 b0 b1 b2 y0 y1 y2 y3 y4 y5 y6 y7 y8 y9 y10 y11
                obtain ⟨nc, nf⟩ := J7.nextc hx1k hj4
                have J8 := J7.store HA.out.lt hx1k (i := 12 + j) (by omega) (wnC_next x1 j hj4 (i : Int)) rfl
                rw [← Nat.add_assoc] at J8
                have HC8 := hide ((map_core (L := N1) (y := ⟨x1.s, x1.far, x1.cnt, x1.bf, x1.dr, upd x1.nx j (i : Int)⟩) hx1k rfl).trans HCO2.out)
                have HD8 := hide (hNt.out.trans (map_code (W := W) (L := N1) (y := ⟨x1.s, x1.far, x1.cnt, x1.bf, x1.dr, upd x1.nx j (i : Int)⟩) hx1k rfl).symm)
                have hl8 : (N1.set k ⟨x1.s, x1.far, x1.cnt, x1.bf, x1.dr, upd x1.nx j (i : Int)⟩).length = N1.length := List.length_set
                rw [← hl8] at J8 hki ⊢
                go_wp2
                go_roundw
                case rel => exact ⟨j + 1, _, Ns, by go_num, by omega, HC8.out, HD8.out, J8⟩
                case measure => simp [intOf]; omega
        · obtain rfl : j = 4 := by omega
          have HNX := hide (show runW fit s0 (k + 1) = stepsW fit k M 4 by show stepsW fit k (runW fit s0 k) 4 = _; rw [HM.out])
          have hkn : k + 1 ≤ N.length := by have := (List.getElem?_eq_some_iff.1 HSTP.out.2).1; have := core_len hD.out; omega
          go_wp2
          go_roundw
          case rel => exact ⟨k + 1, N, Ns, by go_num, hkn, by rw [HNX.out]; exact hD.out, hNs.out, hI⟩
          case measure => simp [intOf]; omega
    · have hki : ¬ ((k : Int) < (L.length : Int)) := by omega
      have hfin : wyL fit s0 = M := by
        rw [wyL_at (n := k) (by rw [HM.out]; have := hLM.out; omega) (by have := hLM.out; omega), HM.out]
      have HFIN := hide hfin
      clear hfin
      go_wp2
      go_returns
      refine ⟨.slice (some ⟨g1, 0, none⟩) L.length c1, L, rfl, ?_, hI.row, hI.below⟩
      rw [HFIN.out]
      exact hC.out
end Go.Proofs.YthdkhikkdcjifaaDoor
