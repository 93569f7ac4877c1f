/- The search's maps: the entries that the found states make, and what a roll does to them. The closure of onFloor (as in MovesF, for seats without movesOf); what the search over a board's floor keeps to. -/
import Derived.Test.YthdkhikkdcjifaaDoorBst
import Derived.Test.YthdkhikkdcjifaaDoorAsk
import Derived.Test.YthdkhikkdcjifaaDoorWays
namespace Go.Proofs.YthdkhikkdcjifaaDoor
set_option maxRecDepth 100000
set_option linter.all false
open Go.RowKit Go.Maps Go.ChangeMaps

def rtOf (q : Nd) : Rt := ⟨wdB q.hd, 0, wrap64 (q.ws.length : Int)⟩
def seOf (q : Nd) (i : Nat) : SE := ((q.s, rtOf q), i)
def seL (M : List Nd) : List SE := M.zipIdx.map (fun x => seOf x.1 x.2)
theorem seL_get (M : List Nd) (i : Nat) : (seL M)[i]? = (M[i]?).map (fun q => seOf q i) := by
  unfold seL
  rw [List.getElem?_map, List.getElem?_zipIdx]
  cases M[i]? <;> simp
theorem seL_len (M : List Nd) : (seL M).length = M.length := by simp [seL]
theorem seL_snoc (M : List Nd) (q : Nd) : seL (M ++ [q]) = seL M ++ [seOf q M.length] := by simp [seL, List.zipIdx_append]
theorem seL_set (M : List Nd) (i : Nat) (q : Nd) : seL (M.set i q) = (seL M).set i (seOf q i) := by
  apply List.ext_getElem?
  intro k
  rw [seL_get, List.getElem?_set, List.getElem?_set, seL_len, seL_get]
  by_cases e : i = k
  · subst e
    by_cases h : i < M.length <;> simp [h]
  · simp [e]
theorem seL_take (M : List Nd) (k : Nat) : (seL M).take k = seL (M.take k) := by
  apply List.ext_getElem?
  intro i
  rw [List.getElem?_take, seL_get, seL_get, List.getElem?_take]
  split <;> rfl
theorem seL_mem {M : List Nd} {x : SE} (h : x ∈ seL M) : ∃ (i : Nat) (q : Nd), M[i]? = some q ∧ x = seOf q i := by
  obtain ⟨i, hi⟩ := List.mem_iff_getElem?.1 h
  rw [seL_get] at hi
  obtain ⟨q, hq, e⟩ := Option.map_eq_some_iff.1 hi
  exact ⟨i, q, hq, e.symm⟩
theorem seL_ok {M : List Nd} (hn : (M.map (·.s)).Nodup) (hs : ∀ q ∈ M, okS q.s) : OkL (seL M) M.length := by
  have e1 : (seL M).map (·.1.1) = M.map (·.s) := by
    apply List.ext_getElem?
    intro i
    rw [List.getElem?_map, seL_get, List.getElem?_map]
    cases M[i]? <;> rfl
  have e2 : (seL M).map (·.2) = List.range M.length := by
    apply List.ext_getElem?
    intro i
    rw [List.getElem?_map, seL_get]
    by_cases h : i < M.length
    · rw [List.getElem?_eq_getElem h, List.getElem?_range h]; rfl
    · rw [List.getElem?_eq_none (by omega), List.getElem?_eq_none (by simp; omega)]; rfl
  refine ⟨by rw [e1]; exact hn, by rw [e2]; exact List.nodup_range, ?_, ?_⟩
  · intro x hx
    obtain ⟨i, q, hq, rfl⟩ := seL_mem hx
    exact (List.getElem?_eq_some_iff.1 hq).1
  · intro x hx
    obtain ⟨i, q, hq, rfl⟩ := seL_mem hx
    exact hs q (List.mem_of_getElem? hq)
theorem seL_ok_take {M : List Nd} (hn : (M.map (·.s)).Nodup) (hs : ∀ q ∈ M, okS q.s) {k : Nat} (hk : k ≤ M.length) : OkL ((seL M).take k) k := by
  rw [seL_take]
  have h := seL_ok (M := M.take k) (by rw [List.map_take]; exact hn.sublist (List.take_sublist _ _)) (fun q hq => hs q ((List.take_sublist _ _).subset hq))
  rw [List.length_take, Nat.min_eq_left hk] at h
  exact h
theorem seL_ok_drop {M : List Nd} (hn : (M.map (·.s)).Nodup) (hs : ∀ q ∈ M, okS q.s) (k : Nat) : OkL ((seL M).drop k) M.length := (seL_ok hn hs).sub (List.drop_sublist _ _)
theorem seL_drop_get (M : List Nd) (k i : Nat) : ((seL M).drop k)[i]? = (M[k + i]?).map (fun q => seOf q (k + i)) := by rw [List.getElem?_drop, seL_get]
theorem wrap_add (a b : Int) : wrap64 (wrap64 a + wrap64 b) = wrap64 (a + b) := by unfold wrap64; omega
theorem wrap_ne {n : Nat} (h0 : 0 < n) (h : n < 2 ^ 64) : wrap64 (n : Int) ≠ 0 := by
  have e : (2 : Nat) ^ 64 = 18446744073709551616 := by decide
  rw [e] at h
  unfold wrap64
  omega
theorem cmpF_neg : ∀ u v : W4, cmpF v u = - cmpF u v
  | [], [] => rfl
  | [], _ :: _ => rfl
  | _ :: _, [] => rfl
  | a :: u, b :: v => by
    unfold cmpF
    by_cases e : a = b
    · rw [if_pos e, if_pos e.symm, cmpF_neg u v]
    · rw [if_neg e, if_neg (fun h => e h.symm)]
      omega
theorem effI_of (p q : Nd) (n : Rt) (hw : n.word.length = p.far) (hc : n.cost = 0) : effI n (rtOf q) = cmpI (p.far : Int) (q.far : Int) := by
  unfold effI
  have h0 : cmpI n.cost (rtOf q).cost = 0 := by rw [hc]; rfl
  rw [h0, if_neg (by simp), hw]
  show cmpI (p.far : Int) ((wdB q.hd).length : Int) = _
  rw [wdB_len]
  rfl
theorem cmpRt_lt {p q : Nd} (h : ltW p.hd q.hd) : cmpRt (rtOf p) (rtOf q) < 0 ∧ ¬ cmpRt (rtOf q) (rtOf p) < 0 := by
  have e1 : effI (rtOf p) (rtOf q) = cmpI (p.far : Int) (q.far : Int) := effI_of p q (rtOf p) (by show (wdB p.hd).length = _; rw [wdB_len]; rfl) rfl
  have e2 : effI (rtOf q) (rtOf p) = cmpI (q.far : Int) (p.far : Int) := effI_of q p (rtOf q) (by show (wdB q.hd).length = _; rw [wdB_len]; rfl) rfl
  unfold cmpRt
  rw [e1, e2]
  show (if cmpI (p.far : Int) (q.far : Int) ≠ 0 then cmpI (p.far : Int) (q.far : Int) else cmpB (wdB p.hd) (wdB q.hd)) < 0 ∧ ¬ (if cmpI (q.far : Int) (p.far : Int) ≠ 0 then cmpI (q.far : Int) (p.far : Int) else cmpB (wdB q.hd) (wdB p.hd)) < 0
  rw [cmpB_wd, cmpB_wd]
  rcases h with h | ⟨h, hc⟩
  · have h' : p.far < q.far := h
    have c1 : cmpI (p.far : Int) (q.far : Int) = -1 := by unfold cmpI; rw [if_pos (by omega)]
    have c2 : cmpI (q.far : Int) (p.far : Int) = 1 := by unfold cmpI; rw [if_neg (by omega), if_pos (by omega)]
    rw [c1, c2]
    constructor <;> simp
  · have h' : p.far = q.far := h
    have c1 : cmpI (p.far : Int) (q.far : Int) = 0 := cmpI_zero.2 (by omega)
    have c2 : cmpI (q.far : Int) (p.far : Int) = 0 := cmpI_zero.2 (by omega)
    rw [c1, c2, if_neg (by simp), if_neg (by simp), cmpF_neg p.hd q.hd]
    omega
section
variable {fit : St → Bool} {s0 : St} {k j : Nat} {M : List Nd} {p : Nd}
theorem OkW.far_ix (h : OkW fit s0 k j M) : ∀ (n i : Nat) (q : Nd), i ≤ n → M[i]? = some q → q.far ≤ i
  | n, 0, q, _, hq => by rw [h.zero_far hq]; omega
  | 0, i + 1, _, hi, _ => by omega
  | n + 1, i + 1, q, hi, hq => by
    obtain ⟨k', a, j', _, _, h3, h4, h5, _⟩ := h.par (i + 1) q (by omega) hq
    have := OkW.far_ix h n k' a (by omega) h4
    unfold Nd.far at this ⊢
    rw [h5]
    simp
    omega
theorem OkW.wd (h : OkW fit s0 k j M) (hl : M.length ≤ 1000) : ∀ q ∈ M, wdOk (rtOf q) := by
  intro q hq
  obtain ⟨i, hi⟩ := List.mem_iff_getElem?.1 hq
  have hil := (List.getElem?_eq_some_iff.1 hi).1
  have := h.far_ix i i q (Nat.le_refl _) hi
  exact ⟨q.hd, rfl, by unfold Nd.far at this; omega⟩
theorem OkW.cnt (h : OkW fit s0 k j M) (hc : ∀ q ∈ M, q.ws.length < 2 ^ 64) : ∀ q ∈ M, (rtOf q).count ≠ 0 := by
  intro q hq
  have h1 := h.ne q hq
  exact wrap_ne (List.length_pos_iff.2 h1) (hc q hq)
theorem OkW.least (h : OkW fit s0 k j M) (hp : M[k]? = some p) : LeastS ((seL M).drop k) (seOf p k) := by
  refine ⟨List.mem_iff_getElem?.2 ⟨0, by rw [seL_drop_get]; simp [hp]⟩, ?_⟩
  intro y hy hne
  obtain ⟨i, hi⟩ := List.mem_iff_getElem?.1 hy
  rw [seL_drop_get] at hi
  obtain ⟨q, hq, rfl⟩ := Option.map_eq_some_iff.1 hi
  by_cases e : i = 0
  · subst e
    rw [Nat.add_zero] at hq hne
    rw [hp] at hq
    obtain rfl := Option.some.inj hq
    exact absurd rfl hne
  · exact cmpRt_lt (h.ord k (k + i) p q (by omega) hp hq)
/-- Nothing turns where the roll leads off, or to what has been left. -/
theorem OkW.step_same (h : OkW fit s0 k j M) (hp : M[k]? = some p) (J : Fin 4) (hs : fit (rlS p.s J) = false ∨ ∃ x ∈ (seL M).take (k + 1), x.1.1 = rlS p.s J) : stepW fit k M J = M := by
  cases hf : fit (rlS p.s J)
  · exact stepW_off hp hf
  · rcases hs with hs | ⟨x, hx, hxs⟩
    · rw [hf] at hs; cases hs
    · rw [seL_take] at hx
      obtain ⟨i, q, hq, rfl⟩ := seL_mem hx
      rw [List.getElem?_take] at hq
      by_cases hik : i < k + 1
      · rw [if_pos hik] at hq
        have hxs' : q.s = rlS p.s J := hxs
        have hfi := findI_of h.nodup hq
        rw [hxs'] at hfi
        refine stepW_old hp hf hfi hq ?_
        have := h.far_le hq hp (by omega)
        omega
      · rw [if_neg hik] at hq; cases hq
theorem drop_set {α : Type} (L : List α) (m i : Nat) (x : α) (h : m ≤ i) : (L.set i x).drop m = (L.drop m).set (i - m) x := by
  apply List.ext_getElem?
  intro n
  rw [List.getElem?_drop, List.getElem?_set, List.getElem?_set, List.getElem?_drop, List.length_drop]
  by_cases e : i = m + n
  · subst e
    rw [if_pos rfl, show m + n - m = n by omega, if_pos rfl]
    by_cases hl : m + n < L.length
    · rw [if_pos hl, if_pos (by omega)]
    · rw [if_neg hl, if_neg (by omega)]
  · rw [if_neg e, if_neg (by omega)]
theorem set_same {α : Type} {L : List α} {i : Nat} {x : α} (h : L[i]? = some x) : L.set i x = L := by
  apply List.ext_getElem?
  intro n
  rw [List.getElem?_set]
  by_cases e : i = n
  · subst e
    rw [if_pos rfl, if_pos (List.getElem?_eq_some_iff.1 h).1, h]
  · rw [if_neg e]
/-- What has been left stays as it is. -/
theorem OkW.step_left (h : OkW fit s0 k j M) (hp : M[k]? = some p) (J : Fin 4) (hnf : ∀ x ∈ (seL M).take (k + 1), x.1.1 ≠ rlS p.s J) : (seL (stepW fit k M J)).take (k + 1) = (seL M).take (k + 1) := by
  have hkl := (List.getElem?_eq_some_iff.1 hp).1
  refine stepW_cases hp (fun N => (seL N).take (k + 1) = (seL M).take (k + 1)) (fun _ => rfl) ?_ ?_ (fun _ _ _ _ _ _ => rfl)
  · intro _ _
    rw [seL_snoc, List.take_append_of_le_length (by rw [seL_len]; omega)]
  · intro i q _ hq hs _
    rw [seL_set]
    have hik : k + 1 ≤ i := by
      rcases Nat.lt_or_ge i (k + 1) with hlt | hge
      · refine absurd hs (hnf (seOf q i) ?_)
        rw [seL_take]
        refine List.mem_iff_getElem?.2 ⟨i, ?_⟩
        rw [seL_get, List.getElem?_take, if_pos hlt, hq]
        rfl
      · exact hge
    apply List.ext_getElem?
    intro n
    rw [List.getElem?_take, List.getElem?_take]
    by_cases hn : n < k + 1
    · rw [if_pos hn, if_pos hn, List.getElem?_set_ne (by omega)]
    · rw [if_neg hn, if_neg hn]
/-- What a roll to a state that may be open does to the open routes. -/
theorem OkW.step_maps (h : OkW fit s0 k j M) (hp : M[k]? = some p) (J : Fin 4) (hok : ∀ q ∈ M, okS q.s) (hot : okS (rlS p.s J)) (hcnt : ∀ q ∈ M, q.ws.length < 2 ^ 64) (hf : fit (rlS p.s J) = true) (hnf : ∀ x ∈ (seL M).take (k + 1), x.1.1 ≠ rlS p.s J) (ob : Nat) :
    ∃ o : Rt, (∀ w', MapR w' ob ((seL M).drop (k + 1)) M.length → (Instr.lookup 65 (.map (some ob)) (St.v (rlS p.s J)) false).run Tryd.prog w' = .ok (Rt.v o) w') ∧
      ∀ w', MapR w' ob ((seL M).drop (k + 1)) M.length → (Instr.mapUpdate 65 (.map (some ob)) (St.v (rlS p.s J)) (Rt.v (joinR o ⟨wdB p.hd ++ [dirC J.val], 0, wrap64 (p.ws.length : Int)⟩))).run Tryd.prog w' = .ok () (setBlock w' ob (.map (((seL (stepW fit k M J)).drop (k + 1)).map entS).toArray (stepW fit k M J).length)) := by
  have hkl := (List.getElem?_eq_some_iff.1 hp).1
  have hpm := List.mem_of_getElem? hp
  have hL := seL_ok_drop h.nodup hok (k + 1)
  cases hi : findI M (rlS p.s J) with
  | none =>
    have hn : ∀ x ∈ (seL M).drop (k + 1), x.1.1 ≠ rlS p.s J := by
      intro x hx
      obtain ⟨i, q, hq, rfl⟩ := seL_mem ((List.drop_sublist _ _).subset hx)
      exact findI_none hi q (List.mem_of_getElem? hq)
    refine ⟨zeroR, fun w' hM => (lookS_no hL hot hM hn).2, fun w' hM => ?_⟩
    have hj0 : joinR zeroR ⟨wdB p.hd ++ [dirC J.val], 0, wrap64 (p.ws.length : Int)⟩ = ⟨wdB p.hd ++ [dirC J.val], 0, wrap64 (p.ws.length : Int)⟩ := by unfold joinR; rw [if_pos (.inl rfl)]
    rw [hj0, putS_new hL hot hM hn, stepW_new hp hf hi, seL_snoc, List.drop_append_of_le_length (by rw [seL_len]; omega)]
    have hN : rtOf ⟨rlS p.s J, extW p J, (k : Int), (J.val : Int)⟩ = ⟨wdB p.hd ++ [dirC J.val], 0, wrap64 (p.ws.length : Int)⟩ := by
      unfold rtOf
      rw [extW_hd (h.ne p hpm), wdB_snoc]
      simp [extW]
    rw [List.length_append]
    unfold seOf
    rw [hN]
    rfl
  | some i =>
    obtain ⟨q, hq, hs⟩ := findI_some hi
    have hqm := List.mem_of_getElem? hq
    have hik : k + 1 ≤ i := by
      rcases Nat.lt_or_ge i (k + 1) with hlt | hge
      · refine absurd hs (hnf (seOf q i) ?_)
        rw [seL_take]
        refine List.mem_iff_getElem?.2 ⟨i, ?_⟩
        rw [seL_get, List.getElem?_take, if_pos hlt, hq]
        rfl
      · exact hge
    have hx : ((seL M).drop (k + 1))[i - (k + 1)]? = some (seOf q i) := by
      rw [seL_drop_get, show k + 1 + (i - (k + 1)) = i by omega, hq]
      rfl
    have hnear := h.near hp q hqm
    have heff : effI ⟨wdB p.hd ++ [dirC J.val], 0, wrap64 (p.ws.length : Int)⟩ (rtOf q) = cmpI ((p.far + 1 : Nat) : Int) (q.far : Int) := by
      unfold effI
      have h0 : cmpI 0 (rtOf q).cost = 0 := rfl
      show (if cmpI 0 (rtOf q).cost ≠ 0 then _ else _) = _
      rw [h0, if_neg (by simp)]
      show cmpI ((wdB p.hd ++ [dirC J.val]).length : Int) ((wdB q.hd).length : Int) = _
      rw [List.length_append, wdB_len, wdB_len]
      rfl
    have hc0 : (rtOf q).count ≠ 0 := h.cnt hcnt q hqm
    refine ⟨rtOf q, fun w' hM => ?_, fun w' hM => ?_⟩
    · have := (lookS_yes hL hx hM).2
      rw [← hs]
      exact this
    · by_cases hd : q.far = p.far + 1
      · have hjn : joinR (rtOf q) ⟨wdB p.hd ++ [dirC J.val], 0, wrap64 (p.ws.length : Int)⟩ = rtOf ⟨q.s, q.ws ++ extW p J, q.bf, q.dr⟩ := by
          have he0 : effI ⟨wdB p.hd ++ [dirC J.val], 0, wrap64 (p.ws.length : Int)⟩ (rtOf q) = 0 := by rw [heff]; exact cmpI_zero.2 (by omega)
          unfold joinR
          rw [he0, if_neg (by simp [hc0]), if_pos rfl]
          have hhd : (Nd.mk q.s (q.ws ++ extW p J) q.bf q.dr).hd = q.hd := by
            have := h.ne q hqm
            unfold Nd.hd
            cases hw : q.ws with
            | nil => exact absurd hw this
            | cons a l => simp
          unfold rtOf
          rw [hhd]
          show (⟨wdB q.hd, 0, wrap64 (wrap64 (q.ws.length : Int) + wrap64 (p.ws.length : Int))⟩ : Rt) = _
          rw [wrap_add]
          simp [extW]
        rw [hjn, stepW_add hp hf hi hq hd, seL_set, drop_set _ _ _ _ hik, List.length_set]
        have := putS_old hL hx hM (rtOf ⟨q.s, q.ws ++ extW p J, q.bf, q.dr⟩)
        rw [← hs]
        exact this
      · have hjn : joinR (rtOf q) ⟨wdB p.hd ++ [dirC J.val], 0, wrap64 (p.ws.length : Int)⟩ = rtOf q := by
          have he1 : effI ⟨wdB p.hd ++ [dirC J.val], 0, wrap64 (p.ws.length : Int)⟩ (rtOf q) = 1 := by
            rw [heff]
            unfold cmpI
            rw [if_neg (by omega), if_pos (by omega)]
          unfold joinR
          rw [he1, if_neg (by simp [hc0]), if_neg (by decide)]
        rw [hjn, stepW_old hp hf hi hq hd]
        have := putS_old hL hx hM (rtOf q)
        rw [show ((seOf q i).1.1, rtOf q) = (seOf q i).1 from rfl, show ((seOf q i).1, (seOf q i).2) = seOf q i from rfl, set_same hx] at this
        rw [← hs]
        exact this
end
end Go.Proofs.YthdkhikkdcjifaaDoor
namespace Go.Proofs.YthdkhikkdcjifaaDoor
set_option maxRecDepth 100000
set_option linter.all false
open Go.RowKit

/-- The closure of onFloor: block b holds the rows. -/
def CloF (w : World) (b h : Nat) (bs : ByteArray) : Prop := b < w.heap.size ∧ w.cell? ⟨b, 0, none⟩ = some (.slice (some ⟨h, 0, none⟩) (rowsB bs).length (rowsB bs).length) ∧ RowsAt w h (rowsB bs)
theorem cloF_to {w w0 w1 : World} {b h : Nat} {bs : ByteArray} (hb : Below w0.heap.size w0 w1) (hl : CloF w b h bs) (e : w0.heap = w.heap) : CloF w1 b h bs := by
  obtain ⟨h1, h2, h3⟩ := hl
  have hs := hb.size
  refine ⟨by rw [e] at hs; omega, ?_, (hb.block h (by rw [e]; exact h3.lt)).trans (by rw [e]; exact h3)⟩
  rw [hb.cell (p := ⟨b, 0, none⟩) (by rw [e]; exact h1)]
  have h5 : w0.heap[(⟨b, 0, none⟩ : Addr).block]? = w.heap[(⟨b, 0, none⟩ : Addr).block]? := by rw [e]
  rw [World.cell?_of_block h5]
  exact h2
theorem cloF_lt {w : World} {b h : Nat} {bs : ByteArray} (hl : CloF w b h bs) : b < w.heap.size ∧ h < w.heap.size := ⟨hl.1, hl.2.2.lt⟩
theorem cloF_block {B : Nat} {w w1 : World} {b h : Nat} {bs : ByteArray} (hlt : b < B ∧ h < B) (hb : Below B w w1) (hl : CloF w b h bs) : CloF w1 b h bs := by
  obtain ⟨h1, h2, h3⟩ := hl
  have hs := hb.size
  exact ⟨by omega, (hb.cell (p := ⟨b, 0, none⟩) hlt.1).trans h2, (hb.block h hlt.2).trans h3⟩
/-- Is a state on the floor? -/
def flAt (l : List UInt8) (s : St) : Bool := floorL l s.x s.y
theorem byte_eqF {c : UInt8} {n : Int} (h : (c.toNat : Int) = n) : (((c.toNat : Nat) : Int) == n) = true ∧ (((c.toNat : Nat) : Int) != n) = false := by
  subst h
  simp
theorem byte_neF {c : UInt8} {n : Int} (h : ¬ (c.toNat : Int) = n) : (((c.toNat : Nat) : Int) == n) = false ∧ (((c.toNat : Nat) : Int) != n) = true := by
  simp [h]
set_option maxHeartbeats 800000 in
theorem floorOn1_any (bs : ByteArray) (h b : Nat) (hbz : bs.size ≤ 1048576) (hbd : isBd bs.data.toList = true) (s : St) (w : World) (hc : CloF w b h bs) :
    Calls Tryd.prog 102 #[St.v s, .pointer (some ⟨b, 0, none⟩)] w fun e w' => e = .returned (.bool (flAt bs.data.toList s)) ∧ Below w.heap.size w w' := by
  have q0 : Below w.heap.size w (w.alloc (.cells #[.int .i64 s.x, .int .i64 s.y, .int .i64 s.d.t, .int .i64 s.d.n, .int .i64 s.d.e, .int .i64 s.d.s, .int .i64 s.d.w, .int .i64 s.d.b] 30)) := by go_grown
  have hc1 := cloF_to q0 hc rfl
  have HR := hide hc1.2.2
  have c9 := hc1.2.1
  have HM := hide (fun wx (hx : RowsAt wx h (rowsB bs)) => cellAtL_any bs h s.x s.y wx hbz hbd hx)
  have S0 := IsS.new (w := w) (s := s) (ty := 30)
  obtain ⟨l0, ⟨a0, a1, a2, a3, a4, a5, a6, a7⟩, -⟩ := S0.all
  obtain ⟨c, hcc⟩ : ∃ c, c = cellI (splitP bs.data.toList) s.x s.y := ⟨_, rfl⟩
  have HF := hide (show flAt bs.data.toList s = decide ((c.toNat : Int) = 46) from by unfold flAt floorL; rw [← hcc])
  rw [← hcc] at HM
  rw [HF.out]
  clear hc hc1 hcc HF
  by_cases h46 : (c.toNat : Int) = 46
  · obtain ⟨r1, r2⟩ := byte_eqF h46
    have HD := hide (decide_eq_true h46)
    clear h46
    go_enter Tryd.func102, Tryd.ntmps102
    go_wp2_with (go_at_call 103; (refine (HM.out _ HR.out).mono ?_); rintro e w1 ⟨rfl, rfl⟩)
    go_returns
    exact ⟨by rw [HD.out]; rfl, q0⟩
  · obtain ⟨r1, r2⟩ := byte_neF h46
    have HD := hide (decide_eq_false h46)
    clear h46
    go_enter Tryd.func102, Tryd.ntmps102
    go_wp2_with (go_at_call 103; (refine (HM.out _ HR.out).mono ?_); rintro e w1 ⟨rfl, rfl⟩)
    go_returns
    exact ⟨by rw [HD.out]; rfl, q0⟩
theorem onFloor_any (bs : ByteArray) (h : Nat) (w : World) (hl : RowsAt w h (rowsB bs)) :
    Calls Tryd.prog 76 #[.slice (some ⟨h, 0, none⟩) (rowsB bs).length (rowsB bs).length] w fun e w' => ∃ b, e = .returned (.func (.func 102) #[] #[.pointer (some ⟨b, 0, none⟩)]) ∧ CloF w' b h bs ∧ Below w.heap.size w w' := by
  have hmf : ∀ (fn : Fn) (first cap : Array Value) (w : World), (Instr.makeFunc fn first cap).run Tryd.prog w = .ok (.func fn first cap) w := fun _ _ _ _ => rfl
  have HC := hide (show CloF (w.alloc (.cells #[.slice (some ⟨h, 0, none⟩) (rowsB bs).length (rowsB bs).length] 104)) w.heap.size h bs from ⟨by simp, by rw [World.cell?_alloc_mark]; rfl, rowsAt_to (w0 := w) ((Below.refl _ _).alloc (Nat.le_refl _) _) hl rfl⟩)
  clear hl
  generalize (rowsB bs).length = n at HC ⊢
  go_enter Tryd.func76, Tryd.ntmps76
  go_wp2
  go_returns
  exact ⟨_, rfl, HC.out, by go_grown⟩

/-- A search that stays small. -/
structure FitOk (fit : St → Bool) (s0 : St) : Prop where
  home : fit s0 = true
  len : ∀ n j, j ≤ 4 → (stepsW fit n (runW fit s0 n) j).length ≤ 900
  oks : ∀ n j, j ≤ 4 → ∀ q ∈ stepsW fit n (runW fit s0 n) j, okS q.s ∧ ∀ J, okS (rlS q.s J)
  cnt : ∀ q ∈ wyL fit s0, q.ws.length < 2 ^ 64
theorem steps_ok (fit : St → Bool) (s0 : St) (n : Nat) : ∀ j, j ≤ 4 → ∃ k' j', OkW fit s0 k' j' (stepsW fit n (runW fit s0 n) j) := by
  intro j hj
  cases hp : (runW fit s0 n)[n]? with
  | none =>
    rw [stepsW_none hp]
    exact ⟨n, 0, runW_ok fit s0 n⟩
  | some p => exact ⟨n, j, ((runW_ok fit s0 n).steps hp j hj).1⟩
theorem fl_grid {l : List UInt8} (hb : isBd l = true) {s : St} (h : flAt l s = true) : (s.x, s.y) ∈ gridC (width l) (splitP l).length := by
  unfold flAt floorL at h
  refine mem_grid ?_
  cases hi : inL l s.x s.y
  · rw [cellI_out hb hi] at h
    exact absurd h (by simp)
  · unfold inL at hi
    simp only [Bool.and_eq_true, decide_eq_true_eq] at hi
    show 0 ≤ s.x ∧ s.x < _ ∧ 0 ≤ s.y ∧ s.y < _
    omega
theorem grid_mem {W H : Nat} {c : Cl} (h : c ∈ gridC W H) : 0 ≤ c.1 ∧ c.1 < W ∧ 0 ≤ c.2 ∧ c.2 < H := by
  unfold gridC at h
  obtain ⟨i, hi, h⟩ := List.mem_flatMap.1 h
  obtain ⟨j, hj, rfl⟩ := List.mem_map.1 h
  have := List.mem_range.1 hi
  have := List.mem_range.1 hj
  show (0 : Int) ≤ (i : Int) ∧ (i : Int) < W ∧ (0 : Int) ≤ (j : Int) ∧ (j : Int) < H
  omega
theorem fitOk_board {l : List UInt8} (hb : isBd l = true) {s0 : St} (hs : flAt l s0 = true) (hd : goodB s0.d = true) : FitOk (flAt l) s0 := by
  have hbd := hb
  unfold isBd at hbd
  simp only [Bool.and_eq_true, decide_eq_true_eq] at hbd
  obtain ⟨⟨b1, b2, b3, b4⟩, -⟩ := hbd
  have h0 : s0 ∈ boxS (width l) (splitP l).length s0.d := mem_boxS.2 ⟨fl_grid hb hs, orbit_self _⟩
  have hS := box_shut (d := s0.d) (fun s (h : flAt l s = true) => fl_grid hb h)
  refine ⟨hs, ?_, ?_, ?_⟩
  · intro n j hj
    obtain ⟨k', j', hk⟩ := steps_ok (flAt l) s0 n j hj
    have := hk.len h0 hS
    rw [boxS_len] at this
    have : width l * (splitP l).length * 24 ≤ 36 * 24 := Nat.mul_le_mul_right _ b4
    omega
  · intro n j hj q hq
    obtain ⟨k', j', hk⟩ := steps_ok (flAt l) s0 n j hj
    obtain ⟨hc, ho⟩ := mem_boxS.1 (hk.inn h0 hS q hq)
    have hg := grid_mem hc
    have hx : (0 : Int) ≤ q.s.x ∧ q.s.x < 7 ∧ (0 : Int) ≤ q.s.y ∧ q.s.y < 7 := by
      have h1 : 0 ≤ q.s.x ∧ q.s.x < (width l : Int) ∧ 0 ≤ q.s.y ∧ q.s.y < ((splitP l).length : Int) := hg
      omega
    refine ⟨⟨by omega, by omega, orbit_good hd ho⟩, fun J => ?_⟩
    have hcell := rlS_cell q.s J
    have hx' : (rlS q.s J).x = (mvC J (q.s.x, q.s.y)).1 := by rw [← hcell]
    have hy' : (rlS q.s J).y = (mvC J (q.s.x, q.s.y)).2 := by rw [← hcell]
    refine ⟨?_, ?_, ?_⟩
    · rw [hx']
      rcases four J with rfl | rfl | rfl | rfl <;> simp [mvC] <;> omega
    · rw [hy']
      rcases four J with rfl | rfl | rfl | rfl <;> simp [mvC] <;> omega
    · rw [rlS_die]
      exact orbit_good hd (rollK_orbit ho J)
  · refine wyL_count (W := width l) (H := (splitP l).length) (fl := fun c => floorL l c.1 c.2) b2 b3 b4 (fun s => rfl) hs (fun s h => ?_)
    have := grid_mem (fl_grid hb h)
    exact this
end Go.Proofs.YthdkhikkdcjifaaDoor
