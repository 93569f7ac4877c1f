/- The search's maps: the entries that the found states make, and what a roll does to them. -/
import Derived.Test.YthdkhikkdcjifaaDoorBst
namespace Go.Proofs.YthdkhikkdcjifaaDoor
set_option maxRecDepth 100000
set_option linter.all false
open Go.RowKit Go.Maps Go.ChangeMaps

def rtOf (q : Nd) : Rt := ⟨wdB q.hd, 0, wrap64 (q.ws.length : Int)⟩
def seOf (q : Nd) (i : Nat) : SE := ((q.s, rtOf q), i)
def seL (M : List Nd) : List SE := M.zipIdx.map (fun x => seOf x.1 x.2)
theorem seL_get (M : List Nd) (i : Nat) : (seL M)[i]? = (M[i]?).map (fun q => seOf q i) := by
  unfold seL
  rw [List.getElem?_map, List.getElem?_zipIdx]
  cases M[i]? <;> simp
theorem seL_len (M : List Nd) : (seL M).length = M.length := by simp [seL]
theorem seL_snoc (M : List Nd) (q : Nd) : seL (M ++ [q]) = seL M ++ [seOf q M.length] := by simp [seL, List.zipIdx_append]
theorem seL_set (M : List Nd) (i : Nat) (q : Nd) : seL (M.set i q) = (seL M).set i (seOf q i) := by
  apply List.ext_getElem?
  intro k
  rw [seL_get, List.getElem?_set, List.getElem?_set, seL_len, seL_get]
  by_cases e : i = k
  · subst e
    by_cases h : i < M.length <;> simp [h]
  · simp [e]
theorem seL_take (M : List Nd) (k : Nat) : (seL M).take k = seL (M.take k) := by
  apply List.ext_getElem?
  intro i
  rw [List.getElem?_take, seL_get, seL_get, List.getElem?_take]
  split <;> rfl
theorem seL_mem {M : List Nd} {x : SE} (h : x ∈ seL M) : ∃ (i : Nat) (q : Nd), M[i]? = some q ∧ x = seOf q i := by
  obtain ⟨i, hi⟩ := List.mem_iff_getElem?.1 h
  rw [seL_get] at hi
  obtain ⟨q, hq, e⟩ := Option.map_eq_some_iff.1 hi
  exact ⟨i, q, hq, e.symm⟩
theorem seL_ok {M : List Nd} (hn : (M.map (·.s)).Nodup) (hs : ∀ q ∈ M, okS q.s) : OkL (seL M) M.length := by
  have e1 : (seL M).map (·.1.1) = M.map (·.s) := by
    apply List.ext_getElem?
    intro i
    rw [List.getElem?_map, seL_get, List.getElem?_map]
    cases M[i]? <;> rfl
  have e2 : (seL M).map (·.2) = List.range M.length := by
    apply List.ext_getElem?
    intro i
    rw [List.getElem?_map, seL_get]
    by_cases h : i < M.length
    · rw [List.getElem?_eq_getElem h, List.getElem?_range h]; rfl
    · rw [List.getElem?_eq_none (by omega), List.getElem?_eq_none (by simp; omega)]; rfl
  refine ⟨by rw [e1]; exact hn, by rw [e2]; exact List.nodup_range, ?_, ?_⟩
  · intro x hx
    obtain ⟨i, q, hq, rfl⟩ := seL_mem hx
    exact (List.getElem?_eq_some_iff.1 hq).1
  · intro x hx
    obtain ⟨i, q, hq, rfl⟩ := seL_mem hx
    exact hs q (List.mem_of_getElem? hq)
theorem seL_ok_take {M : List Nd} (hn : (M.map (·.s)).Nodup) (hs : ∀ q ∈ M, okS q.s) {k : Nat} (hk : k ≤ M.length) : OkL ((seL M).take k) k := by
  rw [seL_take]
  have h := seL_ok (M := M.take k) (by rw [List.map_take]; exact hn.sublist (List.take_sublist _ _)) (fun q hq => hs q ((List.take_sublist _ _).subset hq))
  rw [List.length_take, Nat.min_eq_left hk] at h
  exact h
theorem seL_ok_drop {M : List Nd} (hn : (M.map (·.s)).Nodup) (hs : ∀ q ∈ M, okS q.s) (k : Nat) : OkL ((seL M).drop k) M.length := (seL_ok hn hs).sub (List.drop_sublist _ _)
theorem seL_drop_get (M : List Nd) (k i : Nat) : ((seL M).drop k)[i]? = (M[k + i]?).map (fun q => seOf q (k + i)) := by rw [List.getElem?_drop, seL_get]
theorem wrap_add (a b : Int) : wrap64 (wrap64 a + wrap64 b) = wrap64 (a + b) := by unfold wrap64; omega
theorem wrap_ne {n : Nat} (h0 : 0 < n) (h : n < 2 ^ 64) : wrap64 (n : Int) ≠ 0 := by
  have e : (2 : Nat) ^ 64 = 18446744073709551616 := by decide
  rw [e] at h
  unfold wrap64
  omega
theorem cmpF_neg : ∀ u v : W4, cmpF v u = - cmpF u v
  | [], [] => rfl
  | [], _ :: _ => rfl
  | _ :: _, [] => rfl
  | a :: u, b :: v => by
    unfold cmpF
    by_cases e : a = b
    · rw [if_pos e, if_pos e.symm, cmpF_neg u v]
    · rw [if_neg e, if_neg (fun h => e h.symm)]
      omega
theorem effI_of (p q : Nd) (n : Rt) (hw : n.word.length = p.far) (hc : n.cost = 0) : effI n (rtOf q) = cmpI (p.far : Int) (q.far : Int) := by
  unfold effI
  have h0 : cmpI n.cost (rtOf q).cost = 0 := by rw [hc]; rfl
  rw [h0, if_neg (by simp), hw]
  show cmpI (p.far : Int) ((wdB q.hd).length : Int) = _
  rw [wdB_len]
  rfl
theorem cmpRt_lt {p q : Nd} (h : ltW p.hd q.hd) : cmpRt (rtOf p) (rtOf q) < 0 ∧ ¬ cmpRt (rtOf q) (rtOf p) < 0 := by
  have e1 : effI (rtOf p) (rtOf q) = cmpI (p.far : Int) (q.far : Int) := effI_of p q (rtOf p) (by show (wdB p.hd).length = _; rw [wdB_len]; rfl) rfl
  have e2 : effI (rtOf q) (rtOf p) = cmpI (q.far : Int) (p.far : Int) := effI_of q p (rtOf q) (by show (wdB q.hd).length = _; rw [wdB_len]; rfl) rfl
  unfold cmpRt
  rw [e1, e2]
  show (if cmpI (p.far : Int) (q.far : Int) ≠ 0 then cmpI (p.far : Int) (q.far : Int) else cmpB (wdB p.hd) (wdB q.hd)) < 0 ∧ ¬ (if cmpI (q.far : Int) (p.far : Int) ≠ 0 then cmpI (q.far : Int) (p.far : Int) else cmpB (wdB q.hd) (wdB p.hd)) < 0
  rw [cmpB_wd, cmpB_wd]
  rcases h with h | ⟨h, hc⟩
  · have h' : p.far < q.far := h
    have c1 : cmpI (p.far : Int) (q.far : Int) = -1 := by unfold cmpI; rw [if_pos (by omega)]
    have c2 : cmpI (q.far : Int) (p.far : Int) = 1 := by unfold cmpI; rw [if_neg (by omega), if_pos (by omega)]
    rw [c1, c2]
    constructor <;> simp
  · have h' : p.far = q.far := h
    have c1 : cmpI (p.far : Int) (q.far : Int) = 0 := cmpI_zero.2 (by omega)
    have c2 : cmpI (q.far : Int) (p.far : Int) = 0 := cmpI_zero.2 (by omega)
    rw [c1, c2, if_neg (by simp), if_neg (by simp), cmpF_neg p.hd q.hd]
    omega
section
variable {fit : St → Bool} {s0 : St} {k j : Nat} {M : List Nd} {p : Nd}
theorem OkW.far_ix (h : OkW fit s0 k j M) : ∀ (n i : Nat) (q : Nd), i ≤ n → M[i]? = some q → q.far ≤ i
  | n, 0, q, _, hq => by rw [h.zero_far hq]; omega
  | 0, i + 1, _, hi, _ => by omega
  | n + 1, i + 1, q, hi, hq => by
    obtain ⟨k', a, j', _, _, h3, h4, h5, _⟩ := h.par (i + 1) q (by omega) hq
    have := OkW.far_ix h n k' a (by omega) h4
    unfold Nd.far at this ⊢
    rw [h5]
    simp
    omega
theorem OkW.wd (h : OkW fit s0 k j M) (hl : M.length ≤ 1000) : ∀ q ∈ M, wdOk (rtOf q) := by
  intro q hq
  obtain ⟨i, hi⟩ := List.mem_iff_getElem?.1 hq
  have hil := (List.getElem?_eq_some_iff.1 hi).1
  have := h.far_ix i i q (Nat.le_refl _) hi
  exact ⟨q.hd, rfl, by unfold Nd.far at this; omega⟩
theorem OkW.cnt (h : OkW fit s0 k j M) (hc : ∀ q ∈ M, q.ws.length < 2 ^ 64) : ∀ q ∈ M, (rtOf q).count ≠ 0 := by
  intro q hq
  have h1 := h.ne q hq
  exact wrap_ne (List.length_pos_iff.2 h1) (hc q hq)
theorem OkW.least (h : OkW fit s0 k j M) (hp : M[k]? = some p) : LeastS ((seL M).drop k) (seOf p k) := by
  refine ⟨List.mem_iff_getElem?.2 ⟨0, by rw [seL_drop_get]; simp [hp]⟩, ?_⟩
  intro y hy hne
  obtain ⟨i, hi⟩ := List.mem_iff_getElem?.1 hy
  rw [seL_drop_get] at hi
  obtain ⟨q, hq, rfl⟩ := Option.map_eq_some_iff.1 hi
  by_cases e : i = 0
  · subst e
    rw [Nat.add_zero] at hq hne
    rw [hp] at hq
    obtain rfl := Option.some.inj hq
    exact absurd rfl hne
  · exact cmpRt_lt (h.ord k (k + i) p q (by omega) hp hq)
/-- Nothing turns where the roll leads off, or to what has been left. -/
theorem OkW.step_same (h : OkW fit s0 k j M) (hp : M[k]? = some p) (J : Fin 4) (hs : fit (rlS p.s J) = false ∨ ∃ x ∈ (seL M).take (k + 1), x.1.1 = rlS p.s J) : stepW fit k M J = M := by
  cases hf : fit (rlS p.s J)
  · exact stepW_off hp hf
  · rcases hs with hs | ⟨x, hx, hxs⟩
    · rw [hf] at hs; cases hs
    · rw [seL_take] at hx
      obtain ⟨i, q, hq, rfl⟩ := seL_mem hx
      rw [List.getElem?_take] at hq
      by_cases hik : i < k + 1
      · rw [if_pos hik] at hq
        have hxs' : q.s = rlS p.s J := hxs
        have hfi := findI_of h.nodup hq
        rw [hxs'] at hfi
        refine stepW_old hp hf hfi hq ?_
        have := h.far_le hq hp (by omega)
        omega
      · rw [if_neg hik] at hq; cases hq
theorem drop_set {α : Type} (L : List α) (m i : Nat) (x : α) (h : m ≤ i) : (L.set i x).drop m = (L.drop m).set (i - m) x := by
  apply List.ext_getElem?
  intro n
  rw [List.getElem?_drop, List.getElem?_set, List.getElem?_set, List.getElem?_drop, List.length_drop]
  by_cases e : i = m + n
  · subst e
    rw [if_pos rfl, show m + n - m = n by omega, if_pos rfl]
    by_cases hl : m + n < L.length
    · rw [if_pos hl, if_pos (by omega)]
    · rw [if_neg hl, if_neg (by omega)]
  · rw [if_neg e, if_neg (by omega)]
theorem set_same {α : Type} {L : List α} {i : Nat} {x : α} (h : L[i]? = some x) : L.set i x = L := by
  apply List.ext_getElem?
  intro n
  rw [List.getElem?_set]
  by_cases e : i = n
  · subst e
    rw [if_pos rfl, if_pos (List.getElem?_eq_some_iff.1 h).1, h]
  · rw [if_neg e]
/-- What has been left stays as it is. -/
theorem OkW.step_left (h : OkW fit s0 k j M) (hp : M[k]? = some p) (J : Fin 4) (hnf : ∀ x ∈ (seL M).take (k + 1), x.1.1 ≠ rlS p.s J) : (seL (stepW fit k M J)).take (k + 1) = (seL M).take (k + 1) := by
  have hkl := (List.getElem?_eq_some_iff.1 hp).1
  refine stepW_cases hp (fun N => (seL N).take (k + 1) = (seL M).take (k + 1)) (fun _ => rfl) ?_ ?_ (fun _ _ _ _ _ _ => rfl)
  · intro _ _
    rw [seL_snoc, List.take_append_of_le_length (by rw [seL_len]; omega)]
  · intro i q _ hq hs _
    rw [seL_set]
    have hik : k + 1 ≤ i := by
      rcases Nat.lt_or_ge i (k + 1) with hlt | hge
      · refine absurd hs (hnf (seOf q i) ?_)
        rw [seL_take]
        refine List.mem_iff_getElem?.2 ⟨i, ?_⟩
        rw [seL_get, List.getElem?_take, if_pos hlt, hq]
        rfl
      · exact hge
    apply List.ext_getElem?
    intro n
    rw [List.getElem?_take, List.getElem?_take]
    by_cases hn : n < k + 1
    · rw [if_pos hn, if_pos hn, List.getElem?_set_ne (by omega)]
    · rw [if_neg hn, if_neg hn]
/-- What a roll to a state that may be open does to the open routes. -/
theorem OkW.step_maps (h : OkW fit s0 k j M) (hp : M[k]? = some p) (J : Fin 4) (hok : ∀ q ∈ M, okS q.s) (hot : okS (rlS p.s J)) (hcnt : ∀ q ∈ M, q.ws.length < 2 ^ 64) (hf : fit (rlS p.s J) = true) (hnf : ∀ x ∈ (seL M).take (k + 1), x.1.1 ≠ rlS p.s J) (ob : Nat) :
    ∃ o : Rt, (∀ w', MapR w' ob ((seL M).drop (k + 1)) M.length → (Instr.lookup 65 (.map (some ob)) (St.v (rlS p.s J)) false).run Tryd.prog w' = .ok (Rt.v o) w') ∧
      ∀ w', MapR w' ob ((seL M).drop (k + 1)) M.length → (Instr.mapUpdate 65 (.map (some ob)) (St.v (rlS p.s J)) (Rt.v (joinR o ⟨wdB p.hd ++ [dirC J.val], 0, wrap64 (p.ws.length : Int)⟩))).run Tryd.prog w' = .ok () (setBlock w' ob (.map (((seL (stepW fit k M J)).drop (k + 1)).map entS).toArray (stepW fit k M J).length)) := by
  have hkl := (List.getElem?_eq_some_iff.1 hp).1
  have hpm := List.mem_of_getElem? hp
  have hL := seL_ok_drop h.nodup hok (k + 1)
  cases hi : findI M (rlS p.s J) with
  | none =>
    have hn : ∀ x ∈ (seL M).drop (k + 1), x.1.1 ≠ rlS p.s J := by
      intro x hx
      obtain ⟨i, q, hq, rfl⟩ := seL_mem ((List.drop_sublist _ _).subset hx)
      exact findI_none hi q (List.mem_of_getElem? hq)
    refine ⟨zeroR, fun w' hM => (lookS_no hL hot hM hn).2, fun w' hM => ?_⟩
    have hj0 : joinR zeroR ⟨wdB p.hd ++ [dirC J.val], 0, wrap64 (p.ws.length : Int)⟩ = ⟨wdB p.hd ++ [dirC J.val], 0, wrap64 (p.ws.length : Int)⟩ := by unfold joinR; rw [if_pos (.inl rfl)]
    rw [hj0, putS_new hL hot hM hn, stepW_new hp hf hi, seL_snoc, List.drop_append_of_le_length (by rw [seL_len]; omega)]
    have hN : rtOf ⟨rlS p.s J, extW p J, (k : Int), (J.val : Int)⟩ = ⟨wdB p.hd ++ [dirC J.val], 0, wrap64 (p.ws.length : Int)⟩ := by
      unfold rtOf
      rw [extW_hd (h.ne p hpm), wdB_snoc]
      simp [extW]
    rw [List.length_append]
    unfold seOf
    rw [hN]
    rfl
  | some i =>
    obtain ⟨q, hq, hs⟩ := findI_some hi
    have hqm := List.mem_of_getElem? hq
    have hik : k + 1 ≤ i := by
      rcases Nat.lt_or_ge i (k + 1) with hlt | hge
      · refine absurd hs (hnf (seOf q i) ?_)
        rw [seL_take]
        refine List.mem_iff_getElem?.2 ⟨i, ?_⟩
        rw [seL_get, List.getElem?_take, if_pos hlt, hq]
        rfl
      · exact hge
    have hx : ((seL M).drop (k + 1))[i - (k + 1)]? = some (seOf q i) := by
      rw [seL_drop_get, show k + 1 + (i - (k + 1)) = i by omega, hq]
      rfl
    have hnear := h.near hp q hqm
    have heff : effI ⟨wdB p.hd ++ [dirC J.val], 0, wrap64 (p.ws.length : Int)⟩ (rtOf q) = cmpI ((p.far + 1 : Nat) : Int) (q.far : Int) := by
      unfold effI
      have h0 : cmpI 0 (rtOf q).cost = 0 := rfl
      show (if cmpI 0 (rtOf q).cost ≠ 0 then _ else _) = _
      rw [h0, if_neg (by simp)]
      show cmpI ((wdB p.hd ++ [dirC J.val]).length : Int) ((wdB q.hd).length : Int) = _
      rw [List.length_append, wdB_len, wdB_len]
      rfl
    have hc0 : (rtOf q).count ≠ 0 := h.cnt hcnt q hqm
    refine ⟨rtOf q, fun w' hM => ?_, fun w' hM => ?_⟩
    · have := (lookS_yes hL hx hM).2
      rw [← hs]
      exact this
    · by_cases hd : q.far = p.far + 1
      · have hjn : joinR (rtOf q) ⟨wdB p.hd ++ [dirC J.val], 0, wrap64 (p.ws.length : Int)⟩ = rtOf ⟨q.s, q.ws ++ extW p J, q.bf, q.dr⟩ := by
          have he0 : effI ⟨wdB p.hd ++ [dirC J.val], 0, wrap64 (p.ws.length : Int)⟩ (rtOf q) = 0 := by rw [heff]; exact cmpI_zero.2 (by omega)
          unfold joinR
          rw [he0, if_neg (by simp [hc0]), if_pos rfl]
          have hhd : (Nd.mk q.s (q.ws ++ extW p J) q.bf q.dr).hd = q.hd := by
            have := h.ne q hqm
            unfold Nd.hd
            cases hw : q.ws with
            | nil => exact absurd hw this
            | cons a l => simp
          unfold rtOf
          rw [hhd]
          show (⟨wdB q.hd, 0, wrap64 (wrap64 (q.ws.length : Int) + wrap64 (p.ws.length : Int))⟩ : Rt) = _
          rw [wrap_add]
          simp [extW]
        rw [hjn, stepW_add hp hf hi hq hd, seL_set, drop_set _ _ _ _ hik, List.length_set]
        have := putS_old hL hx hM (rtOf ⟨q.s, q.ws ++ extW p J, q.bf, q.dr⟩)
        rw [← hs]
        exact this
      · have hjn : joinR (rtOf q) ⟨wdB p.hd ++ [dirC J.val], 0, wrap64 (p.ws.length : Int)⟩ = rtOf q := by
          have he1 : effI ⟨wdB p.hd ++ [dirC J.val], 0, wrap64 (p.ws.length : Int)⟩ (rtOf q) = 1 := by
            rw [heff]
            unfold cmpI
            rw [if_neg (by omega), if_pos (by omega)]
          unfold joinR
          rw [he1, if_neg (by simp [hc0]), if_neg (by decide)]
        rw [hjn, stepW_old hp hf hi hq hd]
        have := putS_old hL hx hM (rtOf q)
        rw [show ((seOf q i).1.1, rtOf q) = (seOf q i).1 from rfl, show ((seOf q i).1, (seOf q i).2) = seOf q i from rfl, set_same hx] at this
        rw [← hs]
        exact this
end
end Go.Proofs.YthdkhikkdcjifaaDoor
