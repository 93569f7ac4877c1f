/- The contract of routesOver: all states that words make, by the program's two maps. -/
import Derived.Test.YthdkhikkdcjifaaDoorFlo
import Derived.Test.YthdkhikkdcjifaaDoorRollSt
import Derived.Deep.RegionHeld3
import Derived.Deep.Cut
namespace Go.Proofs.YthdkhikkdcjifaaDoor
set_option maxRecDepth 100000
set_option linter.all false
open Go.RowKit Go.Maps Go.ChangeMaps

section
variable {w : World} {ops : Array Oper} {rest : List Oper} {o : Oper} {a : Act} {Q : Exit → Act → World → Prop}
theorem wpList_len_S (hg : o.guard = none) (m : Operand) (hop : o.op = Op.call { callee := Callee.builtin Builtin.len, args := #[m], argTypes := #[65] }) (b : Nat) (L : List SE) (c : Nat) (hm : a.eval m = .map (some b)) (h : MapR w b L c)
    (hK : wpList Tryd.prog ops Q rest (a.put o.dst (.int .i64 (L.length : Int))) w) : wpList Tryd.prog ops Q (o :: rest) a w := by
  refine wpList_plain hg fun K' hK' => ?_
  unfold Oper.wp
  simp [execOp, hop, resolve, invoke, builtin, hm, lenS h o.type, Result.andThen]
  exact hK' _ _ hK
theorem wpList_delete_S (hg : o.guard = none) (m x : Operand) (hop : o.op = Op.call { callee := Callee.builtin Builtin.delete, args := #[m, x], argTypes := #[65, 30] }) (b : Nat) (L : List SE) (c : Nat) (hL : OkL L c) (j : Nat) (y : SE) (hy : L[j]? = some y) (hm : a.eval m = .map (some b)) (hx : a.eval x = St.v y.1.1) (h : MapR w b L c)
    (hK : wpList Tryd.prog ops Q rest (a.put o.dst (.tuple #[])) (setBlock w b (.map ((L.eraseIdx j).map entS).toArray c))) : wpList Tryd.prog ops Q (o :: rest) a w := by
  refine wpList_plain hg fun K' hK' => ?_
  unfold Oper.wp
  simp [execOp, hop, resolve, invoke, builtin, hm, hx, delS_yes hL hy h o.type, Result.andThen]
  exact hK' _ _ hK
theorem wpList_put_S (hg : o.guard = none) (m x v : Operand) (hop : o.op = Op.mapUpdate 65 m x v) (b : Nat) (s : St) (r : Rt) (w' : World) (hm : a.eval m = .map (some b)) (hx : a.eval x = St.v s) (hv : a.eval v = Rt.v r) (h : (Instr.mapUpdate 65 (.map (some b)) (St.v s) (Rt.v r)).run Tryd.prog w = .ok () w')
    (hK : wpList Tryd.prog ops Q rest (a.put o.dst undef) w') : wpList Tryd.prog ops Q (o :: rest) a w := by
  refine wpList_plain hg fun K' hK' => ?_
  unfold Oper.wp
  simp [execOp, hop, hm, hx, hv, h, Result.andThen]
  exact hK' _ _ hK
theorem wpList_look_S (hg : o.guard = none) (m x : Operand) (ok : Bool) (hop : o.op = Op.lookup 65 m x ok) (b : Nat) (s : St) (v : Value) (hm : a.eval m = .map (some b)) (hx : a.eval x = St.v s) (h : (Instr.lookup 65 (.map (some b)) (St.v s) ok).run Tryd.prog w = .ok v w)
    (hK : wpList Tryd.prog ops Q rest (a.put o.dst v) w) : wpList Tryd.prog ops Q (o :: rest) a w := by
  refine wpList_plain hg fun K' hK' => ?_
  unfold Oper.wp
  simp [execOp, hop, hm, hx, h, Result.andThen]
  exact hK' _ _ hK
end
theorem dslR : ∀ {k : Nat} (_ : k < 4) (wx : World), (Instr.slice 9 (.string ⟨#[110, 101, 115, 119]⟩) (some (.int .i64 (k : Int))) (some (.int .i64 ((k : Int) + 1))) none).run Tryd.prog wx = .ok (.string ⟨#[dirC k]⟩) wx
  | 0, _, _ => by kernel_rfl
  | 1, _, _ => by kernel_rfl
  | 2, _, _ => by kernel_rfl
  | 3, _, _ => by kernel_rfl
theorem addR (u : List UInt8) (c : UInt8) (h : u.length ≤ 1000) (wx : World) : (Op.stringOp .add ⟨u.toArray⟩ ⟨#[c]⟩).run Tryd.prog wx = .ok (.string ⟨(u ++ [c]).toArray⟩) wx := by
  have e : (⟨u.toArray⟩ : ByteArray) ++ ⟨#[c]⟩ = ⟨(u ++ [c]).toArray⟩ := by
    apply ByteArray.ext
    simp
  rw [run_string_add_sum wx _ _ (by simp [ByteArray.size]; omega), e]
theorem freeRoll_any (s : St) (w : World) : Calls Tryd.prog 48 #[St.v s] w fun e w' => e = .returned (.int .i64 0) ∧ Below w.heap.size w w' := by
  go_enter Tryd.func48, Tryd.ntmps48
  go_wp2
  go_returns
  exact ⟨rfl, by go_grown⟩

/-- What holds at each head: the maps are what has been left and what is open. -/
structure RoI (w : World) (m : Nat) (M : List Nd) (wr : World) : Prop where
  rt : MapR wr (w.heap.size + 1) ((seL M).take m) m
  op : MapR wr (w.heap.size + 2) ((seL M).drop m) M.length
  below : Below w.heap.size w wr
theorem RoI.to {w wr w0 w1 : World} {m : Nat} {M : List Nd} (hb : Below w0.heap.size w0 w1) (h : RoI w m M wr) (e : w0.heap = wr.heap) (e1 : w0.os = wr.os) (e2 : w0.tape = wr.tape) (e3 : w0.output = wr.output) : RoI w m M w1 :=
  ⟨mapR_to hb h.rt e, mapR_to hb h.op e, below_to hb h.below h.below.size e e1 e2 e3⟩
theorem RoI.drew {w wr : World} {m : Nat} {M : List Nd} (h : RoI w m M wr) : RoI w m M wr.drew := ⟨h.rt, h.op, h.below.drew⟩
theorem belowSet {B b : Nat} {a w : World} {o : Obj} (h : Below B a w) (hs : B ≤ w.heap.size) (hb : B ≤ b) : Below B a (setBlock w b o) := h.grown setB_grown hs (fun k hk => by cases hk; exact hb)
theorem isS_set {w : World} {b b' : Nat} {s : St} {ty : TypeId} {o : Obj} (h : IsS w b s ty) (hne : b' ≠ b) : IsS (setBlock w b' o) b s ty := by
  unfold IsS setBlock at *
  rw [Array.getElem?_setIfInBounds_ne hne]
  exact h
theorem isR_set {w : World} {b b' : Nat} {r : Rt} {o : Obj} (h : IsR w b r) (hne : b' ≠ b) : IsR (setBlock w b' o) b r := by
  unfold IsR setBlock at *
  rw [Array.getElem?_setIfInBounds_ne hne]
  exact h
/-- .. within a round: the state and its route. -/
structure RoN (w : World) (m : Nat) (M : List Nd) (F G : Nat) (u : St) (ru : Rt) (wr : World) : Prop where
  i : RoI w m M wr
  st : IsS wr F u 30
  rr : IsR wr G ru
theorem RoN.to {w wr w0 w1 : World} {m : Nat} {M : List Nd} {F G : Nat} {u : St} {ru : Rt} (hb : Below w0.heap.size w0 w1) (h : RoN w m M F G u ru wr) (e : w0.heap = wr.heap) (e1 : w0.os = wr.os) (e2 : w0.tape = wr.tape) (e3 : w0.output = wr.output) : RoN w m M F G u ru w1 :=
  ⟨h.i.to hb e e1 e2 e3, isS_to hb h.st e, isR_to hb h.rr e⟩
theorem RoN.alloc {w wr : World} {m : Nat} {M : List Nd} {F G : Nat} {u : St} {ru : Rt} (h : RoN w m M F G u ru wr) (o : Obj) : RoN w m M F G u ru (wr.alloc o) := h.to (w0 := wr) ((Below.refl _ _).alloc (Nat.le_refl _) _) rfl rfl rfl rfl
theorem ro_cutA {w wr w2 : World} {m : Nat} {M : List Nd} {F G : Nat} {u r : St} {ru : Rt} (T : RoN w m M F G u ru wr)
    (hb : Below (wr.alloc (.cells #[.int .i64 0, .int .i64 0, .int .i64 0, .int .i64 0, .int .i64 0, .int .i64 0, .int .i64 0, .int .i64 0] 30)).drew.heap.size (wr.alloc (.cells #[.int .i64 0, .int .i64 0, .int .i64 0, .int .i64 0, .int .i64 0, .int .i64 0, .int .i64 0, .int .i64 0] 30)).drew w2) (N : IsS w2 wr.heap.size ⟨0, 0, ⟨0, 0, 0, 0, 0, 0⟩⟩ 30) : IsS ((((((((w2.setCell ⟨wr.heap.size, 0, none⟩ (.int .i64 r.x)).setCell ⟨wr.heap.size, 1, none⟩ (.int .i64 r.y)).setCell ⟨wr.heap.size, 2, none⟩ (.int .i64 r.d.t)).setCell ⟨wr.heap.size, 3, none⟩ (.int .i64 r.d.n)).setCell ⟨wr.heap.size, 4, none⟩ (.int .i64 r.d.e)).setCell ⟨wr.heap.size, 5, none⟩ (.int .i64 r.d.s)).setCell ⟨wr.heap.size, 6, none⟩ (.int .i64 r.d.w)).setCell ⟨wr.heap.size, 7, none⟩ (.int .i64 r.d.b)) wr.heap.size r 30 ∧ wr.heap.size ≤ wr.heap.size ∧ RoN w m M F G u ru ((((((((w2.setCell ⟨wr.heap.size, 0, none⟩ (.int .i64 r.x)).setCell ⟨wr.heap.size, 1, none⟩ (.int .i64 r.y)).setCell ⟨wr.heap.size, 2, none⟩ (.int .i64 r.d.t)).setCell ⟨wr.heap.size, 3, none⟩ (.int .i64 r.d.n)).setCell ⟨wr.heap.size, 4, none⟩ (.int .i64 r.d.e)).setCell ⟨wr.heap.size, 5, none⟩ (.int .i64 r.d.s)).setCell ⟨wr.heap.size, 6, none⟩ (.int .i64 r.d.w)).setCell ⟨wr.heap.size, 7, none⟩ (.int .i64 r.d.b)) := by
  have hb8 : Below wr.heap.size wr ((((((((w2.setCell ⟨wr.heap.size, 0, none⟩ (.int .i64 r.x)).setCell ⟨wr.heap.size, 1, none⟩ (.int .i64 r.y)).setCell ⟨wr.heap.size, 2, none⟩ (.int .i64 r.d.t)).setCell ⟨wr.heap.size, 3, none⟩ (.int .i64 r.d.n)).setCell ⟨wr.heap.size, 4, none⟩ (.int .i64 r.d.e)).setCell ⟨wr.heap.size, 5, none⟩ (.int .i64 r.d.s)).setCell ⟨wr.heap.size, 6, none⟩ (.int .i64 r.d.w)).setCell ⟨wr.heap.size, 7, none⟩ (.int .i64 r.d.b)) := below_set8 (below_to hb ((Below.refl wr.heap.size wr).alloc (Nat.le_refl _) (.cells #[.int .i64 0, .int .i64 0, .int .i64 0, .int .i64 0, .int .i64 0, .int .i64 0, .int .i64 0, .int .i64 0] 30)) (by simp) rfl rfl rfl rfl) (Nat.le_refl _) r
  exact ⟨N.set8 r, Nat.le_refl _, T.to hb8 rfl rfl rfl rfl⟩
theorem ro_cutB {w wr w2 : World} {m : Nat} {M : List Nd} {F G : Nat} {u r : St} {ru : Rt} (T : RoN w m M F G u ru wr)
    (hb : Below wr.drew.heap.size wr.drew w2) : IsS (w2.alloc (.cells #[.int .i64 r.x, .int .i64 r.y, .int .i64 r.d.t, .int .i64 r.d.n, .int .i64 r.d.e, .int .i64 r.d.s, .int .i64 r.d.w, .int .i64 r.d.b] 30)) w2.heap.size r 30 ∧ wr.heap.size ≤ w2.heap.size ∧ RoN w m M F G u ru (w2.alloc (.cells #[.int .i64 r.x, .int .i64 r.y, .int .i64 r.d.t, .int .i64 r.d.n, .int .i64 r.d.e, .int .i64 r.d.s, .int .i64 r.d.w, .int .i64 r.d.b] 30)) :=
  ⟨IsS.new, hb.size, (T.to (w0 := wr.drew) hb rfl rfl rfl rfl).alloc _⟩
/-- How many states have been left. -/
def clockOf (w : World) (b : Nat) : Nat := match w.heap[b]? with
  | some (.map _ c) => c
  | _ => 0
theorem clock_of {w : World} {b : Nat} {L : List SE} {c : Nat} (h : MapR w b L c) : clockOf w b = c := by
  unfold clockOf
  unfold MapR at h
  rw [h]

set_option maxHeartbeats 6400000 in
theorem routesOver_any (bs : ByteArray) (h cb : Nat) (hbz : bs.size ≤ 1048576) (hbd : isBd bs.data.toList = true) (s0 : St) (hgd : goodB s0.d = true) (hs : flAt bs.data.toList s0 = true) (w : World) (hc : CloF w cb h bs) :
    Calls Tryd.prog 75 #[St.v s0, (.func (.func 102) #[] #[.pointer (some ⟨cb, 0, none⟩)]), (.func (.func 48) #[] #[])] w fun e w' => ∃ rb, e = .returned (.map (some rb)) ∧ w.heap.size ≤ rb ∧ MapR w' rb (seL (wyL (flAt bs.data.toList) s0)) (wyL (flAt bs.data.toList) s0).length ∧ Below w.heap.size w w' := by
  have HF := hide (fitOk_board hbd hs hgd)
  have HFL := hide (fun (s : St) (wx : World) (hx : CloF wx cb h bs) => floorOn1_any bs h cb hbz hbd s wx hx)
  have HC := hide (fun (wx : World) (hx : Below w.heap.size w wx) => cloF_block (cloF_lt hc) hx hc)
  generalize hfit : flAt bs.data.toList = fit at HF HFL hs ⊢
  clear hfit hbz hbd hgd hc
  have hmm := @run_makeMap Tryd.prog
  have hok0 : okS s0 := (HF.out.oks 0 0 (by omega) ⟨s0, [[]], -1, 0⟩ (by show _ ∈ startW s0; simp [startW])).1
  have S0 : IsS ((w.alloc (.cells #[.int .i64 s0.x, .int .i64 s0.y, .int .i64 s0.d.t, .int .i64 s0.d.n, .int .i64 s0.d.e, .int .i64 s0.d.s, .int .i64 s0.d.w, .int .i64 s0.d.b] 30)).alloc (.map #[] 0)) w.heap.size s0 30 := (IsS.new (s := s0)).alloc _
  have S1 := S0.alloc (.map #[] 0)
  have M1 : MapR ((w.alloc (.cells #[.int .i64 s0.x, .int .i64 s0.y, .int .i64 s0.d.t, .int .i64 s0.d.n, .int .i64 s0.d.e, .int .i64 s0.d.s, .int .i64 s0.d.w, .int .i64 s0.d.b] 30)).alloc (.map #[] 0)) (w.alloc (.cells #[.int .i64 s0.x, .int .i64 s0.y, .int .i64 s0.d.t, .int .i64 s0.d.n, .int .i64 s0.d.e, .int .i64 s0.d.s, .int .i64 s0.d.w, .int .i64 s0.d.b] 30)).heap.size [] 0 := (MapKept.heap_alloc (w.alloc (.cells #[.int .i64 s0.x, .int .i64 s0.y, .int .i64 s0.d.t, .int .i64 s0.d.n, .int .i64 s0.d.e, .int .i64 s0.d.s, .int .i64 s0.d.w, .int .i64 s0.d.b] 30)) (.map #[] 0)).1
  have M2 : MapR (((w.alloc (.cells #[.int .i64 s0.x, .int .i64 s0.y, .int .i64 s0.d.t, .int .i64 s0.d.n, .int .i64 s0.d.e, .int .i64 s0.d.s, .int .i64 s0.d.w, .int .i64 s0.d.b] 30)).alloc (.map #[] 0)).alloc (.map #[] 0)) ((w.alloc (.cells #[.int .i64 s0.x, .int .i64 s0.y, .int .i64 s0.d.t, .int .i64 s0.d.n, .int .i64 s0.d.e, .int .i64 s0.d.s, .int .i64 s0.d.w, .int .i64 s0.d.b] 30)).alloc (.map #[] 0)).heap.size [] 0 := (MapKept.heap_alloc _ (.map #[] 0)).1
  simp only [World.size_alloc] at M1 M2
  have M3 := M1.alloc (.map #[] 0)
  have q0 : Below w.heap.size w (((w.alloc (.cells #[.int .i64 s0.x, .int .i64 s0.y, .int .i64 s0.d.t, .int .i64 s0.d.n, .int .i64 s0.d.e, .int .i64 s0.d.s, .int .i64 s0.d.w, .int .i64 s0.d.b] 30)).alloc (.map #[] 0)).alloc (.map #[] 0)) := by go_grown
  clear S0 M1
  go_enter Tryd.func75, Tryd.ntmps75
  go_upto_region 3 with (fail)
  generalize ((w.alloc (.cells #[.int .i64 s0.x, .int .i64 s0.y, .int .i64 s0.d.t, .int .i64 s0.d.n, .int .i64 s0.d.e, .int .i64 s0.d.s, .int .i64 s0.d.w, .int .i64 s0.d.b] 30)).alloc (.map #[] 0)).alloc (.map #[] 0) = W0 at S1 M2 M3 q0 ⊢
  clear hmm
  obtain ⟨l0, ⟨a0, a1, a2, a3, a4, a5, a6, a7⟩, -⟩ := S1.all
  go_wp2_with (go_at_call 102; fail)
  refine (HFL.out s0 _ (HC.out _ q0)).mono ?_
  rintro e w1 ⟨rfl, hb1⟩
  rw [hs]
  have q1 := below_to hb1 q0 q0.size rfl rfl rfl rfl
  have N2 := mapR_to hb1 M2 rfl
  have N3 := mapR_to hb1 M3 rfl
  have N1 := isS_to hb1 S1 rfl
  clear hb1 S1 M2 M3 q0 a0 a1 a2 a3 a4 a5 a6 a7 l0
  have HP := hide (putS_new (OkL.nil 0) hok0 N2 (by simp) (Rt.mk [] 0 1))
  have I0 : RoI w 0 (runW fit s0 0) (setBlock w1 (w.heap.size + 1 + 1) (.map ((([] : List SE) ++ [((s0, Rt.mk [] 0 1), 0)]).map entS).toArray (0 + 1))) := by
    have h1 : (seL (startW s0)).drop 0 = ([] : List SE) ++ [((s0, Rt.mk [] 0 1), 0)] := by
      have : wrap64 (1 : Int) = 1 := by unfold wrap64; omega
      simp [seL, startW, seOf, rtOf, Nd.hd, wdB, this]
    refine ⟨?_, ?_, ?_⟩
    · show MapR _ _ [] 0
      exact N3.set _ (by omega)
    · show MapR _ _ ((seL (startW s0)).drop 0) 1
      rw [h1]
      exact mapR_set N2
    · exact belowSet q1 q1.size (by omega)
  obtain ⟨l0, ⟨a0, a1, a2, a3, a4, a5, a6, a7⟩, -⟩ := N1.all
  go_wp2_with (at_mapUpdate; refine wpList_put_S rfl _ _ _ rfl (w.heap.size + 1 + 1) s0 (Rt.mk [] 0 1) _ rfl rfl rfl HP.out ?_)
  generalize setBlock w1 (w.heap.size + 1 + 1) (.map ((([] : List SE) ++ [((s0, Rt.mk [] 0 1), 0)]).map entS).toArray (0 + 1)) = w2 at I0 ⊢
  clear HP N1 N2 N3 q1 a0 a1 a2 a3 a4 a5 a6 a7 l0 hok0
  go_frame
  go_loopw [24] (fun _ wr => ∃ k : Nat, k ≤ (runW fit s0 k).length ∧ RoI w k (runW fit s0 k) wr) (fun _ wr => 1000 - clockOf wr (w.heap.size + 1))
  case atStart => exact ⟨0, Nat.zero_le _, I0⟩
  case round =>
    clear I0
    obtain ⟨k, hk, hI⟩ := hrel
    have hlen : (runW fit s0 k).length ≤ 900 := HF.out.len k 0 (by omega)
    have HOK := hide (runW_ok fit s0 k)
    generalize hM : runW fit s0 k = M at hI hk hlen HOK
    have HM := hide hM
    clear hM
    by_cases hlt : k < M.length
    · have hp : M[k]? = some (M[k]'hlt) := List.getElem?_eq_getElem hlt
      generalize M[k]'hlt = p at hp
      have HP := hide hp
      have hcm : ∀ q ∈ M, q.ws.length < 2 ^ 64 := by
        have := (grow_all fit s0 (n := k) (j := 0) (by omega) (by omega)).counts HF.out.cnt
        rw [HM.out] at this
        exact this
      have hoks : ∀ q ∈ M, okS q.s := fun q hq => (HF.out.oks k 0 (by omega) q (by rw [HM.out]; exact hq)).1
      have HD := hide (seL_ok_drop HOK.out.nodup hoks k)
      have HT := hide (seL_ok_take HOK.out.nodup hoks hk)
      have HB := hide (bestRoute_any (w.heap.size + 1 + 1) ((seL M).drop k) M.length HD.out (fun x hx => by
        obtain ⟨i, q, hq, rfl⟩ := seL_mem ((List.drop_sublist _ _).subset hx)
        exact HOK.out.cnt hcm q (List.mem_of_getElem? hq)) (fun x hx => by
        obtain ⟨i, q, hq, rfl⟩ := seL_mem ((List.drop_sublist _ _).subset hx)
        exact HOK.out.wd (by omega) q (List.mem_of_getElem? hq)))
      have HLE := hide (HOK.out.least hp)
      have HG0 := hide (show ((seL M).drop k)[0]? = some (seOf p k) by rw [seL_drop_get, Nat.add_zero, hp]; rfl)
      have HNT := hide (show ∀ x ∈ (seL M).take k, x.1.1 ≠ p.s by
        intro x hx e
        rw [seL_take] at hx
        obtain ⟨i, q, hq, rfl⟩ := seL_mem hx
        rw [List.getElem?_take] at hq
        by_cases hik : i < k
        · rw [if_pos hik] at hq
          have := nodup_at HOK.out.nodup hq hp e
          omega
        · rw [if_neg hik] at hq; cases hq)
      have HTK := hide (show (seL M).take (k + 1) = (seL M).take k ++ [seOf p k] by
        rw [List.take_succ, seL_get, hp]; rfl)
      have hdp : (0 : Int) < ((((seL M).drop k).length : Nat) : Int) := by rw [List.length_drop, seL_len]; omega
      have HOU := hide (hoks p (List.mem_of_getElem? hp))
      have HSO := hide (show seOf p k = ((p.s, rtOf p), k) from rfl)
      rw [HSO.out] at HG0 HTK HLE
      have HU := hide (show p.s = p.s from rfl)
      have HRU := hide (show rtOf p = rtOf p from rfl)
      obtain ⟨u, hu⟩ : ∃ u, u = p.s := ⟨_, rfl⟩
      obtain ⟨ru, hru⟩ : ∃ ru, ru = rtOf p := ⟨_, rfl⟩
      rw [← hu, ← hru] at HG0 HTK HLE
      rw [← hu] at HNT HOU
      have HU := hide hu
      have HRU := hide hru
      clear hu hru hp hcm hoks HSO
      generalize hdl : ((((seL M).drop k).length : Nat) : Int) = dl at hdp
      have HDL := hide hdl
      clear hdl
      go_wp2_with (first | (at_len; refine wpList_len_S rfl _ rfl (w.heap.size + 1 + 1) _ _ rfl hI.op ?_; rw [HDL.out]) | (go_at_call 84; fail))
      refine (HB.out _ hI.op).mono ?_
      rintro e w3 ⟨s', r', rfl, -, hle, hb3⟩
      obtain ⟨e1, e2⟩ := hle _ HLE.out
      have e1' : s' = u := e1
      have e2' : r' = ru := e2
      subst e1'
      subst e2'
      clear e1 e2 hle
      have I3 := hI.to hb3 rfl rfl rfl rfl
      have HCK := hide (clock_of hI.rt)
      clear hb3 hI HB
      have NS : IsS ((w3.alloc (.cells #[.int .i64 s'.x, .int .i64 s'.y, .int .i64 s'.d.t, .int .i64 s'.d.n, .int .i64 s'.d.e, .int .i64 s'.d.s, .int .i64 s'.d.w, .int .i64 s'.d.b] 30)).alloc (.cells #[.string ⟨r'.word.toArray⟩, .int .i64 r'.cost, .int .i64 r'.count] 73)) w3.heap.size s' 30 := (IsS.new (s := s')).alloc _
      have NR : IsR ((w3.alloc (.cells #[.int .i64 s'.x, .int .i64 s'.y, .int .i64 s'.d.t, .int .i64 s'.d.n, .int .i64 s'.d.e, .int .i64 s'.d.s, .int .i64 s'.d.w, .int .i64 s'.d.b] 30)).alloc (.cells #[.string ⟨r'.word.toArray⟩, .int .i64 r'.cost, .int .i64 r'.count] 73)) (w3.alloc (.cells #[.int .i64 s'.x, .int .i64 s'.y, .int .i64 s'.d.t, .int .i64 s'.d.n, .int .i64 s'.d.e, .int .i64 s'.d.s, .int .i64 s'.d.w, .int .i64 s'.d.b] 30)).heap.size r' := IsR.new
      simp only [World.size_alloc] at NR
      have N4 : RoN w k M w3.heap.size (w3.heap.size + 1) s' r' ((w3.alloc (.cells #[.int .i64 s'.x, .int .i64 s'.y, .int .i64 s'.d.t, .int .i64 s'.d.n, .int .i64 s'.d.e, .int .i64 s'.d.s, .int .i64 s'.d.w, .int .i64 s'.d.b] 30)).alloc (.cells #[.string ⟨r'.word.toArray⟩, .int .i64 r'.cost, .int .i64 r'.count] 73)) := ⟨I3.to (w0 := w3) (by go_grown) rfl rfl rfl rfl, NS, NR⟩
      have hge : w.heap.size + 2 < w3.heap.size := I3.op.lt
      go_upto_region 7 with (fail)
      generalize (w3.alloc (.cells #[.int .i64 s'.x, .int .i64 s'.y, .int .i64 s'.d.t, .int .i64 s'.d.n, .int .i64 s'.d.e, .int .i64 s'.d.s, .int .i64 s'.d.w, .int .i64 s'.d.b] 30)).alloc (.cells #[.string ⟨r'.word.toArray⟩, .int .i64 r'.cost, .int .i64 r'.count] 73) = w4 at N4 ⊢
      clear NS NR I3
      generalize w3.heap.size = F at hge N4 ⊢
      obtain ⟨l0, ⟨a0, a1, a2, a3, a4, a5, a6, a7⟩, -⟩ := N4.st.all
      go_upto_region 8 with (at_delete; refine wpList_delete_S rfl _ _ rfl (w.heap.size + 1 + 1) ((seL M).drop k) M.length HD.out 0 ((s', r'), k) HG0.out rfl rfl N4.i.op ?_)
      have S5 := isS_set (o := .map ((((seL M).drop k).eraseIdx 0).map entS).toArray M.length) N4.st (show w.heap.size + 1 + 1 ≠ F by omega)
      have R5 := isR_set (o := .map ((((seL M).drop k).eraseIdx 0).map entS).toArray M.length) N4.rr (show w.heap.size + 1 + 1 ≠ F + 1 by omega)
      have T5 := N4.i.rt.set (.map ((((seL M).drop k).eraseIdx 0).map entS).toArray M.length) (show w.heap.size + 1 + 1 ≠ w.heap.size + 1 by omega)
      have O5 := mapR_set (M := ((seL M).drop k).eraseIdx 0) (c' := M.length) N4.i.op
      have B5 := belowSet (o := .map ((((seL M).drop k).eraseIdx 0).map entS).toArray M.length) N4.i.below N4.i.below.size (show w.heap.size ≤ w.heap.size + 1 + 1 by omega)
      have hle5 : F + 1 < (setBlock w4 (w.heap.size + 1 + 1) (.map ((((seL M).drop k).eraseIdx 0).map entS).toArray M.length)).heap.size := R5.lt
      clear N4 a0 a1 a2 a3 a4 a5 a6 a7 l0
      generalize setBlock w4 (w.heap.size + 1 + 1) (.map ((((seL M).drop k).eraseIdx 0).map entS).toArray M.length) = w5 at S5 R5 T5 O5 B5 hle5 ⊢
      have O6 : MapR w5 (w.heap.size + 1 + 1) ((seL M).drop (k + 1)) M.length := by
        have he : ((seL M).drop k).eraseIdx 0 = (seL M).drop (k + 1) := by
          rw [List.eraseIdx_zero, List.tail_drop]
        rw [he] at O5
        exact O5
      clear O5
      have HPUT := hide (putS_new HT.out HOU.out T5 HNT.out r')
      have N6 : RoN w (k + 1) M F (F + 1) s' r' (setBlock w5 (w.heap.size + 1) (.map (((seL M).take k ++ [((s', r'), k)]).map entS).toArray (k + 1))) := by
        refine ⟨⟨?_, ?_, ?_⟩, ?_, ?_⟩
        · rw [HTK.out]
          exact mapR_set T5
        · exact O6.set _ (by omega)
        · exact belowSet B5 B5.size (by omega)
        · exact isS_set S5 (by omega)
        · exact isR_set R5 (by omega)
      obtain ⟨l0, ⟨a0, a1, a2, a3, a4, a5, a6, a7⟩, -⟩ := S5.all
      obtain ⟨l1, ⟨b0, b1, b2⟩, -⟩ := R5.all
      go_upto_region 9 with (at_mapUpdate; refine wpList_put_S rfl _ _ _ rfl (w.heap.size + 1) s' r' _ rfl rfl rfl HPUT.out ?_)
      generalize setBlock w5 (w.heap.size + 1) (.map (((seL M).take k ++ [((s', r'), k)]).map entS).toArray (k + 1)) = w6 at N6 ⊢
      clear S5 R5 T5 O6 B5 hle5 HPUT a0 a1 a2 a3 a4 a5 a6 a7 l0 b0 b1 b2 l1 HT HD HNT HTK HG0 HLE w4 w5 w3
      go_wp2_with fail
      go_loopw [37] (fun i wi => ∃ j : Nat, j ≤ 4 ∧ i = .int .i64 (j : Int) ∧ RoN w (k + 1) (stepsW fit k M j) F (F + 1) s' r' wi) (fun i _ => 4 - (intOf i).toNat)
      case atStart => exact ⟨0, by omega, rfl, N6⟩
      case round =>
        clear N6
        obtain ⟨j, hj, rfl, hN⟩ := hrel
        have HSTP := hide ((HOK.out).steps HP.out j hj)
        have HSUC := hide (show ∀ h4 : j < 4, stepsW fit k M (j + 1) = stepW fit k (stepsW fit k M j) ⟨j, h4⟩ from fun h4 => by
          rw [stepsW.eq_2, dif_pos h4])
        have hlenN : (stepsW fit k M j).length ≤ 900 := by
          have := HF.out.len k j hj
          rw [HM.out] at this
          exact this
        have HOKS := hide (show ∀ q ∈ stepsW fit k M j, okS q.s ∧ ∀ J, okS (rlS q.s J) from fun q hq => HF.out.oks k j hj q (by rw [HM.out]; exact hq))
        have HCNT := hide (show ∀ q ∈ stepsW fit k M j, q.ws.length < 2 ^ 64 by
          have := (grow_all fit s0 (n := k) (j := j) (by omega) hj).counts HF.out.cnt
          rw [HM.out] at this
          exact this)
        by_cases hj4 : j < 4
        · generalize hN2 : stepsW fit k M j = N at hN HSTP HSUC hlenN HOKS HCNT
          have HN2 := hide hN2
          clear hN2
          obtain ⟨hox, hoy, hog⟩ := HOU.out
          have hdx := dixT hj4
          obtain ⟨r, hr⟩ : ∃ r, r = rlS p.s ⟨j, hj4⟩ := ⟨_, rfl⟩
          have HRR := hide hr
          have HF0 := hide (show ∀ wx : World, Calls Tryd.prog 100 #[St.v s', .int .u8 ((dirC j).toNat : Int)] wx fun e w' => e = .returned (St.v r) ∧ Below wx.heap.size wx w' from fun wx => by
            have h1 := rolledS_any (dirC j) s' wx (by rw [dirC_ix j hj4]; omega) hox hoy
            rw [dirC_ix j hj4, HU.out] at h1
            rw [hr, HU.out]
            exact h1)
          clear hr hox hoy hog
          have HOR := hide (show okS r from by
            rw [HRR.out]
            exact (HOKS.out p (List.mem_of_getElem? HSTP.out.2)).2 _)
          have HN := hide hN
          obtain ⟨l0, ⟨a0, a1, a2, a3, a4, a5, a6, a7⟩, -⟩ := HN.out.st.all
          clear hN
          have hji : (j : Int) < 4 := by omega
          go_upto_region 12 with (fail)
          go_cut [12] from 38 to 84 (fun pp wx => ∃ bb, pp = .pointer (some ⟨bb, 0, none⟩) ∧ IsS wx bb r 30 ∧ wr.heap.size ≤ bb ∧ RoN w (k + 1) N F (F + 1) s' r' wx)
          case first =>
            go_region_held3 (fun w' => w'.cell? ⟨F, 0, none⟩ = some (.int .i64 s'.x) ∧ w'.cell? ⟨F, 1, none⟩ = some (.int .i64 s'.y) ∧ w'.cell? ⟨F, 2, none⟩ = some (.int .i64 s'.d.t) ∧ w'.cell? ⟨F, 3, none⟩ = some (.int .i64 s'.d.n) ∧ w'.cell? ⟨F, 4, none⟩ = some (.int .i64 s'.d.e) ∧ w'.cell? ⟨F, 5, none⟩ = some (.int .i64 s'.d.s) ∧ w'.cell? ⟨F, 6, none⟩ = some (.int .i64 s'.d.w) ∧ w'.cell? ⟨F, 7, none⟩ = some (.int .i64 s'.d.b)) (first | (refine ⟨?_, ?_, ?_, ?_, ?_, ?_, ?_, ?_⟩ <;> with_reducible assumption) | (refine ⟨?_, ?_, ?_, ?_, ?_, ?_, ?_, ?_⟩ <;> (rw [cell_set8 (by omega)]; with_reducible assumption)) | (refine ⟨?_, ?_, ?_, ?_, ?_, ?_, ?_, ?_⟩ <;> (refine (((Below.refl _ _).alloc (Nat.le_refl _) _).cell (by first | exact l0 | exact m0)).trans ?_; with_reducible assumption)) | (refine ⟨?_, ?_, ?_, ?_, ?_, ?_, ?_, ?_⟩ <;> assumption))
              (first
                | (go_at_call 100; (refine (HF0.out _).mono ?_); rintro e w2 ⟨rfl, hb2⟩; (first | (have hA : Below (wr.alloc (.cells #[.int .i64 0, .int .i64 0, .int .i64 0, .int .i64 0, .int .i64 0, .int .i64 0, .int .i64 0, .int .i64 0] 30)).drew.heap.size (wr.alloc (.cells #[.int .i64 0, .int .i64 0, .int .i64 0, .int .i64 0, .int .i64 0, .int .i64 0, .int .i64 0, .int .i64 0] 30)).drew w2 := (by with_reducible exact hb2); have NA := isS_to hA (IsS.new (w := wr) (s := ⟨0, 0, ⟨0, 0, 0, 0, 0, 0⟩⟩) (ty := 30)) rfl; obtain ⟨l2, ⟨c0, c1, c2, c3, c4, c5, c6, c7⟩, f0, f1, f2, f3, f4, f5, f6, f7⟩ := NA.all; obtain ⟨m0, ⟨b0, b1, b2, b3, b4, b5, b6, b7⟩, -⟩ := (isS_to hA (HN.out.st.alloc (.cells #[.int .i64 0, .int .i64 0, .int .i64 0, .int .i64 0, .int .i64 0, .int .i64 0, .int .i64 0, .int .i64 0] 30)) rfl).all) | (have hB : Below wr.drew.heap.size wr.drew w2 := (by with_reducible exact hb2); obtain ⟨m0, ⟨b0, b1, b2, b3, b4, b5, b6, b7⟩, -⟩ := (isS_to hB HN.out.st rfl).all))))
            all_goals
              go_wp2_with fail
              go_meet
              refine ⟨_, rfl, ?_⟩
              first
                | (with_reducible exact (ro_cutA (r := r) HN.out hA NA))
                | (with_reducible exact (ro_cutB (r := r) HN.out hB))
          obtain ⟨bb, rfl, C1, hbb, C2⟩ := hcut
          have hob : w.heap.size + 1 + 1 < bb := by have := HN.out.i.op.lt; omega
          have hkN : k + 1 ≤ N.length := by have := (List.getElem?_eq_some_iff.1 HSTP.out.2).1; omega
          have HTK := hide (seL_ok_take HSTP.out.1.nodup (fun q hq => (HOKS.out q hq).1) hkN)
          obtain ⟨rv, fd, HLK, HFD⟩ : ∃ (rv : Rt) (fd : Bool), Hid (∀ wx, MapR wx (w.heap.size + 1) ((seL N).take (k + 1)) (k + 1) → (Instr.lookup 65 (.map (some (w.heap.size + 1))) (St.v r) true).run Tryd.prog wx = .ok (.tuple #[Rt.v rv, .bool fd]) wx) ∧ Hid ((fd = true → ∃ x ∈ (seL N).take (k + 1), x.1.1 = r) ∧ (fd = false → ∀ x ∈ (seL N).take (k + 1), x.1.1 ≠ r)) := by
            by_cases hfd : ∃ x ∈ (seL N).take (k + 1), x.1.1 = r
            · obtain ⟨x, hx, hxr⟩ := hfd
              obtain ⟨i, hi⟩ := List.mem_iff_getElem?.1 hx
              refine ⟨x.1.2, true, fun wx hm => ?_, fun _ => ⟨x, hx, hxr⟩, fun h => by cases h⟩
              rw [← hxr]
              exact (lookS_yes HTK.out hi hm).1
            · exact ⟨zeroR, false, fun wx hm => (lookS_no HTK.out HOR.out hm (fun x hx e => hfd ⟨x, hx, e⟩)).1, fun h => (by cases h), fun _ x hx e => hfd ⟨x, hx, e⟩⟩
          clear a0 a1 a2 a3 a4 a5 a6 a7 l0 hdx
          obtain ⟨l0, ⟨a0, a1, a2, a3, a4, a5, a6, a7⟩, -⟩ := C1.all
          have D1 := C1.alloc (.cells #[.string ⟨rv.word.toArray⟩, .int .i64 rv.cost, .int .i64 rv.count] 73)
          have D2 := C2.alloc (.cells #[.string ⟨rv.word.toArray⟩, .int .i64 rv.cost, .int .i64 rv.count] 73)
          go_upto_region 14 with (at_lookup; refine wpList_look_S rfl _ _ true rfl (w.heap.size + 1) r (.tuple #[Rt.v rv, .bool fd]) rfl rfl (HLK.out _ C2.i.rt) ?_)
          generalize wc.alloc (.cells #[.string ⟨rv.word.toArray⟩, .int .i64 rv.cost, .int .i64 rv.count] 73) = wd at D1 D2 ⊢
          clear a0 a1 a2 a3 a4 a5 a6 a7 l0 C1 C2 HLK HN
          have hc0 : r'.cost = 0 := by rw [HRU.out]; rfl
          obtain ⟨l0, ⟨a0, a1, a2, a3, a4, a5, a6, a7⟩, -⟩ := D1.all
          obtain ⟨l1, ⟨b0, b1, b2⟩, -⟩ := D2.rr.all
          rw [hc0] at b1
          clear b0 b2 hc0
          go_region_held3 (fun w' => w'.cell? ⟨bb, 0, none⟩ = some (.int .i64 r.x) ∧ w'.cell? ⟨bb, 1, none⟩ = some (.int .i64 r.y) ∧ w'.cell? ⟨bb, 2, none⟩ = some (.int .i64 r.d.t) ∧ w'.cell? ⟨bb, 3, none⟩ = some (.int .i64 r.d.n) ∧ w'.cell? ⟨bb, 4, none⟩ = some (.int .i64 r.d.e) ∧ w'.cell? ⟨bb, 5, none⟩ = some (.int .i64 r.d.s) ∧ w'.cell? ⟨bb, 6, none⟩ = some (.int .i64 r.d.w) ∧ w'.cell? ⟨bb, 7, none⟩ = some (.int .i64 r.d.b) ∧ w'.cell? ⟨F + 1, 1, none⟩ = some (.int .i64 0)) (first | (refine ⟨?_, ?_, ?_, ?_, ?_, ?_, ?_, ?_, ?_⟩ <;> with_reducible assumption) | (refine ⟨?_, ?_, ?_, ?_, ?_, ?_, ?_, ?_, ?_⟩ <;> assumption))
            (first
              | (go_at_call 48; (refine (freeRoll_any r _).mono ?_); rintro e w5 ⟨rfl, hb5⟩; have hB5 : Below wd.drew.heap.size wd.drew w5 := (by with_reducible exact hb5); have E1 := isS_to hB5 D1 rfl; have E2 := D2.to (w0 := wd.drew) hB5 rfl rfl rfl rfl; obtain ⟨m0, ⟨c0, c1, c2, c3, c4, c5, c6, c7⟩, -⟩ := E1.all; obtain ⟨m1, ⟨d0, d1, d2⟩, -⟩ := E2.rr.all; rw [show r'.cost = 0 from by rw [HRU.out]; rfl] at d1))
          clear a0 a1 a2 a3 a4 a5 a6 a7 l0 b1 l1 c0 c1 c2 c3 c4 c5 c6 c7 m0 d0 d1 d2 m1 D1 D2
          have hw0 : IntKind.i64.wrap 0 = 0 := by decide
          cases fd
          · have HNF := hide (HFD.out.2 rfl)
            clear HFD
            obtain ⟨l0, ⟨a0, a1, a2, a3, a4, a5, a6, a7⟩, -⟩ := E1.all
            go_wp2_with (go_at_call 102; fail)
            refine (HFL.out r _ (HC.out _ E2.i.below)).mono ?_
            rintro e w6 ⟨rfl, hb6⟩
            have C6 := isS_to hb6 E1 rfl
            have E6 := E2.to hb6 rfl rfl rfl rfl
            clear hb6 E1 E2 a0 a1 a2 a3 a4 a5 a6 a7 l0
            generalize hfr : fit r = fr
            have HFR := hide hfr
            clear hfr
            cases fr
            · have HSAME := hide (show stepsW fit k M (j + 1) = N from by
                rw [HSUC.out hj4]
                exact HSTP.out.1.step_same HSTP.out.2 _ (.inl (by rw [← HRR.out]; exact HFR.out)))
              go_wp2
              go_roundw
              case rel => exact ⟨j + 1, by omega, by go_num, by rw [HSAME.out]; exact E6⟩
              case measure => simp [intOf]; omega
            · obtain ⟨o, HLO, HUP⟩ : ∃ o : Rt, Hid (∀ w', MapR w' (w.heap.size + 1 + 1) ((seL N).drop (k + 1)) N.length → (Instr.lookup 65 (.map (some (w.heap.size + 1 + 1))) (St.v r) false).run Tryd.prog w' = .ok (Rt.v o) w') ∧
                  Hid (∀ w', MapR w' (w.heap.size + 1 + 1) ((seL N).drop (k + 1)) N.length → ∃ w8, (Instr.mapUpdate 65 (.map (some (w.heap.size + 1 + 1))) (St.v r) (Rt.v (joinR o ⟨r'.word ++ [dirC j], 0, r'.count⟩))).run Tryd.prog w' = .ok () w8 ∧ MapR w8 (w.heap.size + 1 + 1) ((seL (stepsW fit k M (j + 1))).drop (k + 1)) (stepsW fit k M (j + 1)).length ∧ w'.grownBy w8 (some (w.heap.size + 1 + 1))) := by
                obtain ⟨o, h1, h2⟩ := HSTP.out.1.step_maps HSTP.out.2 ⟨j, hj4⟩ (fun q hq => (HOKS.out q hq).1) (by rw [← HRR.out]; exact HOR.out) HCNT.out (by rw [← HRR.out]; exact HFR.out) (by rw [← HRR.out]; exact HNF.out) (w.heap.size + 1 + 1)
                rw [← HRR.out] at h1 h2
                rw [← HSUC.out hj4] at h2
                have e : (⟨r'.word ++ [dirC j], 0, r'.count⟩ : Rt) = ⟨wdB p.hd ++ [dirC j], 0, wrap64 (p.ws.length : Int)⟩ := by rw [HRU.out]; rfl
                rw [e]
                exact ⟨o, h1, fun w' hm => ⟨_, h2 w' hm, mapR_set hm, setB_grown⟩⟩
              have HJ := hide (fun wx => joinedRoutes_any o ⟨r'.word ++ [dirC j], 0, r'.count⟩ wx)
              generalize joinR o ⟨r'.word ++ [dirC j], 0, r'.count⟩ = jr at HUP HJ
              have HTK2 := hide (show (seL (stepsW fit k M (j + 1))).take (k + 1) = (seL N).take (k + 1) from by
                rw [HSUC.out hj4]
                exact HSTP.out.1.step_left HSTP.out.2 ⟨j, hj4⟩ (by rw [← HRR.out]; exact HNF.out))
              have hdsl := dslR hj4
              have w1q : IntKind.i64.wrap ((j : Int) + 1) = (j : Int) + 1 := IntWalk.i64_in _ (by omega)
              have hadd := addR r'.word (dirC j) (by
                have h1 := HSTP.out.1.far_ix k k p (Nat.le_refl _) HSTP.out.2
                have h2 : r'.word.length = p.far := by rw [HRU.out]; show (wdB p.hd).length = _; rw [wdB_len]; rfl
                omega)
              obtain ⟨l0, ⟨a0, a1, a2, a3, a4, a5, a6, a7⟩, -⟩ := C6.all
              obtain ⟨l1, ⟨b0, b1, b2⟩, -⟩ := E6.rr.all
              clear b1
              have hlk := HLO.out _ E6.i.drew.op
              go_wp2_with fail
              go_region_held3 (fun w' => w'.cell? ⟨bb, 0, none⟩ = some (.int .i64 r.x) ∧ w'.cell? ⟨bb, 1, none⟩ = some (.int .i64 r.y) ∧ w'.cell? ⟨bb, 2, none⟩ = some (.int .i64 r.d.t) ∧ w'.cell? ⟨bb, 3, none⟩ = some (.int .i64 r.d.n) ∧ w'.cell? ⟨bb, 4, none⟩ = some (.int .i64 r.d.e) ∧ w'.cell? ⟨bb, 5, none⟩ = some (.int .i64 r.d.s) ∧ w'.cell? ⟨bb, 6, none⟩ = some (.int .i64 r.d.w) ∧ w'.cell? ⟨bb, 7, none⟩ = some (.int .i64 r.d.b) ∧ w'.cell? ⟨F + 1, 0, none⟩ = some (.string ⟨r'.word.toArray⟩) ∧ w'.cell? ⟨F + 1, 2, none⟩ = some (.int .i64 r'.count)) (first | (refine ⟨?_, ?_, ?_, ?_, ?_, ?_, ?_, ?_, ?_, ?_⟩ <;> with_reducible assumption) | (refine ⟨?_, ?_, ?_, ?_, ?_, ?_, ?_, ?_, ?_, ?_⟩ <;> assumption))
                (first
                  | (go_at_call 101; (refine (HJ.out _).mono ?_); rintro e w7 ⟨rfl, hb7⟩; have hB7 : Below w6.drew.heap.size w6.drew w7 := (by with_reducible exact hb7); have C7 := isS_to hB7 C6 rfl; have E7 := E6.to (w0 := w6.drew) hB7 rfl rfl rfl rfl; obtain ⟨w8, hup7, M8, hg8⟩ := HUP.out _ E7.i.op; have C8 := C7.kept hg8 (show some bb ≠ some (w.heap.size + 1 + 1) from fun e => by injection e; omega); have R8 := E7.rr.kept hg8 (show some (F + 1) ≠ some (w.heap.size + 1 + 1) from fun e => by injection e; omega); obtain ⟨n0, ⟨i0, i1, i2, i3, i4, i5, i6, i7⟩, -⟩ := C8.all; obtain ⟨n1, ⟨j0, j1, j2⟩, -⟩ := R8.all; obtain ⟨m0, ⟨c0, c1, c2, c3, c4, c5, c6, c7⟩, -⟩ := C7.all; obtain ⟨m1, ⟨d0, d1, d2⟩, -⟩ := E7.rr.all; clear d1))
              have hr8 := E7.i.rt.kept hg8 (show some (w.heap.size + 1) ≠ some (w.heap.size + 1 + 1) from fun e => by injection e; omega)
              rw [← HTK2.out] at hr8
              have hq8 := E7.i.below.grown hg8 E7.i.below.size (fun k hk => by cases hk; omega)
              have hs8 := E7.st.kept hg8 (show some F ≠ some (w.heap.size + 1 + 1) from fun e => by injection e; omega)
              have E8 : RoN w (k + 1) (stepsW fit k M (j + 1)) F (F + 1) s' r' w8 := ⟨⟨hr8, M8, hq8⟩, hs8, R8⟩
              go_wp2
              go_roundw
              case rel => exact ⟨j + 1, by omega, by go_num, E8⟩
              case measure => simp [intOf]; omega
          · have HSAME := hide (show stepsW fit k M (j + 1) = N from by
              rw [HSUC.out hj4]
              exact HSTP.out.1.step_same HSTP.out.2 _ (.inr (by rw [← HRR.out]; exact HFD.out.1 rfl)))
            go_wp2
            go_roundw
            case rel => exact ⟨j + 1, by omega, by go_num, by rw [HSAME.out]; exact E2⟩
            case measure => simp [intOf]; omega
        · obtain rfl : j = 4 := by omega
          have hji : ¬ ((4 : Int) < 4) := by omega
          have HNX := hide (show runW fit s0 (k + 1) = stepsW fit k M 4 by show stepsW fit k (runW fit s0 k) 4 = _; rw [HM.out])
          go_wp2
          go_roundw
          case rel => exact ⟨k + 1, by rw [HNX.out]; have := (List.getElem?_eq_some_iff.1 HSTP.out.2).1; omega, by rw [HNX.out]; exact hN.i⟩
          case measure =>
            rw [clock_of hN.i.rt, HCK.out]
            omega
    · have hd : ((seL M).drop k).length = 0 := by rw [List.length_drop, seL_len]; omega
      have hd0 : ¬ ((0 : Int) < ((((seL M).drop k).length : Nat) : Int)) := by omega
      have hdi : ((((seL M).drop k).length : Nat) : Int) = 0 := by omega
      go_wp2_with (at_len; refine wpList_len_S rfl _ rfl (w.heap.size + 1 + 1) _ _ rfl hI.op ?_; rw [hdi])
      go_returns
      have hfin : wyL fit s0 = M := by
        rw [wyL_at (n := k) (by rw [HM.out]; omega) (by omega), HM.out]
      obtain rfl : k = M.length := by omega
      refine ⟨w.heap.size + 1, rfl, by omega, ?_, hI.below⟩
      rw [hfin]
      have hrt := hI.rt
      rw [List.take_of_length_le (by rw [seL_len]; exact Nat.le_refl _)] at hrt
      exact hrt
end Go.Proofs.YthdkhikkdcjifaaDoor
