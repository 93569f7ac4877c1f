/- The numbers of states, as the model gives them; the contracts of spec.wyCode and spec.wyPlace. The model's list of found states: its rows of nodes and of numbers. -/
import Derived.Test.YthdkhikkdcjifaaDoorFlo
import Derived.Test.YthdkhikkdcjifaaDoorLess
import Derived.Test.YthdkhikkdcjifaaDoorOwnK
import Derived.Test.YthdkhikkdcjifaaDoorInts
import Derived.Laws.OwnMore
import Derived.Deep.RegionLaw
namespace Go.Proofs.YthdkhikkdcjifaaDoor
set_option maxRecDepth 100000
set_option linter.all false
open Go.RowKit

def codeS (W : Nat) (s : St) : Int := 10 * (10 * (10 * (10 * (10 * (10 * (s.y * (W : Int) + s.x) + s.d.t) + s.d.n) + s.d.e) + s.d.s) + s.d.w) + s.d.b
theorem yW_bound {W : Nat} (hW : W ≤ 7) {y : Int} (hy : -100 ≤ y ∧ y ≤ 100) : -1000 ≤ y * (W : Int) ∧ y * (W : Int) ≤ 1000 := by
  have h : W = 0 ∨ W = 1 ∨ W = 2 ∨ W = 3 ∨ W = 4 ∨ W = 5 ∨ W = 6 ∨ W = 7 := by omega
  rcases h with rfl | rfl | rfl | rfl | rfl | rfl | rfl | rfl <;> simp <;> omega
/-- A state that is on a board's floor, or next to it. -/
def nearS (W : Nat) (s : St) : Prop := (0 ≤ s.x ∧ s.x < (W : Int)) ∧ (0 ≤ s.y ∧ s.y ≤ 100) ∧ goodB s.d = true
theorem code_inj {W : Nat} (hW : W ≤ 7) {s t : St} (hs : nearS W s) (ht : nearS W t) (h : codeS W s = codeS W t) : s = t := by
  obtain ⟨⟨a1, a2⟩, ⟨a3, a4⟩, hd⟩ := hs
  obtain ⟨⟨b1, b2⟩, ⟨b3, b4⟩, he⟩ := ht
  simp only [goodB, decide_eq_true_eq] at hd he
  unfold codeS at h
  have hc : s.y * (W : Int) + s.x = t.y * (W : Int) + t.x := by omega
  have h0 : s.d.t = t.d.t := by omega
  have h1 : s.d.n = t.d.n := by omega
  have h2 : s.d.e = t.d.e := by omega
  have h3 : s.d.s = t.d.s := by omega
  have h4 : s.d.w = t.d.w := by omega
  have h5 : s.d.b = t.d.b := by omega
  have hxy : s.y = t.y ∧ s.x = t.x := by
    have hW' : W = 0 ∨ W = 1 ∨ W = 2 ∨ W = 3 ∨ W = 4 ∨ W = 5 ∨ W = 6 ∨ W = 7 := by omega
    rcases hW' with rfl | rfl | rfl | rfl | rfl | rfl | rfl | rfl <;> simp at hc a2 b2 <;> omega
  exact St.ext' hxy.2 hxy.1 (D.ext' h0 h1 h2 h3 h4 h5)
/-- The place of a number in a list, counted from k. -/
def plc : List Int → Int → Nat → Int
  | [], _, _ => -1
  | a :: l, x, k => if a = x then (k : Int) else plc l x (k + 1)
theorem plc_findI {W : Nat} (hW : W ≤ 7) {t : St} (ht : nearS W t) : ∀ (M : List Nd) (k : Nat), (∀ q ∈ M, nearS W q.s) → plc (M.map (fun q => codeS W q.s)) (codeS W t) k = match findI M t with
    | some i => ((k + i : Nat) : Int)
    | none => -1
  | [], k, _ => rfl
  | q :: M, k, h => by
    have ih := plc_findI hW ht M (k + 1) (fun r hr => h r (List.mem_cons_of_mem _ hr))
    show (if codeS W q.s = codeS W t then (k : Int) else plc _ _ (k + 1)) = _
    unfold findI
    by_cases e : q.s = t
    · rw [if_pos (by rw [e]), if_pos e]
      simp
    · rw [if_neg (fun hc => e (code_inj hW (h q (by simp)) ht hc)), if_neg e, ih]
      cases findI M t with
      | none => rfl
      | some i =>
        show (((k + 1) + i : Nat) : Int) = ((k + (i + 1) : Nat) : Int)
        congr 1
        omega
set_option maxHeartbeats 1600000 in
theorem wyCode_any (W H n g cap : Nat) (hW : W ≤ 7) (s : St) (hy : -100 ≤ s.y ∧ s.y ≤ 100) (hx : -100 ≤ s.x ∧ s.x ≤ 100) (hd : goodB s.d = true) (w : World) : Calls Tryd.prog 71 #[gridV W H n g cap, St.v s] w fun e w' => e = .returned (.int .i64 (codeS W s)) ∧ Below w.heap.size w w' := by
  obtain ⟨y1, y2⟩ := yW_bound hW hy
  simp only [goodB, decide_eq_true_eq] at hd
  have HRES := hide (show codeS W s = 10 * (10 * (10 * (10 * (10 * (10 * (s.y * (W : Int) + s.x) + s.d.t) + s.d.n) + s.d.e) + s.d.s) + s.d.w) + s.d.b from rfl)
  have HEX := hide (show wrap64 (wrap64 (10 * wrap64 (wrap64 (10 * wrap64 (wrap64 (10 * wrap64 (wrap64 (10 * wrap64 (wrap64 (10 * wrap64 (wrap64 (10 * wrap64 (wrap64 (s.y * (W : Int)) + s.x)) + s.d.t)) + s.d.n)) + s.d.e)) + s.d.s)) + s.d.w)) + s.d.b) = codeS W s from by
    rw [HRES.out]
    generalize s.y * (W : Int) = yw at y1 y2
    have hin : ∀ x : Int, -9223372036854775808 ≤ x → x ≤ 9223372036854775807 → wrap64 x = x := fun x h1 h2 => by unfold wrap64; omega
    rw [hin yw (by omega) (by omega), hin (yw + s.x) (by omega) (by omega)]
    obtain ⟨o0, h0⟩ : ∃ o, o = yw + s.x := ⟨_, rfl⟩
    rw [← h0, hin (10 * o0) (by omega) (by omega), hin (10 * o0 + s.d.t) (by omega) (by omega)]
    obtain ⟨o1, h1⟩ : ∃ o, o = 10 * o0 + s.d.t := ⟨_, rfl⟩
    rw [← h1, hin (10 * o1) (by omega) (by omega), hin (10 * o1 + s.d.n) (by omega) (by omega)]
    obtain ⟨o2, h2⟩ : ∃ o, o = 10 * o1 + s.d.n := ⟨_, rfl⟩
    rw [← h2, hin (10 * o2) (by omega) (by omega), hin (10 * o2 + s.d.e) (by omega) (by omega)]
    obtain ⟨o3, h3⟩ : ∃ o, o = 10 * o2 + s.d.e := ⟨_, rfl⟩
    rw [← h3, hin (10 * o3) (by omega) (by omega), hin (10 * o3 + s.d.s) (by omega) (by omega)]
    obtain ⟨o4, h4⟩ : ∃ o, o = 10 * o3 + s.d.s := ⟨_, rfl⟩
    rw [← h4, hin (10 * o4) (by omega) (by omega), hin (10 * o4 + s.d.w) (by omega) (by omega)]
    obtain ⟨o5, h5⟩ : ∃ o, o = 10 * o4 + s.d.w := ⟨_, rfl⟩
    rw [← h5, hin (10 * o5) (by omega) (by omega), hin (10 * o5 + s.d.b) (by omega) (by omega)])
  clear HRES hd hy hx y1 y2
  generalize codeS W s = res at HEX ⊢
  have G0 := (IsG.new (w := w) (x := (W : Int)) (y := (H : Int)) (v := .slice (some ⟨g, 0, none⟩) n cap)).alloc (.cells #[.int .i64 s.x, .int .i64 s.y, .int .i64 s.d.t, .int .i64 s.d.n, .int .i64 s.d.e, .int .i64 s.d.s, .int .i64 s.d.w, .int .i64 s.d.b] 30)
  have S0 := IsS.new2 (w := w) (o := (.cells #[.int .i64 (W : Int), .int .i64 (H : Int), .slice (some ⟨g, 0, none⟩) n cap] 59)) (s := s) (ty := 30)
  have q0 : Below w.heap.size w ((w.alloc (.cells #[.int .i64 (W : Int), .int .i64 (H : Int), .slice (some ⟨g, 0, none⟩) n cap] 59)).alloc (.cells #[.int .i64 s.x, .int .i64 s.y, .int .i64 s.d.t, .int .i64 s.d.n, .int .i64 s.d.e, .int .i64 s.d.s, .int .i64 s.d.w, .int .i64 s.d.b] 30)) := by go_grown
  go_enter Tryd.func71, Tryd.ntmps71
  go_upto_region 1 with (fail)
  generalize (w.alloc (.cells #[.int .i64 (W : Int), .int .i64 (H : Int), .slice (some ⟨g, 0, none⟩) n cap] 59)).alloc (.cells #[.int .i64 s.x, .int .i64 s.y, .int .i64 s.d.t, .int .i64 s.d.n, .int .i64 s.d.e, .int .i64 s.d.s, .int .i64 s.d.w, .int .i64 s.d.b] 30) = W0 at G0 S0 q0 ⊢
  obtain ⟨lg, ⟨c0, c1, c2⟩, -⟩ := G0.all
  obtain ⟨l0, ⟨a0, a1, a2, a3, a4, a5, a6, a7⟩, -⟩ := S0.all
  go_wp2_with (go_at_call 97; fail)
  refine (diFacesB s.d _).mono ?_
  rintro e w1 ⟨b, rfl, hD, hb1⟩
  have q1 := below_to hb1 q0 q0.size rfl rfl rfl rfl
  clear hb1 G0 S0 q0 c0 c1 c2 lg a0 a1 a2 a3 a4 a5 a6 a7 l0
  obtain ⟨lb, ⟨d0, d1, d2, d3, d4, d5⟩, -⟩ := hD.all
  go_wp2_with fail
  go_rounds 7
  go_returns
  exact ⟨ret_int HEX.out, q1⟩
set_option maxHeartbeats 1600000 in
theorem wyPlace_any (gc cap : Nat) (Cs : List Int) (x : Int) (hn : Cs.length ≤ 1000) (w : World) (hc : ∀ k a, Cs[k]? = some a → w.cell? ⟨gc, k, none⟩ = some (.int .i64 a)) : Calls Tryd.prog 73 #[.slice (some ⟨gc, 0, none⟩) Cs.length cap, .int .i64 x] w fun e w' => e = .returned (.int .i64 (plc Cs x 0)) ∧ w = w' := by
  have HC := hide hc
  have HP := hide (show ∀ k (a : Int), Cs[k]? = some a → plc (Cs.drop k) x k = if a = x then (k : Int) else plc (Cs.drop (k + 1)) x (k + 1) from fun k a h => by
    have hl := (List.getElem?_eq_some_iff.1 h).1
    have hd : Cs.drop k = a :: Cs.drop (k + 1) := by
      rw [List.drop_eq_getElem_cons hl, (List.getElem?_eq_some_iff.1 h).2]
    rw [hd]
    rfl)
  have HE := hide (show plc (Cs.drop Cs.length) x Cs.length = -1 from by rw [List.drop_length]; rfl)
  obtain ⟨res, hres⟩ : ∃ r, r = plc Cs x 0 := ⟨_, rfl⟩
  rw [← hres]
  have HR := hide hres
  clear hc hres
  generalize hN : Cs.length = N at hn HE ⊢
  go_enter Tryd.func73, Tryd.ntmps73
  go_wp2
  go_loop [9, 5, 6] (fun i _ _ => ∃ k : Nat, k ≤ N ∧ i = .int .i64 (k : Int) ∧ Hid (res = plc (Cs.drop k) x k)) (fun i _ _ => N - (intOf i).toNat)
  case atStart => exact ⟨0, Nat.zero_le _, rfl, HR.out⟩
  case round =>
    obtain ⟨k, hk, rfl, hr⟩ := hrel
    by_cases hlt : k < N
    · have hki : (k : Int) < (N : Int) := by omega
      have ha : Cs[k]? = some (Cs[k]'(by omega)) := List.getElem?_eq_getElem (by omega)
      generalize Cs[k]'(by omega) = a at ha
      have a0 := HC.out k a ha
      have HS := hide (HP.out k a ha)
      clear ha
      by_cases hax : a = x
      · have e0 : (a == x) = true := by simpa using hax
        have HRES := hide (show res = (k : Int) from by rw [hr.out, HS.out, if_pos hax])
        clear hax
        go_wp2
        go_returns
        exact ⟨ret_int HRES.out.symm, rfl⟩
      · have e0 : (a == x) = false := by simpa using hax
        have HRES := hide (show res = plc (Cs.drop (k + 1)) x (k + 1) from by rw [hr.out, HS.out, if_neg hax])
        clear hax
        go_wp2
        go_round
        case rel => exact ⟨k + 1, by omega, by go_num, HRES.out⟩
        case measure => simp [intOf]; omega
    · obtain rfl : k = N := by omega
      have HRES := hide (show res = -1 from by rw [hr.out, HE.out])
      go_wp2
      go_returns
      exact ⟨ret_int HRES.out.symm, rfl⟩
end Go.Proofs.YthdkhikkdcjifaaDoor
namespace Go.Proofs.YthdkhikkdcjifaaDoor
set_option maxRecDepth 100000
set_option linter.all false
open Go.RowKit

/-- A node as it lies in memory: what has been found, and the numbers of the next ones. -/
structure WN where
  s : St
  far : Nat
  cnt : Int
  bf : Int
  dr : Int
  nx : Nat → Int
def wnC (x : WN) : List Value := [.int .i64 x.s.x, .int .i64 x.s.y, .int .i64 x.s.d.t, .int .i64 x.s.d.n, .int .i64 x.s.d.e, .int .i64 x.s.d.s, .int .i64 x.s.d.w, .int .i64 x.s.d.b, .int .i64 (x.far : Int), .int .i64 x.cnt, .int .i64 x.bf, .int .i64 x.dr, .int .i64 (x.nx 0), .int .i64 (x.nx 1), .int .i64 (x.nx 2), .int .i64 (x.nx 3)]
/-- What of a node the search has found. -/
def coreW (x : WN) : St × Nat × Int × Int × Int := (x.s, x.far, x.cnt, x.bf, x.dr)
def coreN (q : Nd) : St × Nat × Int × Int × Int := (q.s, q.far, wrap64 (q.ws.length : Int), q.bf, q.dr)
def wnL (L : List WN) : List Value := L.flatMap wnC
theorem wnC_len (x : WN) : (wnC x).length = 16 := rfl
theorem wnL_len : ∀ L : List WN, (wnL L).length = L.length * 16
  | [] => rfl
  | x :: L => by
    have ih := wnL_len L
    show (wnC x ++ wnL L).length = _
    rw [List.length_append, wnC_len, ih, List.length_cons]
    omega
theorem wnL_snoc (L : List WN) (x : WN) : wnL (L ++ [x]) = wnL L ++ wnC x := by simp [wnL]
theorem wnL_get : ∀ (L : List WN) (k : Nat) (x : WN), L[k]? = some x → ∀ i, i < 16 → (wnL L)[k * 16 + i]? = (wnC x)[i]?
  | [], _, _, h, _, _ => by simp at h
  | a :: L, 0, x, h, i, hi => by
    simp at h
    subst h
    show (wnC a ++ wnL L)[0 * 16 + i]? = _
    rw [List.getElem?_append_left (by rw [wnC_len]; omega)]
    simp
  | a :: L, k + 1, x, h, i, hi => by
    have ih := wnL_get L k x (by simpa using h) i hi
    show (wnC a ++ wnL L)[(k + 1) * 16 + i]? = _
    rw [List.getElem?_append_right (by rw [wnC_len]; omega), ← ih, wnC_len]
    congr 1
    omega
theorem wnL_set : ∀ (L : List WN) (k : Nat) (x y : WN) (i : Nat) (v : Value), L[k]? = some x → i < 16 → wnC y = (wnC x).set i v → (wnL L).set (k * 16 + i) v = wnL (L.set k y)
  | [], _, _, _, _, _, h, _, _ => by simp at h
  | a :: L, 0, x, y, i, v, h, hi, hy => by
    simp at h
    subst h
    show (wnC a ++ wnL L).set (0 * 16 + i) v = wnC y ++ wnL L
    rw [List.set_append_left _ _ (by rw [wnC_len]; omega), hy]
    simp
  | a :: L, k + 1, x, y, i, v, h, hi, hy => by
    have ih := wnL_set L k x y i v (by simpa using h) hi hy
    show (wnC a ++ wnL L).set ((k + 1) * 16 + i) v = wnC a ++ wnL (L.set k y)
    rw [List.set_append_right _ _ (by rw [wnC_len]; omega), ← ih, wnC_len]
    congr 2
    omega
def upd (f : Nat → Int) (j : Nat) (v : Int) : Nat → Int := fun i => if i = j then v else f i
theorem wnC_next (x : WN) (j : Nat) (hj : j < 4) (v : Int) : wnC ⟨x.s, x.far, x.cnt, x.bf, x.dr, upd x.nx j v⟩ = (wnC x).set (12 + j) (.int .i64 v) := by
  match j, hj with
  | 0, _ => rfl
  | 1, _ => rfl
  | 2, _ => rfl
  | 3, _ => rfl
theorem wnC_cnt (x : WN) (c : Int) : wnC ⟨x.s, x.far, c, x.bf, x.dr, x.nx⟩ = (wnC x).set 9 (.int .i64 c) := rfl
def codesV (Cs : List Int) : List Value := Cs.map (fun a => Value.int .i64 a)
theorem codesV_len (Cs : List Int) : (codesV Cs).length = Cs.length := by simp [codesV]
theorem codesV_get {Cs : List Int} {k : Nat} {a : Int} (h : Cs[k]? = some a) : (codesV Cs)[k]? = some (.int .i64 a) := by simp [codesV, h]
theorem info_node : (Tryd.prog.info? 77).map (fun i => (i.zero, i.size, i.bytes)) = some (some (.agg #[.int .i64 0, .int .i64 0, .int .i64 0, .int .i64 0, .int .i64 0, .int .i64 0, .int .i64 0, .int .i64 0, .int .i64 0, .int .i64 0, .int .i64 0, .int .i64 0, .int .i64 0, .int .i64 0, .int .i64 0, .int .i64 0]), 16, 128) := by kernel_rfl
theorem info_intW : (Tryd.prog.info? 3).map (fun i => (i.zero, i.size, i.bytes)) = some (some (.int .i64 0), 1, 8) := by kernel_rfl
/-- A row of nodes and a row of numbers lie apart. -/
theorem apart_NI {w : World} {B B' n m : Nat} {v u : Value} {xs ys : List Value} (h1 : w.ownsRow B 77 16 v n xs) (h2 : w.ownsRow B' 3 1 u m ys) : v.ownBlock = none ∨ v.ownBlock ≠ u.ownBlock := by
  rcases h1.2 with ⟨h0, _⟩ | ⟨g, cap, cur, hv, _, hh, _⟩
  · rw [h0]; exact .inl rfl
  · rcases h2.2 with ⟨h0, _⟩ | ⟨g', cap', cur', hu, _, hh', _⟩
    · rw [hv, h0]
      exact .inr (by simp [Value.ownBlock])
    · refine .inr (fun e => ?_)
      rw [hv, hu] at e
      have e' : g = g' := by simpa [Value.ownBlock] using e
      subst e'
      rw [hh] at hh'
      have := Option.some.inj hh'
      simp at this
theorem apart_NI' {w : World} {B B' n m : Nat} {v u : Value} {xs ys : List Value} (h1 : w.ownsRow B 77 16 v n xs) (h2 : w.ownsRow B' 3 1 u m ys) : u.ownBlock = none ∨ u.ownBlock ≠ v.ownBlock := by
  rcases apart_NI h1 h2 with e | e
  · rcases hu : u.ownBlock with _ | i
    · exact .inl rfl
    · rw [e]; exact .inr (by simp)
  · exact .inr (fun e' => e e'.symm)

/-- What holds at each head of the model's loops. -/
structure WyI (w : World) (g n cap W H : Nat) (fl : List UInt8) (s0 : St) (v u : Value) (L : List WN) (Cs : List Int) (wr : World) : Prop where
  row : wr.ownsRow (w.heap.size + 2) 77 16 v L.length (wnL L)
  cod : wr.ownsRow (w.heap.size + 2) 3 1 u Cs.length (codesV Cs)
  grd : IsG wr w.heap.size (W : Int) (H : Int) (.slice (some ⟨g, 0, none⟩) n cap)
  st : IsS wr (w.heap.size + 1) s0 30
  byt : BytesAt wr g fl
  below : Below w.heap.size w wr
theorem WyI.to {w wr w0 w1 : World} {g n cap W H : Nat} {fl : List UInt8} {s0 : St} {v u : Value} {L : List WN} {Cs : List Int} (hb : Below w0.heap.size w0 w1) (h : WyI w g n cap W H fl s0 v u L Cs wr) (e : w0.heap = wr.heap) (e1 : w0.os = wr.os) (e2 : w0.tape = wr.tape) (e3 : w0.output = wr.output) : WyI w g n cap W H fl s0 v u L Cs w1 :=
  ⟨own_to hb h.row e, own_to hb h.cod e, isG_to hb h.grd e, isS_to hb h.st e, bytesAt_to hb h.byt e, below_to hb h.below h.below.size e e1 e2 e3⟩
theorem WyI.alloc {w wr : World} {g n cap W H : Nat} {fl : List UInt8} {s0 : St} {v u : Value} {L : List WN} {Cs : List Int} (h : WyI w g n cap W H fl s0 v u L Cs wr) (o : Obj) : WyI w g n cap W H fl s0 v u L Cs (wr.alloc o) := h.to (w0 := wr) ((Below.refl _ _).alloc (Nat.le_refl _) _) rfl rfl rfl rfl
theorem bytes_block {w w' : World} {g : Nat} {L : List UInt8} (h : BytesAt w g L) (e : w'.heap[g]? = w.heap[g]?) : BytesAt w' g L := by
  obtain ⟨cur, h1, h2⟩ := h
  exact ⟨cur, e.trans h1, h2⟩
theorem IsG.keptW {w w1 : World} {b : Nat} {x y : Int} {v : Value} {row : Option Nat} (h : IsG w b x y v) (hg : w.grownBy w1 row) (hne : some b ≠ row) : IsG w1 b x y v := (hg.block b h.lt hne).trans h
/-- One of the two rows has turned; all else stands. -/
theorem WyI.rest {w wr w5 : World} {g n cap W H : Nat} {fl : List UInt8} {s0 : St} {v u : Value} {L : List WN} {Cs : List Int} (h : WyI w g n cap W H fl s0 v u L Cs wr) (hgl : g < w.heap.size) {k : Option Nat} (hk : ∀ i, k = some i → w.heap.size + 2 ≤ i) (hg : wr.grownBy w5 k) :
    IsG w5 w.heap.size (W : Int) (H : Int) (.slice (some ⟨g, 0, none⟩) n cap) ∧ IsS w5 (w.heap.size + 1) s0 30 ∧ BytesAt w5 g fl ∧ Below w.heap.size w w5 := by
  have ne : ∀ i, i < w.heap.size + 2 → some i ≠ k := fun i hi e => by have := hk i e.symm; omega
  exact ⟨h.grd.keptW hg (ne _ (by omega)), h.st.kept hg (ne _ (by omega)), bytes_block h.byt (hg.block g h.byt.lt (ne g (by omega))), h.below.grown hg h.below.size (fun i hi => by have := hk i hi; omega)⟩
theorem WyI.push0 {w wr w5 : World} {g n cap W H : Nat} {fl : List UInt8} {s0 : St} {v u v' : Value} {L L' : List WN} {Cs : List Int} (h : WyI w g n cap W H fl s0 v u L Cs wr) (hgl : g < w.heap.size)
    (hown : w5.ownsRow (w.heap.size + 2) 77 16 v' L'.length (wnL L')) (hg : wr.grownBy w5 v.ownBlock) : WyI w g n cap W H fl s0 v' u L' Cs w5 := by
  obtain ⟨g5, s5, y5, q5⟩ := h.rest hgl (fun i hi => (h.row.lt i hi).1) hg
  exact ⟨hown, h.cod.kept hg (apart_NI' h.row h.cod), g5, s5, y5, q5⟩
theorem WyI.push1 {w wr w5 : World} {g n cap W H : Nat} {fl : List UInt8} {s0 : St} {v u u' : Value} {L : List WN} {Cs Cs' : List Int} (h : WyI w g n cap W H fl s0 v u L Cs wr) (hgl : g < w.heap.size)
    (hown : w5.ownsRow (w.heap.size + 2) 3 1 u' Cs'.length (codesV Cs')) (hg : wr.grownBy w5 u.ownBlock) : WyI w g n cap W H fl s0 v u' L Cs' w5 := by
  obtain ⟨g5, s5, y5, q5⟩ := h.rest hgl (fun i hi => (h.cod.lt i hi).1) hg
  exact ⟨h.row.kept hg (apart_NI h.row h.cod), hown, g5, s5, y5, q5⟩
theorem grownCell (w : World) (p : Addr) (x : Value) : w.grownBy (w.setCell p x) (some p.block) :=
  have hb := (Below.refl 0 w).setCell (p := p) (Nat.zero_le _) x
  ⟨hb.os, hb.tape, hb.output, hb.size, fun i _ hne => Below.heap_setCell w p x i (fun e => hne (by rw [e]))⟩
/-- A cell of a node is stored. -/
theorem WyI.store {w wr : World} {g n cap W H g1 c1 : Nat} {fl : List UInt8} {s0 : St} {u : Value} {L : List WN} {Cs : List Int} (h : WyI w g n cap W H fl s0 (.slice (some ⟨g1, 0, none⟩) L.length c1) u L Cs wr) (hgl : g < w.heap.size)
    {k i : Nat} {x y : WN} {b : Value} (hx : L[k]? = some x) (hi : i < 16) (hy : wnC y = (wnC x).set i b) (hb1 : b.oneCell' = true) : WyI w g n cap W H fl s0 (.slice (some ⟨g1, 0, none⟩) L.length c1) u (L.set k y) Cs (wr.setCell ⟨g1, k * 16 + i, none⟩ b) := by
  have hk := (List.getElem?_eq_some_iff.1 hx).1
  refine h.push0 hgl ?_ (grownCell wr ⟨g1, k * 16 + i, none⟩ b)
  rw [List.length_set, ← wnL_set L k x y i b hx hi hy]
  exact own_put h.row (k * 16 + i) (by omega) b
/-- All that a walk asks of the two rows and the boxes. -/
theorem WyI.lts {w wr : World} {g n cap W H g1 c1 k : Nat} {fl : List UInt8} {s0 : St} {u : Value} {L : List WN} {Cs : List Int} (h : WyI w g n cap W H fl s0 (.slice (some ⟨g1, 0, none⟩) L.length c1) u L Cs wr) {q : WN} (hx : L[k]? = some q) :
    w.heap.size < wr.heap.size ∧ g1 < wr.heap.size ∧ (wr.cell? ⟨g1, k * 16, none⟩ = some (.int .i64 q.s.x) ∧ wr.cell? ⟨g1, k * 16 + 1, none⟩ = some (.int .i64 q.s.y) ∧ wr.cell? ⟨g1, k * 16 + 2, none⟩ = some (.int .i64 q.s.d.t) ∧ wr.cell? ⟨g1, k * 16 + 3, none⟩ = some (.int .i64 q.s.d.n) ∧ wr.cell? ⟨g1, k * 16 + 4, none⟩ = some (.int .i64 q.s.d.e) ∧ wr.cell? ⟨g1, k * 16 + 5, none⟩ = some (.int .i64 q.s.d.s) ∧ wr.cell? ⟨g1, k * 16 + 6, none⟩ = some (.int .i64 q.s.d.w) ∧ wr.cell? ⟨g1, k * 16 + 7, none⟩ = some (.int .i64 q.s.d.b) ∧ wr.cell? ⟨g1, k * 16 + 8, none⟩ = some (.int .i64 (q.far : Int)) ∧ wr.cell? ⟨g1, k * 16 + 9, none⟩ = some (.int .i64 q.cnt) ∧ wr.cell? ⟨g1, k * 16 + 10, none⟩ = some (.int .i64 q.bf) ∧ wr.cell? ⟨g1, k * 16 + 11, none⟩ = some (.int .i64 q.dr)) ∧ wr.cell? ⟨w.heap.size, 0, none⟩ = some (.int .i64 (W : Int)) ∧ wr.cell? ⟨w.heap.size, 1, none⟩ = some (.int .i64 (H : Int)) ∧ wr.cell? ⟨w.heap.size, 2, none⟩ = some (.slice (some ⟨g, 0, none⟩) n cap) := by
  have hk := (List.getElem?_eq_some_iff.1 hx).1
  obtain ⟨l1, ⟨b0, b1, b2⟩, -⟩ := h.grd.all
  obtain ⟨g', c', h1, -, h2⟩ := own_form h.row (by omega)
  have e : g1 = g' := by injection h1 with h1; injection h1 with h1; injection h1
  have hc : ∀ i x, i < 16 → (wnC q)[i]? = some x → wr.cell? ⟨g1, k * 16 + i, none⟩ = some x := fun i x hi hx' => (h.row.cellAt (k * 16 + i) (by omega)).trans ((wnL_get L k _ hx i hi).trans hx')
  exact ⟨l1, by rw [e]; exact h2, ⟨hc 0 _ (by omega) rfl, hc 1 _ (by omega) rfl, hc 2 _ (by omega) rfl, hc 3 _ (by omega) rfl, hc 4 _ (by omega) rfl, hc 5 _ (by omega) rfl, hc 6 _ (by omega) rfl, hc 7 _ (by omega) rfl, hc 8 _ (by omega) rfl, hc 9 _ (by omega) rfl, hc 10 _ (by omega) rfl, hc 11 _ (by omega) rfl⟩, b0, b1, b2⟩
theorem WyI.nextc {w wr : World} {g n cap W H g1 c1 k : Nat} {fl : List UInt8} {s0 : St} {u : Value} {L : List WN} {Cs : List Int} (h : WyI w g n cap W H fl s0 (.slice (some ⟨g1, 0, none⟩) L.length c1) u L Cs wr) {q : WN} (hx : L[k]? = some q) {j : Nat} (hj : j < 4) :
    wr.cell? ⟨g1, k * 16 + 12 + j, none⟩ = some (.int .i64 (q.nx j)) ∧ wr.frozen? ⟨g1, k * 16 + 12 + j, none⟩ = false := by
  have hk := (List.getElem?_eq_some_iff.1 hx).1
  refine ⟨?_, own_free h.row _⟩
  rw [Nat.add_assoc]
  refine (h.row.cellAt (k * 16 + (12 + j)) (by omega)).trans ((wnL_get L k _ hx (12 + j) (by omega)).trans ?_)
  match j, hj with
  | 0, _ => rfl
  | 1, _ => rfl
  | 2, _ => rfl
  | 3, _ => rfl
theorem WyI.codes {w wr : World} {g n cap W H g2 c2 : Nat} {fl : List UInt8} {s0 : St} {v : Value} {L : List WN} {Cs : List Int} (h : WyI w g n cap W H fl s0 v (.slice (some ⟨g2, 0, none⟩) Cs.length c2) L Cs wr) : ∀ k a, Cs[k]? = some a → wr.cell? ⟨g2, k, none⟩ = some (.int .i64 a) := by
  intro k a ha
  have hk := (List.getElem?_eq_some_iff.1 ha).1
  exact (h.cod.cellAt k (by omega)).trans (codesV_get ha)
theorem WyI.forms {w wr : World} {g n cap W H : Nat} {fl : List UInt8} {s0 : St} {v u : Value} {L : List WN} {Cs : List Int} (h : WyI w g n cap W H fl s0 v u L Cs wr) (h1 : 0 < L.length) (h2 : 0 < Cs.length) : ∃ g1 c1 g2 c2, v = .slice (some ⟨g1, 0, none⟩) L.length c1 ∧ u = .slice (some ⟨g2, 0, none⟩) Cs.length c2 := by
  obtain ⟨g1, c1, e1, -⟩ := own_form h.row h1
  obtain ⟨g2, c2, e2, -⟩ := own_form h.cod h2
  exact ⟨g1, c1, g2, c2, e1, e2⟩
end Go.Proofs.YthdkhikkdcjifaaDoor
