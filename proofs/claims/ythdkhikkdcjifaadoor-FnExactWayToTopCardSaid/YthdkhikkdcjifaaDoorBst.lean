/- The contracts of the comparisons of routes: compareEfforts, compareWords, compareRoutes. The contracts of compareRoutes, joinedRoutes, bestRoute. The contract of bestRoute: the least of a map's routes. -/
import Derived.Test.YthdkhikkdcjifaaDoorCmp
import Derived.Test.YthdkhikkdcjifaaDoorMapS
import Derived.Test.YthdkhikkdcjifaaDoorWord
import Derived.Test.YthdkhikkdcjifaaDoorWyQ
import Derived.BigQuiet
import Derived.Deep.QuietTactic
import Derived.Deep.RegionWith
import Derived.Deep.DeepCutAuto
import Derived.StillTailTactics
namespace Go.Proofs.YthdkhikkdcjifaaDoor
set_option maxRecDepth 100000
set_option linter.all false
open Go.RowKit

theorem bDrewN {B : Nat} {a w : World} (h : Below B a w) (n : Nat) : Below B a (w.drewN n) := ⟨h.os, h.tape, h.output, h.size, h.block⟩
/-- A word's bytes. -/
def wdB (u : W4) : List UInt8 := u.map (fun j => dirC j.val)
theorem wdB_len (u : W4) : (wdB u).length = u.length := by simp [wdB]
theorem wdB_snoc (u : W4) (j : Fin 4) : wdB (u ++ [j]) = wdB u ++ [dirC j.val] := by simp [wdB]
theorem dirC_inj : ∀ a b : Fin 4, dirC a.val = dirC b.val → a = b := by decide
theorem wdB_inj {u v : W4} (h : wdB u = wdB v) : u = v := by
  induction u generalizing v with
  | nil => cases v with
    | nil => rfl
    | cons b v => cases h
  | cons a u ih => cases v with
    | nil => cases h
    | cons b v =>
      simp only [wdB, List.map_cons, List.cons.injEq] at h
      rw [dirC_inj _ _ h.1, ih h.2]
theorem index_sign : ∀ a : Fin 4, Lib.indexByte [48, 49, 50, 110, 101, 115, 119] (dirC a.val) = 3 + (a.val : Int) := by decide
theorem cmpF_at : ∀ (u v : W4) (k : Nat) (a b : Fin 4), u.take k = v.take k → u[k]? = some a → v[k]? = some b → a ≠ b → cmpF u v = (a.val : Int) - (b.val : Int)
  | x :: u, y :: v, 0, a, b, _, hu, hv, hne => by
    simp only [List.getElem?_cons_zero, Option.some.injEq] at hu hv
    subst hu; subst hv
    unfold cmpF
    rw [if_neg hne]
  | x :: u, y :: v, k + 1, a, b, h, hu, hv, hne => by
    simp only [List.take_succ_cons, List.cons.injEq] at h
    simp only [List.getElem?_cons_succ] at hu hv
    unfold cmpF
    rw [if_pos h.1]
    exact cmpF_at u v k a b h.2 hu hv hne
  | [], _, _, _, _, _, hu, _, _ => by simp at hu
  | _ :: _, [], _, _, _, _, _, hv, _ => by simp at hv
theorem byte_at {s : ByteArray} {u : W4} (h : s.data.toList = wdB u) {k : Nat} (hk : k < s.size) : ∃ a, u[k]? = some a ∧ s[k] = dirC a.val := by
  have h1 : s.data.toList[k]? = some s[k] := by
    rw [List.getElem?_eq_getElem (by simpa using hk)]
    rfl
  rw [h] at h1
  unfold wdB at h1
  rw [List.getElem?_map] at h1
  obtain ⟨a, ha, hb⟩ := Option.map_eq_some_iff.1 h1
  exact ⟨a, ha, hb.symm⟩
theorem cmpOr2_any (b cap : Nat) (x y : Int) (w : World) (h0 : w.cell? ⟨b, 0, none⟩ = some (.int .i64 x)) (h1 : w.cell? ⟨b, 1, none⟩ = some (.int .i64 y)) : Calls Tryd.prog 93 #[.slice (some ⟨b, 0, none⟩) 2 cap] w fun e w' => e = .returned (.int .i64 (if x ≠ 0 then x else y)) ∧ w = w' := by
  have HF := hide (show ∀ k : Nat, k < 2 → w.cell? ⟨b, k, none⟩ = some (.int .i64 ([x, y].getD k 0)) from fun k hk => match k, hk with
    | 0, _ => h0
    | 1, _ => h1)
  have HV := hide (show ∀ k : Nat, k < 2 → (∀ j, j < k → [x, y].getD j 0 = 0) → ¬ [x, y].getD k 0 = 0 → (if x ≠ 0 then x else y) = [x, y].getD k 0 from fun k hk hj hne => by
    match k, hk with
    | 0, _ => exact if_pos (show x ≠ 0 from hne)
    | 1, _ =>
      have a0 : x = 0 := hj 0 (by omega)
      rw [if_neg (by omega)]; rfl)
  have HW := hide (show (∀ j, j < 2 → [x, y].getD j 0 = 0) → (if x ≠ 0 then x else y) = 0 from fun hj => by
    have a0 : x = 0 := hj 0 (by omega)
    have a1 : y = 0 := hj 1 (by omega)
    rw [if_neg (by omega)]; exact a1)
  generalize (if x ≠ 0 then x else y) = r at HV HW ⊢
  generalize [x, y] = L at HF HV HW
  clear h0 h1
  go_enter Tryd.func93, Tryd.ntmps93
  go_wp2
  go_loop [8, 5] (fun i _ => ∃ k : Nat, k ≤ 2 ∧ i = .int .i64 (k : Int) ∧ Hid (∀ j, j < k → L.getD j 0 = 0)) (fun i _ => 2 - (intOf i).toNat)
  case atStart => exact ⟨0, Nat.zero_le _, rfl, fun j h => by omega⟩
  case round =>
    obtain ⟨k, hk, rfl, hno⟩ := hrel
    by_cases hlt : k < 2
    · have hki : (k : Int) < 2 := by omega
      have a0 := HF.out k hlt
      have HK := hide (HV.out k hlt hno.out)
      generalize hx : L.getD k 0 = v at a0 HK
      have HX := hide hx
      clear hx
      by_cases hv : v = 0
      · have e0 : (v != 0) = false := by rw [hv]; rfl
        have HZ := hide hv
        clear hv
        go_wp2
        go_round
        case rel =>
          refine ⟨k + 1, by omega, by go_num, fun j hj => ?_⟩
          by_cases hjk : j < k
          · exact hno j hjk
          · obtain rfl : j = k := by omega
            rw [HX.out, HZ.out]
        case measure => simp [intOf]; omega
      · have e0 : (v != 0) = true := by simpa using hv
        have HR := hide (HK.out hv)
        clear hv
        go_wp2
        go_returns
        exact ⟨ret_int HR.out.symm, rfl⟩
    · obtain rfl : k = 2 := by omega
      have HR := hide (HW.out hno.out)
      go_wp2
      go_returns
      exact ⟨ret_int HR.out.symm, rfl⟩

/-- The order of efforts. -/
def effI (r q : Rt) : Int := if cmpI r.cost q.cost ≠ 0 then cmpI r.cost q.cost else cmpI (r.word.length : Int) (q.word.length : Int)
set_option maxHeartbeats 3200000 in
theorem compareEfforts_any (r q : Rt) (w : World) : Calls Tryd.prog 126 #[Rt.v r, Rt.v q] w fun x w' => x = .returned (.int .i64 (effI r q)) ∧ Below w.heap.size w w' := by
  have HO := hide (show effI r q = (if cmpI r.cost q.cost ≠ 0 then cmpI r.cost q.cost else cmpI (r.word.length : Int) (q.word.length : Int)) from rfl)
  generalize effI r q = res at HO ⊢
  have HOR := hide (show ∀ (b cap : Nat) (wx : World), wx.cell? ⟨b, 0, none⟩ = some (.int .i64 (cmpI r.cost q.cost)) → wx.cell? ⟨b, 1, none⟩ = some (.int .i64 (cmpI (r.word.length : Int) (q.word.length : Int))) → Calls Tryd.prog 93 #[.slice (some ⟨b, 0, none⟩) 2 cap] wx fun e w' => e = .returned (.int .i64 res) ∧ wx = w' from fun b cap wx h0 h1 => by rw [HO.out]; exact cmpOr2_any b cap _ _ wx h0 h1)
  go_enter Tryd.func126, Tryd.ntmps126
  go_wp2_with fail
  have S0 := (IsR.new (w := w) (r := r)).alloc (.cells #[.string ⟨q.word.toArray⟩, .int .i64 q.cost, .int .i64 q.count] 73)
  have T0 := IsR.new (w := w.alloc (.cells #[.string ⟨r.word.toArray⟩, .int .i64 r.cost, .int .i64 r.count] 73)) (r := q)
  have hz : (w.alloc (.cells #[.string ⟨r.word.toArray⟩, .int .i64 r.cost, .int .i64 r.count] 73)).heap.size = w.heap.size + 1 := by simp
  rw [hz] at T0
  have q0 : Below w.heap.size w ((w.alloc (.cells #[.string ⟨r.word.toArray⟩, .int .i64 r.cost, .int .i64 r.count] 73)).alloc (.cells #[.string ⟨q.word.toArray⟩, .int .i64 q.cost, .int .i64 q.count] 73)) := by go_grown
  clear hz
  generalize (w.alloc (.cells #[.string ⟨r.word.toArray⟩, .int .i64 r.cost, .int .i64 r.count] 73)).alloc (.cells #[.string ⟨q.word.toArray⟩, .int .i64 q.cost, .int .i64 q.count] 73) = W0 at S0 T0 q0 ⊢
  obtain ⟨l0, ⟨a0, a1, a2⟩, -⟩ := S0.all
  obtain ⟨l1, ⟨b0, b1, b2⟩, -⟩ := T0.all
  go_region_held3 (fun wx => wx.cell? ⟨w.heap.size, 0, none⟩ = some (.string ⟨r.word.toArray⟩) ∧ wx.cell? ⟨w.heap.size, 1, none⟩ = some (.int .i64 r.cost) ∧ wx.cell? ⟨w.heap.size, 2, none⟩ = some (.int .i64 r.count) ∧ wx.cell? ⟨w.heap.size + 1, 0, none⟩ = some (.string ⟨q.word.toArray⟩) ∧ wx.cell? ⟨w.heap.size + 1, 1, none⟩ = some (.int .i64 q.cost) ∧ wx.cell? ⟨w.heap.size + 1, 2, none⟩ = some (.int .i64 q.count)) (refine ⟨?_, ?_, ?_, ?_, ?_, ?_⟩ <;> (first | with_reducible assumption | (with_reducible (change W0.cell? _ = _); with_reducible assumption) | (rw [World.cell?_drew]; with_reducible assumption) | (rw [cell_alloc_lt (by first | omega | (simp; omega))]; with_reducible assumption) | (rw [World.cell?_drew]; rw [cell_alloc_lt (by first | omega | (simp; omega))]; with_reducible assumption)))
    (first
      | (go_at_call 94; (refine (cmpInt_any _ _ _).mono ?_); rintro x w1 ⟨rfl, rfl⟩)
      | (go_at_call 93; (refine (HOR.out W0.heap.size _ _ (by simp) (by simp)).mono ?_); rintro x w2 ⟨rfl, rfl⟩))
  go_wp2
  go_returns
  exact ⟨rfl, (q0.alloc q0.size _).drew⟩

set_option maxHeartbeats 800000 in
theorem compareWords_any (s t : ByteArray) (u v : W4) (hs : s.data.toList = wdB u) (ht : t.data.toList = wdB v) (hl : u.length = v.length) (hm : u.length ≤ 2000) (w : World) : Calls Tryd.prog 129 #[.string s, .string t] w fun x w' => x = .returned (.int .i64 (cmpF u v)) ∧ Below w.heap.size w w' := by
  have hsz : s.size = u.length := by rw [← wdB_len, ← hs]; simp
  have htz : t.size = u.length := by rw [hl, ← wdB_len, ← ht]; simp
  have HS := hide hs
  have HT := hide ht
  have HL := hide hl
  have HSZ := hide hsz
  have HR0 := hide (show ∀ k a b, u.take k = v.take k → u[k]? = some a → v[k]? = some b → a ≠ b → cmpF u v = (a.val : Int) - (b.val : Int) from fun k a b => cmpF_at u v k a b)
  have HR1 := hide (show u = v → cmpF u v = 0 from fun e => by rw [e]; exact cmpF_self v)
  generalize cmpF u v = res at HR0 HR1 ⊢
  have hsm : s.size ≤ 2000 := by omega
  have hst : t.size = s.size := by omega
  clear hs ht hl hm hsz htz
  go_enter Tryd.func129, Tryd.ntmps129
  go_wp2
  go_loopw [8, 5] (fun i _ wr => ∃ k : Nat, k ≤ s.size ∧ i = .int .i64 (k : Int) ∧ Hid (u.take k = v.take k) ∧ Below w.heap.size w wr) (fun i _ _ => s.size - (intOf i).toNat)
  case atStart => exact ⟨0, Nat.zero_le _, rfl, rfl, Below.refl _ _⟩
  case round =>
    obtain ⟨k, hk, rfl, hno, hB⟩ := hrel
    by_cases hlt : k < s.size
    · have hki : (k : Int) < (s.size : Int) := by omega
      have hlt2 : k < t.size := by omega
      obtain ⟨a, hua, hsa⟩ := byte_at HS.out hlt
      obtain ⟨b, hvb, htb⟩ := byte_at HT.out hlt2
      have HA := hide hsa
      have HB := hide htb
      have HUA := hide hua
      have HVB := hide hvb
      clear hua hvb
      by_cases hab : a = b
      · have e0 : (((s[k].toNat : Nat) : Int) != ((t[k].toNat : Nat) : Int)) = false := by rw [hsa, htb, hab]; simp
        have HAB := hide hab
        clear hab hsa htb
        go_wp2_with fail
        go_quiet (fail)
        go_wp2
        go_roundw
        case rel =>
          exact ⟨k + 1, by omega, by go_num, by show _ = _; rw [List.take_succ, List.take_succ, hno.out, HUA.out, HVB.out, HAB.out], bDrewN hB _⟩
        case measure => simp [intOf]; omega
      · have e0 : (((s[k].toNat : Nat) : Int) != ((t[k].toNat : Nat) : Int)) = true := by
          rw [hsa, htb]
          have : ∀ a b : Fin 4, a ≠ b → (((dirC a.val).toNat : Int) != ((dirC b.val).toNat : Int)) = true := by decide
          exact this a b hab
        have HRES := hide (HR0.out k a b hno.out HUA.out HVB.out hab)
        have HI := hide (show ∀ (c : UInt8) (wx : World), Calls Tryd.prog 145 #[.string ⟨#[48, 49, 50, 110, 101, 115, 119]⟩, .int .u8 c.toNat] wx fun e w' => e = .returned (.int .i64 (Lib.indexByte [48, 49, 50, 110, 101, 115, 119] c)) ∧ wx = w' from fun c wx => indexIn_any ⟨#[48, 49, 50, 110, 101, 115, 119]⟩ c wx)
        have hwr : IntKind.i64.wrap (Lib.indexByte [48, 49, 50, 110, 101, 115, 119] s[k] - Lib.indexByte [48, 49, 50, 110, 101, 115, 119] t[k]) = (a.val : Int) - (b.val : Int) := by
          rw [hsa, htb, index_sign, index_sign]
          have := a.isLt
          have := b.isLt
          rw [IntWalk.i64_in _ (by omega)]
          omega
        have HWR := hide hwr
        clear hab hsa htb
        go_wp2_with fail
        go_quiet (fail)
        have hB2 := bDrewN hB nq
        generalize wr.drewN nq = wr2 at hB2 ⊢
        go_wp2_with fail
        go_quiet ((go_at_call 145; refine Calls.quiet_of_same ((HI.out _ _).mono fun x w' hp => ⟨hp.1, hp.2.symm⟩)))
        go_wp2
        go_returns
        exact ⟨ret_int (by rw [HRES.out]), bDrewN hB2 _⟩
    · obtain rfl : k = s.size := by omega
      have HR := hide (HR1.out (by
        have := hno.out
        rw [HSZ.out] at this
        rw [List.take_length, HL.out, List.take_length] at this
        exact this))
      go_wp2
      go_returns
      exact ⟨ret_int HR.out.symm, hB⟩
end Go.Proofs.YthdkhikkdcjifaaDoor
namespace Go.Proofs.YthdkhikkdcjifaaDoor
set_option maxRecDepth 100000
set_option linter.all false
open Go.RowKit Go.Maps Go.ChangeMaps

def cmpB : List UInt8 → List UInt8 → Int
  | a :: s, b :: t => if a = b then cmpB s t else dirIx a.toNat - dirIx b.toNat
  | [], _ => 0
  | _ :: _, [] => 0
theorem cmpB_wd : ∀ u v : W4, cmpB (wdB u) (wdB v) = cmpF u v
  | a :: u, b :: v => by
    show (if dirC a.val = dirC b.val then cmpB (wdB u) (wdB v) else _) = (if a = b then cmpF u v else _)
    by_cases e : a = b
    · rw [if_pos e, if_pos (by rw [e]), cmpB_wd u v]
    · rw [if_neg e, if_neg (fun h => e (dirC_inj _ _ h)), dirC_ix a.val a.isLt, dirC_ix b.val b.isLt]
  | [], _ => rfl
  | _ :: _, [] => rfl
/-- The order of routes. -/
def cmpRt (r q : Rt) : Int := if effI r q ≠ 0 then effI r q else cmpB r.word q.word
/-- A route's word is one of directions, and not too long. -/
def wdOk (r : Rt) : Prop := ∃ u : W4, r.word = wdB u ∧ u.length ≤ 2000
theorem effI_zero {r q : Rt} (h : effI r q = 0) : r.cost = q.cost ∧ r.word.length = q.word.length := by
  unfold effI at h
  by_cases e : cmpI r.cost q.cost = 0
  · rw [if_neg (by omega)] at h
    have h2 := cmpI_zero.1 h
    exact ⟨cmpI_zero.1 e, by omega⟩
  · rw [if_pos e] at h
    exact absurd h e
set_option maxHeartbeats 1600000 in
theorem compareRoutes_any (r q : Rt) (hr : wdOk r) (hq : wdOk q) (w : World) : Calls Tryd.prog 107 #[Rt.v r, Rt.v q] w fun x w' => x = .returned (.int .i64 (cmpRt r q)) ∧ Below w.heap.size w w' := by
  have HE := hide (fun wx => compareEfforts_any r q wx)
  have HV := hide (show cmpRt r q = if effI r q ≠ 0 then effI r q else cmpB r.word q.word from rfl)
  obtain ⟨u, hu, hul⟩ := hr
  obtain ⟨v, hv, hvl⟩ := hq
  have HW := hide (show effI r q = 0 → ∀ wx : World, Calls Tryd.prog 129 #[.string ⟨r.word.toArray⟩, .string ⟨q.word.toArray⟩] wx fun x w' => x = .returned (.int .i64 (cmpB r.word q.word)) ∧ Below wx.heap.size wx w' from fun h0 wx => by
    have hl := (effI_zero h0).2
    rw [hu, hv, cmpB_wd]
    rw [hu, hv, wdB_len, wdB_len] at hl
    exact compareWords_any _ _ u v rfl rfl hl hul wx)
  clear hu hv hul hvl
  generalize effI r q = e at HE HV HW
  generalize cmpB r.word q.word = z at HV HW
  generalize cmpRt r q = res at HV ⊢
  have S0 := (IsR.new (w := w) (r := r)).alloc (.cells #[.string ⟨q.word.toArray⟩, .int .i64 q.cost, .int .i64 q.count] 73)
  have T0 := IsR.new (w := w.alloc (.cells #[.string ⟨r.word.toArray⟩, .int .i64 r.cost, .int .i64 r.count] 73)) (r := q)
  have hz : (w.alloc (.cells #[.string ⟨r.word.toArray⟩, .int .i64 r.cost, .int .i64 r.count] 73)).heap.size = w.heap.size + 1 := by simp
  rw [hz] at T0
  have q0 : Below w.heap.size w ((w.alloc (.cells #[.string ⟨r.word.toArray⟩, .int .i64 r.cost, .int .i64 r.count] 73)).alloc (.cells #[.string ⟨q.word.toArray⟩, .int .i64 q.cost, .int .i64 q.count] 73)) := by go_grown
  clear hz
  go_enter Tryd.func107, Tryd.ntmps107
  go_wp2_with (go_at_call 126; fail)
  refine (HE.out _).mono ?_
  rintro x w1 ⟨rfl, hb1⟩
  have S1 := isR_to hb1 S0 rfl
  have T1 := isR_to hb1 T0 rfl
  have q1 := below_to hb1 q0 q0.size rfl rfl rfl rfl
  clear hb1 S0 T0 q0
  by_cases he : e = 0
  · have e0 : (e != 0) = false := by rw [he]; rfl
    have HWe := hide (HW.out he)
    have HR := hide (show res = z from by rw [HV.out, if_neg (by omega)])
    clear he
    obtain ⟨l0, ⟨a0, a1, a2⟩, -⟩ := S1.all
    obtain ⟨l1, ⟨b0, b1, b2⟩, -⟩ := T1.all
    go_wp2_with (go_at_call 129; fail)
    refine (HWe.out _).mono ?_
    rintro x w2 ⟨rfl, hb2⟩
    have q2 := below_to hb2 q1 q1.size rfl rfl rfl rfl
    go_wp2
    go_returns
    exact ⟨ret_int HR.out.symm, q2⟩
  · have e0 : (e != 0) = true := by simpa using he
    have HR := hide (show res = e from by rw [HV.out, if_pos he])
    clear he
    go_wp2
    go_returns
    exact ⟨ret_int HR.out.symm, q1⟩

theorem bSet3 {B b : Nat} {a w : World} (h : Below B a w) (hb : B ≤ b) (u0 u1 u2 : Value) : Below B a (((w.setCell ⟨b, 0, none⟩ u0).setCell ⟨b, 1, none⟩ u1).setCell ⟨b, 2, none⟩ u2) := ((h.setCell hb _).setCell hb _).setCell hb _
theorem IsR.set2 {w : World} {b : Nat} {r : Rt} (h : IsR w b r) (z : Int) : IsR (w.setCell ⟨b, 2, none⟩ (.int .i64 z)) b ⟨r.word, r.cost, z⟩ := by
  have h0 := cells_set h 2 (by simp) (.int .i64 z)
  simpa [IsR] using h0
/-- Two routes to one state, joined. -/
def joinR (o n : Rt) : Rt := if o.count = 0 ∨ effI n o < 0 then n else if effI n o = 0 then ⟨o.word, o.cost, wrap64 (o.count + n.count)⟩ else o
set_option maxHeartbeats 1600000 in
theorem joinedRoutes_any (o n : Rt) (w : World) : Calls Tryd.prog 101 #[Rt.v o, Rt.v n] w fun x w' => x = .returned (Rt.v (joinR o n)) ∧ Below w.heap.size w w' := by
  have HE := hide (fun wx => compareEfforts_any n o wx)
  have HV := hide (show joinR o n = if o.count = 0 ∨ effI n o < 0 then n else if effI n o = 0 then ⟨o.word, o.cost, wrap64 (o.count + n.count)⟩ else o from rfl)
  generalize effI n o = e at HE HV
  generalize joinR o n = res at HV ⊢
  have S0 := ((IsR.new (w := w) (r := o)).alloc (.cells #[.string ⟨n.word.toArray⟩, .int .i64 n.cost, .int .i64 n.count] 73)).alloc (.cells #[.string ⟨#[]⟩, .int .i64 0, .int .i64 0] 73)
  have T0 := (IsR.new (w := w.alloc (.cells #[.string ⟨o.word.toArray⟩, .int .i64 o.cost, .int .i64 o.count] 73)) (r := n)).alloc (.cells #[.string ⟨#[]⟩, .int .i64 0, .int .i64 0] 73)
  have Z0 := IsR.new (w := (w.alloc (.cells #[.string ⟨o.word.toArray⟩, .int .i64 o.cost, .int .i64 o.count] 73)).alloc (.cells #[.string ⟨n.word.toArray⟩, .int .i64 n.cost, .int .i64 n.count] 73)) (r := zeroR)
  have hz : (w.alloc (.cells #[.string ⟨o.word.toArray⟩, .int .i64 o.cost, .int .i64 o.count] 73)).heap.size = w.heap.size + 1 := by simp
  have hz2 : ((w.alloc (.cells #[.string ⟨o.word.toArray⟩, .int .i64 o.cost, .int .i64 o.count] 73)).alloc (.cells #[.string ⟨n.word.toArray⟩, .int .i64 n.cost, .int .i64 n.count] 73)).heap.size = w.heap.size + 1 + 1 := by simp
  rw [hz] at T0
  rw [hz2] at Z0
  have q0 : Below w.heap.size w (((w.alloc (.cells #[.string ⟨o.word.toArray⟩, .int .i64 o.cost, .int .i64 o.count] 73)).alloc (.cells #[.string ⟨n.word.toArray⟩, .int .i64 n.cost, .int .i64 n.count] 73)).alloc (.cells #[.string ⟨#[]⟩, .int .i64 0, .int .i64 0] 73)) := by go_grown
  clear hz hz2
  go_enter Tryd.func101, Tryd.ntmps101
  go_wp2_with (go_at_call 126; fail)
  refine (HE.out _).mono ?_
  rintro x w1 ⟨rfl, hb1⟩
  have S1 := isR_to hb1 S0 rfl
  have T1 := isR_to hb1 T0 rfl
  have Z1 := isR_to hb1 Z0 rfl
  have q1 := below_to hb1 q0 q0.size rfl rfl rfl rfl
  clear hb1 S0 T0 q0 Z0
  obtain ⟨l0, ⟨a0, a1, a2⟩, f0, f1, f2⟩ := S1.all
  obtain ⟨l1, ⟨b0, b1, b2⟩, -⟩ := T1.all
  obtain ⟨l2, ⟨c0, c1, c2⟩, g0, g1, g2⟩ := Z1.all
  by_cases h0 : o.count = 0
  · have e0 : (o.count == 0) = true := by simpa using h0
    have HR := hide (show res = n from by rw [HV.out, if_pos (.inl h0)])
    clear h0
    go_wp2
    refine bodyPost_ret (ret_route Tryd.results101 rfl (Z1.set3 n)) rfl ⟨by rw [HR.out], ?_⟩
    exact bSet3 q1 (by omega) _ _ _
  · have e0 : (o.count == 0) = false := by simpa using h0
    by_cases h1 : e < 0
    · have HR := hide (show res = n from by rw [HV.out, if_pos (.inr h1)])
      clear h0
      go_wp2
      refine bodyPost_ret (ret_route Tryd.results101 rfl (Z1.set3 n)) rfl ⟨by rw [HR.out], ?_⟩
      exact bSet3 q1 (by omega) _ _ _
    · by_cases h2 : e = 0
      · have e1 : (e == 0) = true := by simpa using h2
        have HR := hide (show res = ⟨o.word, o.cost, wrap64 (o.count + n.count)⟩ from by rw [HV.out, if_neg (by omega), if_pos h2])
        clear h0 h2
        go_upto_region 6 with (fail)
        have S2 := S1.set2 (wrap64 (o.count + n.count))
        have Z2 := Z1.other (p := ⟨w.heap.size, 2, none⟩) (by show w.heap.size + 1 + 1 ≠ w.heap.size; omega) (.int .i64 (wrap64 (o.count + n.count)))
        have q2 := q1.setCell (p := ⟨w.heap.size, 2, none⟩) (Nat.le_refl _) (.int .i64 (wrap64 (o.count + n.count)))
        clear l0 a0 a1 a2 f0 f1 f2 l1 b0 b1 b2 l2 c0 c1 c2 g0 g1 g2
        generalize wrap64 (o.count + n.count) = z at HR S2 Z2 q2 ⊢
        generalize w1.setCell ⟨w.heap.size, 2, none⟩ (.int .i64 z) = w2 at S2 Z2 q2 ⊢
        generalize (Rt.mk o.word o.cost z) = r2 at S2 HR ⊢
        obtain ⟨l0, ⟨a0, a1, a2⟩, -⟩ := S2.all
        obtain ⟨l2, ⟨c0, c1, c2⟩, g0, g1, g2⟩ := Z2.all
        go_wp2
        refine bodyPost_ret (ret_route Tryd.results101 rfl (Z2.set3 r2)) rfl ⟨by rw [HR.out], ?_⟩
        exact bSet3 q2 (by omega) _ _ _
      · have e1 : (e == 0) = false := by simpa using h2
        have HR := hide (show res = o from by rw [HV.out, if_neg (by omega), if_neg h2])
        clear h0 h2
        go_wp2
        refine bodyPost_ret (ret_route Tryd.results101 rfl (Z1.set3 o)) rfl ⟨by rw [HR.out], ?_⟩
        exact bSet3 q1 (by omega) _ _ _
end Go.Proofs.YthdkhikkdcjifaaDoor
namespace Go.Proofs.YthdkhikkdcjifaaDoor
set_option maxRecDepth 100000
set_option linter.all false
open Go.RowKit Go.Maps Go.ChangeMaps

/-- The entry with the least route. -/
structure LeastS (L : List SE) (x0 : SE) : Prop where
  mem : x0 ∈ L
  lt : ∀ y ∈ L, y ≠ x0 → cmpRt x0.1.2 y.1.2 < 0 ∧ ¬ cmpRt y.1.2 x0.1.2 < 0
/-- What holds of the best one of those that have come. -/
structure BestI (L : List SE) (seen : List Nat) (bs : St) (br : Rt) : Prop where
  some : br.count ≠ 0 → ∃ y ∈ L, y.2 ∈ seen ∧ bs = y.1.1 ∧ br = y.1.2
  none : br.count = 0 → bs = zeroS ∧ br = zeroR ∧ ∀ x ∈ L, x.2 ∉ seen
  least : ∀ x0, LeastS L x0 → x0.2 ∈ seen → bs = x0.1.1 ∧ br = x0.1.2
theorem born_eq {L : List SE} {c : Nat} (hL : OkL L c) {x y : SE} (hx : x ∈ L) (hy : y ∈ L) (e : x.2 = y.2) : x = y := by
  obtain ⟨i, hi⟩ := List.mem_iff_getElem?.1 hx
  obtain ⟨j, hj⟩ := List.mem_iff_getElem?.1 hy
  have h1 : (L.map (·.2))[i]? = some x.2 := by simp [hi]
  have h2 : (L.map (·.2))[j]? = some x.2 := by simp [hj, e]
  have := (List.getElem?_inj (List.getElem?_eq_some_iff.1 h1).1 hL.born).1 (h1.trans h2.symm)
  subst this
  rw [hi] at hj
  exact Option.some.inj hj
theorem BestI.start (L : List SE) : BestI L [] zeroS zeroR := ⟨fun h => absurd rfl h, fun _ => ⟨rfl, rfl, fun _ _ => by simp⟩, fun _ _ h => by cases h⟩
theorem BestI.first {L : List SE} {c : Nat} {seen : List Nat} {bs : St} {br : Rt} (h : BestI L seen bs br) (hL : OkL L c) (hc : ∀ x ∈ L, x.1.2.count ≠ 0) (h0 : br.count = 0) {x : SE} (hx : x ∈ L) : BestI L (seen ++ [x.2]) x.1.1 x.1.2 := by
  refine ⟨fun _ => ⟨x, hx, by simp, rfl, rfl⟩, fun e => absurd e (hc x hx), fun x0 hl hs => ?_⟩
  rcases List.mem_append.1 hs with hs | hs
  · exact absurd hs ((h.none h0).2.2 x0 hl.mem)
  · rw [born_eq hL hl.mem hx (by simpa using hs)]
    exact ⟨rfl, rfl⟩
theorem BestI.better {L : List SE} {c : Nat} {seen : List Nat} {bs : St} {br : Rt} (h : BestI L seen bs br) (hL : OkL L c) (hc : ∀ x ∈ L, x.1.2.count ≠ 0) {x : SE} (hx : x ∈ L) (hn : x.2 ∉ seen) (hlt : cmpRt x.1.2 br < 0) : BestI L (seen ++ [x.2]) x.1.1 x.1.2 := by
  refine ⟨fun _ => ⟨x, hx, by simp, rfl, rfl⟩, fun e => absurd e (hc x hx), fun x0 hl hs => ?_⟩
  rcases List.mem_append.1 hs with hs | hs
  · obtain ⟨_, e⟩ := h.least x0 hl hs
    rw [e] at hlt
    exact absurd hlt (hl.lt x hx (fun e' => hn (e' ▸ hs))).2
  · rw [born_eq hL hl.mem hx (by simpa using hs)]
    exact ⟨rfl, rfl⟩
theorem BestI.keep {L : List SE} {c : Nat} {seen : List Nat} {bs : St} {br : Rt} (h : BestI L seen bs br) (hL : OkL L c) (h0 : br.count ≠ 0) {x : SE} (hx : x ∈ L) (hn : x.2 ∉ seen) (hlt : ¬ cmpRt x.1.2 br < 0) : BestI L (seen ++ [x.2]) bs br := by
  obtain ⟨y, hy, hys, e1, e2⟩ := h.some h0
  refine ⟨fun _ => ⟨y, hy, List.mem_append_left _ hys, e1, e2⟩, fun e => absurd e h0, fun x0 hl hs => ?_⟩
  rcases List.mem_append.1 hs with hs | hs
  · exact h.least x0 hl hs
  · have e := born_eq hL hl.mem hx (by simpa using hs)
    subst e
    rw [e2] at hlt
    exact absurd (hl.lt y hy (fun e' => hn (e' ▸ hys))).1 hlt
theorem IsS.set8R {w : World} {b b' : Nat} {s : St} {ty : TypeId} (h : IsS w b s ty) (hne : b ≠ b') (u0 u1 u2 : Value) : IsS (((w.setCell ⟨b', 0, none⟩ u0).setCell ⟨b', 1, none⟩ u1).setCell ⟨b', 2, none⟩ u2) b s ty := ((h.other hne u0).other hne u1).other hne u2
theorem IsR.other8 {w : World} {b b' : Nat} {r : Rt} (h : IsR w b r) (hne : b ≠ b') (u0 u1 u2 u3 u4 u5 u6 u7 : Value) : IsR ((((((((w.setCell ⟨b', 0, none⟩ u0).setCell ⟨b', 1, none⟩ u1).setCell ⟨b', 2, none⟩ u2).setCell ⟨b', 3, none⟩ u3).setCell ⟨b', 4, none⟩ u4).setCell ⟨b', 5, none⟩ u5).setCell ⟨b', 6, none⟩ u6).setCell ⟨b', 7, none⟩ u7) b r :=
  (((((((h.other hne u0).other hne u1).other hne u2).other hne u3).other hne u4).other hne u5).other hne u6).other hne u7
theorem RgS.set3 {w : World} {b r b' : Nat} {L : List SE} {c : Nat} {seen : List Nat} (h : RgS w b r L c seen) (hb : b ≠ b') (hr : r ≠ b') (u0 u1 u2 : Value) : RgS (((w.setCell ⟨b', 0, none⟩ u0).setCell ⟨b', 1, none⟩ u1).setCell ⟨b', 2, none⟩ u2) b r L c seen := ((h.other hb hr u0).other hb hr u1).other hb hr u2
theorem RgS.set8 {w : World} {b r b' : Nat} {L : List SE} {c : Nat} {seen : List Nat} (h : RgS w b r L c seen) (hb : b ≠ b') (hr : r ≠ b') (u0 u1 u2 u3 u4 u5 u6 u7 : Value) : RgS ((((((((w.setCell ⟨b', 0, none⟩ u0).setCell ⟨b', 1, none⟩ u1).setCell ⟨b', 2, none⟩ u2).setCell ⟨b', 3, none⟩ u3).setCell ⟨b', 4, none⟩ u4).setCell ⟨b', 5, none⟩ u5).setCell ⟨b', 6, none⟩ u6).setCell ⟨b', 7, none⟩ u7) b r L c seen :=
  (((((((h.other hb hr u0).other hb hr u1).other hb hr u2).other hb hr u3).other hb hr u4).other hb hr u5).other hb hr u6).other hb hr u7
/-- What holds at the head of a round. -/
structure BsW (w : World) (b : Nat) (L : List SE) (c : Nat) (seen : List Nat) (bs : St) (br : Rt) (wr : World) : Prop where
  rg : RgS wr b (w.heap.size + 4) L c seen
  z0 : IsS wr w.heap.size zeroS 30
  z1 : IsR wr (w.heap.size + 1) zeroR
  at_ : IsS wr (w.heap.size + 2) bs 30
  best : IsR wr (w.heap.size + 3) br
  below : Below w.heap.size w wr
theorem BsW.to {w wr w0 w1 : World} {b : Nat} {L : List SE} {c : Nat} {seen : List Nat} {bs : St} {br : Rt} (hb : Below w0.heap.size w0 w1) (h : BsW w b L c seen bs br wr) (e : w0.heap = wr.heap) (e1 : w0.os = wr.os) (e2 : w0.tape = wr.tape) (e3 : w0.output = wr.output) : BsW w b L c seen bs br w1 :=
  ⟨rgS_to hb h.rg e, isS_to hb h.z0 e, isR_to hb h.z1 e, isS_to hb h.at_ e, isR_to hb h.best e, below_to hb h.below h.below.size e e1 e2 e3⟩
theorem BsW.drew {w wr : World} {b : Nat} {L : List SE} {c : Nat} {seen : List Nat} {bs : St} {br : Rt} (h : BsW w b L c seen bs br wr) : BsW w b L c seen bs br wr.drew :=
  ⟨⟨h.rg.map, h.rg.it⟩, h.z0, h.z1, h.at_, h.best, h.below.drew⟩
theorem BsW.put {w wr : World} {b : Nat} {L : List SE} {c : Nat} {seen : List Nat} {bs : St} {br : Rt} (h : BsW w b L c seen bs br wr) (hbw : b < w.heap.size) (s : St) (r : Rt) : BsW w b L c seen s r (((((((((((wr.setCell ⟨w.heap.size + 2, 0, none⟩ (.int .i64 s.x)).setCell ⟨w.heap.size + 2, 1, none⟩ (.int .i64 s.y)).setCell ⟨w.heap.size + 2, 2, none⟩ (.int .i64 s.d.t)).setCell ⟨w.heap.size + 2, 3, none⟩ (.int .i64 s.d.n)).setCell ⟨w.heap.size + 2, 4, none⟩ (.int .i64 s.d.e)).setCell ⟨w.heap.size + 2, 5, none⟩ (.int .i64 s.d.s)).setCell ⟨w.heap.size + 2, 6, none⟩ (.int .i64 s.d.w)).setCell ⟨w.heap.size + 2, 7, none⟩ (.int .i64 s.d.b)).setCell ⟨w.heap.size + 3, 0, none⟩ (.string ⟨r.word.toArray⟩)).setCell ⟨w.heap.size + 3, 1, none⟩ (.int .i64 r.cost)).setCell ⟨w.heap.size + 3, 2, none⟩ (.int .i64 r.count)) := by
  refine ⟨?_, ?_, ?_, ?_, ?_, ?_⟩
  · exact (h.rg.set8 (by omega) (by omega) _ _ _ _ _ _ _ _).set3 (by omega) (by omega) _ _ _
  · exact IsS.set8R ((((((((h.z0.other (by show _ ≠ w.heap.size + 2; omega) _).other (by show _ ≠ w.heap.size + 2; omega) _).other (by show _ ≠ w.heap.size + 2; omega) _).other (by show _ ≠ w.heap.size + 2; omega) _).other (by show _ ≠ w.heap.size + 2; omega) _).other (by show _ ≠ w.heap.size + 2; omega) _).other (by show _ ≠ w.heap.size + 2; omega) _).other (by show _ ≠ w.heap.size + 2; omega) _) (by omega) _ _ _
  · exact (((h.z1.other8 (by omega) _ _ _ _ _ _ _ _).other (by show _ ≠ w.heap.size + 3; omega) _).other (by show _ ≠ w.heap.size + 3; omega) _).other (by show _ ≠ w.heap.size + 3; omega) _
  · exact IsS.set8R (h.at_.set8 s) (by omega) _ _ _
  · exact (h.best.other8 (by omega) _ _ _ _ _ _ _ _).set3 r
  · exact bSet3 (below_set8 h.below (by omega) s) (by omega) _ _ _
theorem IsS.drew {w : World} {b : Nat} {s : St} {ty : TypeId} (h : IsS w b s ty) : IsS w.drew b s ty := h
theorem IsR.drew {w : World} {b : Nat} {r : Rt} (h : IsR w b r) : IsR w.drew b r := h
theorem BestI.done {L : List SE} {c : Nat} (_ : OkL L c) {seen : List Nat} {bs : St} {br : Rt} (h : BestI L seen bs br) (hall : ∀ x ∈ L, x.2 ∈ seen) : (L = [] → bs = zeroS ∧ br = zeroR) ∧ (∀ x0, LeastS L x0 → bs = x0.1.1 ∧ br = x0.1.2) := by
  refine ⟨fun e => ?_, fun x0 hl => h.least x0 hl (hall x0 hl.mem)⟩
  by_cases h0 : br.count = 0
  · exact ⟨(h.none h0).1, (h.none h0).2.1⟩
  · obtain ⟨y, hy, _⟩ := h.some h0
    rw [e] at hy
    cases hy
theorem results_cell_cell {fn : Func} {p u : Tmp} {ty tu : TypeId} (h : fn.results = #[.cell p ty, .cell u tu]) (tmps : Array Value) (P : Program) (w : World) :
    (results fn tmps).run P w = ((asAddr (tmps.getD p undef)).run P w).andThen fun a w₁ => ((loadVar ty a).run P w₁).andThen fun v w₂ => ((asAddr (tmps.getD u undef)).run P w₂).andThen fun a' w₃ => ((loadVar tu a').run P w₃).andThen fun x w₄ => .ok (.tuple #[v, x]) w₄ := by
  simp only [results, h]
  simp [Sem.run_bind, Result.andThen]
theorem IsS.kept {w w1 : World} {b : Nat} {s : St} {ty : TypeId} {row : Option Nat} (h : IsS w b s ty) (hg : w.grownBy w1 row) (hne : some b ≠ row) : IsS w1 b s ty := (hg.block b h.lt hne).trans h
theorem ret_bst {fn : Func} {p u : Tmp} {tmps : Array Value} {w : World} {b b' : Nat} {s : St} {r : Rt} {ty : TypeId} (h : fn.results = #[.cell p 30, .cell u 73]) (hp : tmps.getD p undef = .pointer (some ⟨b, 0, none⟩)) (hu : tmps.getD u undef = .pointer (some ⟨b', 0, none⟩)) (hs : IsS w b s ty) (hr : IsR w b' r) : (results fn tmps).run Tryd.prog w = .ok (.tuple #[St.v s, Rt.v r]) w := by
  rw [results_cell_cell h, hp, hu]
  show ((loadVar 30 ⟨b, 0, none⟩).run Tryd.prog w).andThen _ = _
  rw [hs.load]
  show ((loadVar 73 ⟨b', 0, none⟩).run Tryd.prog w).andThen _ = _
  rw [hr.load]
  rfl
set_option maxHeartbeats 3200000 in
theorem bestRoute_any (b : Nat) (L : List SE) (c : Nat) (hL : OkL L c) (hc : ∀ x ∈ L, x.1.2.count ≠ 0) (hw : ∀ x ∈ L, wdOk x.1.2) (w : World) (hm : MapR w b L c) : Calls Tryd.prog 84 #[.map (some b)] w fun e w' => ∃ s r, e = .returned (.tuple #[St.v s, Rt.v r]) ∧ (L = [] → s = zeroS ∧ r = zeroR) ∧ (∀ x0, LeastS L x0 → s = x0.1.1 ∧ r = x0.1.2) ∧ Below w.heap.size w w' := by
  have HL := hide hL
  have HC := hide hc
  have HW := hide hw
  have hbw := hm.lt
  clear hL hc hw
  have A0 : IsS (w.alloc (.cells #[.int .i64 0, .int .i64 0, .int .i64 0, .int .i64 0, .int .i64 0, .int .i64 0, .int .i64 0, .int .i64 0] 30)) w.heap.size zeroS 30 := IsS.new (s := zeroS)
  have A1 : IsR ((w.alloc (.cells #[.int .i64 0, .int .i64 0, .int .i64 0, .int .i64 0, .int .i64 0, .int .i64 0, .int .i64 0, .int .i64 0] 30)).alloc (.cells #[.string ⟨#[]⟩, .int .i64 0, .int .i64 0] 73)) (w.alloc (.cells #[.int .i64 0, .int .i64 0, .int .i64 0, .int .i64 0, .int .i64 0, .int .i64 0, .int .i64 0, .int .i64 0] 30)).heap.size zeroR := IsR.new (r := zeroR)
  have A2 : IsS (((w.alloc (.cells #[.int .i64 0, .int .i64 0, .int .i64 0, .int .i64 0, .int .i64 0, .int .i64 0, .int .i64 0, .int .i64 0] 30)).alloc (.cells #[.string ⟨#[]⟩, .int .i64 0, .int .i64 0] 73)).alloc (.cells #[.int .i64 0, .int .i64 0, .int .i64 0, .int .i64 0, .int .i64 0, .int .i64 0, .int .i64 0, .int .i64 0] 30)) ((w.alloc (.cells #[.int .i64 0, .int .i64 0, .int .i64 0, .int .i64 0, .int .i64 0, .int .i64 0, .int .i64 0, .int .i64 0] 30)).alloc (.cells #[.string ⟨#[]⟩, .int .i64 0, .int .i64 0] 73)).heap.size zeroS 30 := IsS.new (s := zeroS)
  have A3 : IsR ((((w.alloc (.cells #[.int .i64 0, .int .i64 0, .int .i64 0, .int .i64 0, .int .i64 0, .int .i64 0, .int .i64 0, .int .i64 0] 30)).alloc (.cells #[.string ⟨#[]⟩, .int .i64 0, .int .i64 0] 73)).alloc (.cells #[.int .i64 0, .int .i64 0, .int .i64 0, .int .i64 0, .int .i64 0, .int .i64 0, .int .i64 0, .int .i64 0] 30)).alloc (.cells #[.string ⟨#[]⟩, .int .i64 0, .int .i64 0] 73)) (((w.alloc (.cells #[.int .i64 0, .int .i64 0, .int .i64 0, .int .i64 0, .int .i64 0, .int .i64 0, .int .i64 0, .int .i64 0] 30)).alloc (.cells #[.string ⟨#[]⟩, .int .i64 0, .int .i64 0] 73)).alloc (.cells #[.int .i64 0, .int .i64 0, .int .i64 0, .int .i64 0, .int .i64 0, .int .i64 0, .int .i64 0, .int .i64 0] 30)).heap.size zeroR := IsR.new (r := zeroR)
  simp only [World.size_alloc] at A1 A2 A3
  have B0 : IsS ((((w.alloc (.cells #[.int .i64 0, .int .i64 0, .int .i64 0, .int .i64 0, .int .i64 0, .int .i64 0, .int .i64 0, .int .i64 0] 30)).alloc (.cells #[.string ⟨#[]⟩, .int .i64 0, .int .i64 0] 73)).alloc (.cells #[.int .i64 0, .int .i64 0, .int .i64 0, .int .i64 0, .int .i64 0, .int .i64 0, .int .i64 0, .int .i64 0] 30)).alloc (.cells #[.string ⟨#[]⟩, .int .i64 0, .int .i64 0] 73)) w.heap.size zeroS 30 := ((A0.alloc _).alloc _).alloc _
  have B1 : IsR ((((w.alloc (.cells #[.int .i64 0, .int .i64 0, .int .i64 0, .int .i64 0, .int .i64 0, .int .i64 0, .int .i64 0, .int .i64 0] 30)).alloc (.cells #[.string ⟨#[]⟩, .int .i64 0, .int .i64 0] 73)).alloc (.cells #[.int .i64 0, .int .i64 0, .int .i64 0, .int .i64 0, .int .i64 0, .int .i64 0, .int .i64 0, .int .i64 0] 30)).alloc (.cells #[.string ⟨#[]⟩, .int .i64 0, .int .i64 0] 73)) (w.heap.size + 1) zeroR := (A1.alloc _).alloc _
  have B2 : IsS ((((w.alloc (.cells #[.int .i64 0, .int .i64 0, .int .i64 0, .int .i64 0, .int .i64 0, .int .i64 0, .int .i64 0, .int .i64 0] 30)).alloc (.cells #[.string ⟨#[]⟩, .int .i64 0, .int .i64 0] 73)).alloc (.cells #[.int .i64 0, .int .i64 0, .int .i64 0, .int .i64 0, .int .i64 0, .int .i64 0, .int .i64 0, .int .i64 0] 30)).alloc (.cells #[.string ⟨#[]⟩, .int .i64 0, .int .i64 0] 73)) (w.heap.size + 2) zeroS 30 := A2.alloc _
  have M0 := (((hm.alloc (.cells #[.int .i64 0, .int .i64 0, .int .i64 0, .int .i64 0, .int .i64 0, .int .i64 0, .int .i64 0, .int .i64 0] 30)).alloc (.cells #[.string ⟨#[]⟩, .int .i64 0, .int .i64 0] 73)).alloc (.cells #[.int .i64 0, .int .i64 0, .int .i64 0, .int .i64 0, .int .i64 0, .int .i64 0, .int .i64 0, .int .i64 0] 30)).alloc (.cells #[.string ⟨#[]⟩, .int .i64 0, .int .i64 0] 73)
  have q0 : Below w.heap.size w ((((w.alloc (.cells #[.int .i64 0, .int .i64 0, .int .i64 0, .int .i64 0, .int .i64 0, .int .i64 0, .int .i64 0, .int .i64 0] 30)).alloc (.cells #[.string ⟨#[]⟩, .int .i64 0, .int .i64 0] 73)).alloc (.cells #[.int .i64 0, .int .i64 0, .int .i64 0, .int .i64 0, .int .i64 0, .int .i64 0, .int .i64 0, .int .i64 0] 30)).alloc (.cells #[.string ⟨#[]⟩, .int .i64 0, .int .i64 0] 73)) := by go_grown
  have hz : ((((w.alloc (.cells #[.int .i64 0, .int .i64 0, .int .i64 0, .int .i64 0, .int .i64 0, .int .i64 0, .int .i64 0, .int .i64 0] 30)).alloc (.cells #[.string ⟨#[]⟩, .int .i64 0, .int .i64 0] 73)).alloc (.cells #[.int .i64 0, .int .i64 0, .int .i64 0, .int .i64 0, .int .i64 0, .int .i64 0, .int .i64 0, .int .i64 0] 30)).alloc (.cells #[.string ⟨#[]⟩, .int .i64 0, .int .i64 0] 73)).heap.size = w.heap.size + 4 := by simp
  clear A0 A1 A2 hm
  go_enter Tryd.func84, Tryd.ntmps84
  go_upto_region 3 with (fail)
  generalize ((((w.alloc (.cells #[.int .i64 0, .int .i64 0, .int .i64 0, .int .i64 0, .int .i64 0, .int .i64 0, .int .i64 0, .int .i64 0] 30)).alloc (.cells #[.string ⟨#[]⟩, .int .i64 0, .int .i64 0] 73)).alloc (.cells #[.int .i64 0, .int .i64 0, .int .i64 0, .int .i64 0, .int .i64 0, .int .i64 0, .int .i64 0, .int .i64 0] 30)).alloc (.cells #[.string ⟨#[]⟩, .int .i64 0, .int .i64 0] 73)) = W0 at A3 B0 B1 B2 M0 q0 hz ⊢
  go_wp2_with (at_range; refine wpList_range_S rfl _ rfl b L c rfl M0 ?_; intro hrg0)
  have I0 : BsW w b L c [] zeroS zeroR (W0.alloc (.mapIter (some b) c #[] c)) := ⟨by rw [← hz]; exact hrg0, B0.alloc _, B1.alloc _, B2.alloc _, A3.alloc _, q0.alloc q0.size _⟩
  clear B0 B1 B2 M0 A3 q0 hrg0
  rw [hz]
  generalize W0.alloc (.mapIter (some b) c #[] c) = W1 at I0 ⊢
  clear hz
  go_frame
  go_loopw [10] (fun _ wr => ∃ (seen : List Nat) (bs : St) (br : Rt), BsW w b L c seen bs br wr ∧ Hid (BestI L seen bs br)) (fun _ wr => wr.rangeLeft b (w.heap.size + 4))
  case atStart => exact ⟨[], zeroS, zeroR, I0, BestI.start L⟩
  case round =>
    clear I0
    obtain ⟨seen, bs, br, hI, hB⟩ := hrel
    go_wp2_with (at_next; refine wpList_next_S rfl _ rfl b (w.heap.size + 4) L c seen rfl HL.out hI.rg ?_ ?_)
    · intro hall
      have HALL := hide (show ∀ x ∈ L, x.2 ∈ seen from fun x hx => hall x.1.1 x.1.2 x.2 hx)
      clear hall
      obtain ⟨l0, ⟨a0, a1, a2, a3, a4, a5, a6, a7⟩, f0, f1, f2, f3, f4, f5, f6, f7⟩ := hI.z0.all
      obtain ⟨l1, ⟨b0, b1, b2⟩, g0, g1, g2⟩ := hI.z1.all
      obtain ⟨l2, ⟨c0, c1, c2, c3, c4, c5, c6, c7⟩, -⟩ := hI.at_.all
      obtain ⟨l3, ⟨d0, d1, d2⟩, -⟩ := hI.best.all
      go_wp2_with fail
      go_region
      go_wp2
      have I3 := BestI.done HL.out hB.out HALL.out
      refine bodyPost_ret (ret_bst Tryd.results84 rfl rfl (IsS.drew (IsS.set8R (hI.z0.set8 bs) (by omega) _ _ _)) (IsR.drew ((hI.z1.other8 (by omega) _ _ _ _ _ _ _ _).set3 br))) rfl ⟨bs, br, rfl, I3.1, I3.2, ?_⟩
      exact (bSet3 (below_set8 hI.below (Nat.le_refl _) bs) (by omega) _ _ _).drew
    · intro xs xr xi w2 hx hni hrg2 hlt hg2 hs2 hen
      have I2 : BsW w b L c (seen ++ [xi]) bs br w2 := ⟨hrg2, hI.z0.kept hg2 (by simp), hI.z1.kept hg2 (by simp), hI.at_.kept hg2 (by simp), hI.best.kept hg2 (by simp), hI.below.grown hg2 hI.below.size (fun k hk => by cases hk; omega)⟩
      have HX := hide hx
      have HNI := hide hni
      have HLT := hide (show (leftOf (L.map entS).toArray (seen ++ [xi]).toArray).size < wr.rangeLeft b (w.heap.size + 4) from by rw [← hrg2.left_eq]; exact hlt)
      clear hx hni hg2 hs2 hI hrg2 hlt
      have N6 : IsS ((w2.alloc (.cells #[.int .i64 xs.x, .int .i64 xs.y, .int .i64 xs.d.t, .int .i64 xs.d.n, .int .i64 xs.d.e, .int .i64 xs.d.s, .int .i64 xs.d.w, .int .i64 xs.d.b] 30)).alloc (.cells #[.string ⟨xr.word.toArray⟩, .int .i64 xr.cost, .int .i64 xr.count] 73)) w2.heap.size xs 30 := (IsS.new (s := xs)).alloc _
      have N7 : IsR ((w2.alloc (.cells #[.int .i64 xs.x, .int .i64 xs.y, .int .i64 xs.d.t, .int .i64 xs.d.n, .int .i64 xs.d.e, .int .i64 xs.d.s, .int .i64 xs.d.w, .int .i64 xs.d.b] 30)).alloc (.cells #[.string ⟨xr.word.toArray⟩, .int .i64 xr.cost, .int .i64 xr.count] 73)) (w2.alloc (.cells #[.int .i64 xs.x, .int .i64 xs.y, .int .i64 xs.d.t, .int .i64 xs.d.n, .int .i64 xs.d.e, .int .i64 xs.d.s, .int .i64 xs.d.w, .int .i64 xs.d.b] 30)).heap.size xr := IsR.new
      simp only [World.size_alloc] at N7
      have I3 := I2.to (w0 := w2) (w1 := ((w2.alloc (.cells #[.int .i64 xs.x, .int .i64 xs.y, .int .i64 xs.d.t, .int .i64 xs.d.n, .int .i64 xs.d.e, .int .i64 xs.d.s, .int .i64 xs.d.w, .int .i64 xs.d.b] 30)).alloc (.cells #[.string ⟨xr.word.toArray⟩, .int .i64 xr.cost, .int .i64 xr.count] 73))) (by go_grown) rfl rfl rfl rfl
      go_upto_region 6 with (fail)
      generalize ((w2.alloc (.cells #[.int .i64 xs.x, .int .i64 xs.y, .int .i64 xs.d.t, .int .i64 xs.d.n, .int .i64 xs.d.e, .int .i64 xs.d.s, .int .i64 xs.d.w, .int .i64 xs.d.b] 30)).alloc (.cells #[.string ⟨xr.word.toArray⟩, .int .i64 xr.cost, .int .i64 xr.count] 73)) = w3 at N6 N7 I3 ⊢
      have hge := I2.rg.rlt
      generalize w2.heap.size = F at hge N6 N7 ⊢
      clear I2
      obtain ⟨l6, ⟨a0, a1, a2, a3, a4, a5, a6, a7⟩, -⟩ := N6.all
      obtain ⟨l7, ⟨b0, b1, b2⟩, -⟩ := N7.all
      obtain ⟨l2, ⟨c0, c1, c2, c3, c4, c5, c6, c7⟩, f0, f1, f2, f3, f4, f5, f6, f7⟩ := I3.at_.all
      obtain ⟨l3, ⟨d0, d1, d2⟩, g0, g1, g2⟩ := I3.best.all
      by_cases h0 : br.count = 0
      · have e0 : (br.count == 0) = true := by simpa using h0
        have HN := hide (hB.out.first HL.out HC.out h0 HX.out)
        have I4 := (I3.put hbw xs xr).drew
        clear h0 I3
        go_wp2_with fail
        go_region
        go_wp2
        go_roundw
        case rel => exact ⟨seen ++ [xi], xs, xr, I4, HN.out⟩
        case measure => rw [I4.rg.left_eq]; exact HLT.out
      · have e0 : (br.count == 0) = false := by simpa using h0
        have HO1 := hide (HW.out _ HX.out)
        have HO2 := hide (show wdOk br from by
          obtain ⟨y, hy, _, _, e2⟩ := hB.out.some h0
          rw [e2]
          exact HW.out y hy)
        have HC2 := hide (fun wx => compareRoutes_any xr br HO1.out HO2.out wx)
        by_cases hlt : cmpRt xr br < 0
        · have HN := hide (hB.out.better HL.out HC.out HX.out HNI.out hlt)
          generalize cmpRt xr br = cc at hlt HC2
          clear h0
          go_wp2_with (go_at_call 107; fail)
          refine (HC2.out _).mono ?_
          rintro e w4 ⟨rfl, hb4⟩
          have I4 := I3.to hb4 rfl rfl rfl rfl
          have M6 := isS_to hb4 N6 rfl
          have M7 := isR_to hb4 N7 rfl
          clear a0 a1 a2 a3 a4 a5 a6 a7 b0 b1 b2 c0 c1 c2 c3 c4 c5 c6 c7 f0 f1 f2 f3 f4 f5 f6 f7 d0 d1 d2 g0 g1 g2 l6 l7 l2 l3 I3 N6 N7 hb4
          obtain ⟨l6, ⟨a0, a1, a2, a3, a4, a5, a6, a7⟩, -⟩ := M6.all
          obtain ⟨l7, ⟨b0, b1, b2⟩, -⟩ := M7.all
          obtain ⟨l2, ⟨c0, c1, c2, c3, c4, c5, c6, c7⟩, f0, f1, f2, f3, f4, f5, f6, f7⟩ := I4.at_.all
          obtain ⟨l3, ⟨d0, d1, d2⟩, g0, g1, g2⟩ := I4.best.all
          have I5 := (I4.put hbw xs xr).drew
          clear I4
          go_wp2_with fail
          go_region
          go_wp2
          go_roundw
          case rel => exact ⟨seen ++ [xi], xs, xr, I5, HN.out⟩
          case measure => rw [I5.rg.left_eq]; exact HLT.out
        · have HN := hide (hB.out.keep HL.out h0 HX.out HNI.out hlt)
          generalize cmpRt xr br = cc at hlt HC2
          clear h0
          go_wp2_with (go_at_call 107; fail)
          refine (HC2.out _).mono ?_
          rintro e w4 ⟨rfl, hb4⟩
          have I4 := I3.to hb4 rfl rfl rfl rfl
          clear a0 a1 a2 a3 a4 a5 a6 a7 b0 b1 b2 c0 c1 c2 c3 c4 c5 c6 c7 f0 f1 f2 f3 f4 f5 f6 f7 d0 d1 d2 g0 g1 g2 l6 l7 l2 l3 I3 N6 N7 hb4
          go_wp2
          go_roundw
          case rel => exact ⟨seen ++ [xi], bs, br, I4, HN.out⟩
          case measure => rw [I4.rg.left_eq]; exact HLT.out
end Go.Proofs.YthdkhikkdcjifaaDoor
