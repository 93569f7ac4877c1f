/- The contracts of the comparisons of routes: compareEfforts, compareWords, compareRoutes. -/
import Derived.Test.YthdkhikkdcjifaaDoorCmp
import Derived.Test.YthdkhikkdcjifaaDoorMapS
import Derived.Test.YthdkhikkdcjifaaDoorWord
import Derived.Test.YthdkhikkdcjifaaDoorWyQ
import Derived.BigQuiet
import Derived.Deep.QuietTactic
namespace Go.Proofs.YthdkhikkdcjifaaDoor
set_option maxRecDepth 100000
set_option linter.all false
open Go.RowKit

theorem bDrewN {B : Nat} {a w : World} (h : Below B a w) (n : Nat) : Below B a (w.drewN n) := ⟨h.os, h.tape, h.output, h.size, h.block⟩
/-- A word's bytes. -/
def wdB (u : W4) : List UInt8 := u.map (fun j => dirC j.val)
theorem wdB_len (u : W4) : (wdB u).length = u.length := by simp [wdB]
theorem wdB_snoc (u : W4) (j : Fin 4) : wdB (u ++ [j]) = wdB u ++ [dirC j.val] := by simp [wdB]
theorem dirC_inj : ∀ a b : Fin 4, dirC a.val = dirC b.val → a = b := by decide
theorem wdB_inj {u v : W4} (h : wdB u = wdB v) : u = v := by
  induction u generalizing v with
  | nil => cases v with
    | nil => rfl
    | cons b v => cases h
  | cons a u ih => cases v with
    | nil => cases h
    | cons b v =>
      simp only [wdB, List.map_cons, List.cons.injEq] at h
      rw [dirC_inj _ _ h.1, ih h.2]
theorem index_sign : ∀ a : Fin 4, Lib.indexByte [48, 49, 50, 110, 101, 115, 119] (dirC a.val) = 3 + (a.val : Int) := by decide
theorem cmpF_at : ∀ (u v : W4) (k : Nat) (a b : Fin 4), u.take k = v.take k → u[k]? = some a → v[k]? = some b → a ≠ b → cmpF u v = (a.val : Int) - (b.val : Int)
  | x :: u, y :: v, 0, a, b, _, hu, hv, hne => by
    simp only [List.getElem?_cons_zero, Option.some.injEq] at hu hv
    subst hu; subst hv
    unfold cmpF
    rw [if_neg hne]
  | x :: u, y :: v, k + 1, a, b, h, hu, hv, hne => by
    simp only [List.take_succ_cons, List.cons.injEq] at h
    simp only [List.getElem?_cons_succ] at hu hv
    unfold cmpF
    rw [if_pos h.1]
    exact cmpF_at u v k a b h.2 hu hv hne
  | [], _, _, _, _, _, hu, _, _ => by simp at hu
  | _ :: _, [], _, _, _, _, _, hv, _ => by simp at hv
theorem byte_at {s : ByteArray} {u : W4} (h : s.data.toList = wdB u) {k : Nat} (hk : k < s.size) : ∃ a, u[k]? = some a ∧ s[k] = dirC a.val := by
  have h1 : s.data.toList[k]? = some s[k] := by
    rw [List.getElem?_eq_getElem (by simpa using hk)]
    rfl
  rw [h] at h1
  unfold wdB at h1
  rw [List.getElem?_map] at h1
  obtain ⟨a, ha, hb⟩ := Option.map_eq_some_iff.1 h1
  exact ⟨a, ha, hb.symm⟩
theorem cmpOr2_any (b cap : Nat) (x y : Int) (w : World) (h0 : w.cell? ⟨b, 0, none⟩ = some (.int .i64 x)) (h1 : w.cell? ⟨b, 1, none⟩ = some (.int .i64 y)) : Calls Tryd.prog 93 #[.slice (some ⟨b, 0, none⟩) 2 cap] w fun e w' => e = .returned (.int .i64 (if x ≠ 0 then x else y)) ∧ w = w' := by
  have HF := hide (show ∀ k : Nat, k < 2 → w.cell? ⟨b, k, none⟩ = some (.int .i64 ([x, y].getD k 0)) from fun k hk => match k, hk with
    | 0, _ => h0
    | 1, _ => h1)
  have HV := hide (show ∀ k : Nat, k < 2 → (∀ j, j < k → [x, y].getD j 0 = 0) → ¬ [x, y].getD k 0 = 0 → (if x ≠ 0 then x else y) = [x, y].getD k 0 from fun k hk hj hne => by
    match k, hk with
    | 0, _ => exact if_pos (show x ≠ 0 from hne)
    | 1, _ =>
      have a0 : x = 0 := hj 0 (by omega)
      rw [if_neg (by omega)]; rfl)
  have HW := hide (show (∀ j, j < 2 → [x, y].getD j 0 = 0) → (if x ≠ 0 then x else y) = 0 from fun hj => by
    have a0 : x = 0 := hj 0 (by omega)
    have a1 : y = 0 := hj 1 (by omega)
    rw [if_neg (by omega)]; exact a1)
  generalize (if x ≠ 0 then x else y) = r at HV HW ⊢
  generalize [x, y] = L at HF HV HW
  clear h0 h1
  go_enter Tryd.func93, Tryd.ntmps93
  go_wp2
  go_loop [8, 5] (fun i _ => ∃ k : Nat, k ≤ 2 ∧ i = .int .i64 (k : Int) ∧ Hid (∀ j, j < k → L.getD j 0 = 0)) (fun i _ => 2 - (intOf i).toNat)
  case atStart => exact ⟨0, Nat.zero_le _, rfl, fun j h => by omega⟩
  case round =>
    obtain ⟨k, hk, rfl, hno⟩ := hrel
    by_cases hlt : k < 2
    · have hki : (k : Int) < 2 := by omega
      have a0 := HF.out k hlt
      have HK := hide (HV.out k hlt hno.out)
      generalize hx : L.getD k 0 = v at a0 HK
      have HX := hide hx
      clear hx
      by_cases hv : v = 0
      · have e0 : (v != 0) = false := by rw [hv]; rfl
        have HZ := hide hv
        clear hv
        go_wp2
        go_round
        case rel =>
          refine ⟨k + 1, by omega, by go_num, fun j hj => ?_⟩
          by_cases hjk : j < k
          · exact hno j hjk
          · obtain rfl : j = k := by omega
            rw [HX.out, HZ.out]
        case measure => simp [intOf]; omega
      · have e0 : (v != 0) = true := by simpa using hv
        have HR := hide (HK.out hv)
        clear hv
        go_wp2
        go_returns
        exact ⟨ret_int HR.out.symm, rfl⟩
    · obtain rfl : k = 2 := by omega
      have HR := hide (HW.out hno.out)
      go_wp2
      go_returns
      exact ⟨ret_int HR.out.symm, rfl⟩

/-- The order of efforts. -/
def effI (r q : Rt) : Int := if cmpI r.cost q.cost ≠ 0 then cmpI r.cost q.cost else cmpI (r.word.length : Int) (q.word.length : Int)
set_option maxHeartbeats 3200000 in
theorem compareEfforts_any (r q : Rt) (w : World) : Calls Tryd.prog 126 #[Rt.v r, Rt.v q] w fun x w' => x = .returned (.int .i64 (effI r q)) ∧ Below w.heap.size w w' := by
  have HO := hide (show effI r q = (if cmpI r.cost q.cost ≠ 0 then cmpI r.cost q.cost else cmpI (r.word.length : Int) (q.word.length : Int)) from rfl)
  generalize effI r q = res at HO ⊢
  have HOR := hide (show ∀ (b cap : Nat) (wx : World), wx.cell? ⟨b, 0, none⟩ = some (.int .i64 (cmpI r.cost q.cost)) → wx.cell? ⟨b, 1, none⟩ = some (.int .i64 (cmpI (r.word.length : Int) (q.word.length : Int))) → Calls Tryd.prog 93 #[.slice (some ⟨b, 0, none⟩) 2 cap] wx fun e w' => e = .returned (.int .i64 res) ∧ wx = w' from fun b cap wx h0 h1 => by rw [HO.out]; exact cmpOr2_any b cap _ _ wx h0 h1)
  go_enter Tryd.func126, Tryd.ntmps126
  go_wp2_with fail
  have S0 := (IsR.new (w := w) (r := r)).alloc (.cells #[.string ⟨q.word.toArray⟩, .int .i64 q.cost, .int .i64 q.count] 73)
  have T0 := IsR.new (w := w.alloc (.cells #[.string ⟨r.word.toArray⟩, .int .i64 r.cost, .int .i64 r.count] 73)) (r := q)
  have hz : (w.alloc (.cells #[.string ⟨r.word.toArray⟩, .int .i64 r.cost, .int .i64 r.count] 73)).heap.size = w.heap.size + 1 := by simp
  rw [hz] at T0
  have q0 : Below w.heap.size w ((w.alloc (.cells #[.string ⟨r.word.toArray⟩, .int .i64 r.cost, .int .i64 r.count] 73)).alloc (.cells #[.string ⟨q.word.toArray⟩, .int .i64 q.cost, .int .i64 q.count] 73)) := by go_grown
  clear hz
  generalize (w.alloc (.cells #[.string ⟨r.word.toArray⟩, .int .i64 r.cost, .int .i64 r.count] 73)).alloc (.cells #[.string ⟨q.word.toArray⟩, .int .i64 q.cost, .int .i64 q.count] 73) = W0 at S0 T0 q0 ⊢
  obtain ⟨l0, ⟨a0, a1, a2⟩, -⟩ := S0.all
  obtain ⟨l1, ⟨b0, b1, b2⟩, -⟩ := T0.all
  go_region_held3 (fun wx => wx.cell? ⟨w.heap.size, 0, none⟩ = some (.string ⟨r.word.toArray⟩) ∧ wx.cell? ⟨w.heap.size, 1, none⟩ = some (.int .i64 r.cost) ∧ wx.cell? ⟨w.heap.size, 2, none⟩ = some (.int .i64 r.count) ∧ wx.cell? ⟨w.heap.size + 1, 0, none⟩ = some (.string ⟨q.word.toArray⟩) ∧ wx.cell? ⟨w.heap.size + 1, 1, none⟩ = some (.int .i64 q.cost) ∧ wx.cell? ⟨w.heap.size + 1, 2, none⟩ = some (.int .i64 q.count)) (refine ⟨?_, ?_, ?_, ?_, ?_, ?_⟩ <;> (first | with_reducible assumption | (with_reducible (change W0.cell? _ = _); with_reducible assumption) | (rw [World.cell?_drew]; with_reducible assumption) | (rw [cell_alloc_lt (by first | omega | (simp; omega))]; with_reducible assumption) | (rw [World.cell?_drew]; rw [cell_alloc_lt (by first | omega | (simp; omega))]; with_reducible assumption)))
    (first
      | (go_at_call 94; (refine (cmpInt_any _ _ _).mono ?_); rintro x w1 ⟨rfl, rfl⟩)
      | (go_at_call 93; (refine (HOR.out W0.heap.size _ _ (by simp) (by simp)).mono ?_); rintro x w2 ⟨rfl, rfl⟩))
  go_wp2
  go_returns
  exact ⟨rfl, (q0.alloc q0.size _).drew⟩

set_option maxHeartbeats 800000 in
theorem compareWords_any (s t : ByteArray) (u v : W4) (hs : s.data.toList = wdB u) (ht : t.data.toList = wdB v) (hl : u.length = v.length) (hm : u.length ≤ 2000) (w : World) : Calls Tryd.prog 129 #[.string s, .string t] w fun x w' => x = .returned (.int .i64 (cmpF u v)) ∧ Below w.heap.size w w' := by
  have hsz : s.size = u.length := by rw [← wdB_len, ← hs]; simp
  have htz : t.size = u.length := by rw [hl, ← wdB_len, ← ht]; simp
  have HS := hide hs
  have HT := hide ht
  have HL := hide hl
  have HSZ := hide hsz
  have HR0 := hide (show ∀ k a b, u.take k = v.take k → u[k]? = some a → v[k]? = some b → a ≠ b → cmpF u v = (a.val : Int) - (b.val : Int) from fun k a b => cmpF_at u v k a b)
  have HR1 := hide (show u = v → cmpF u v = 0 from fun e => by rw [e]; exact cmpF_self v)
  generalize cmpF u v = res at HR0 HR1 ⊢
  have hsm : s.size ≤ 2000 := by omega
  have hst : t.size = s.size := by omega
  clear hs ht hl hm hsz htz
  go_enter Tryd.func129, Tryd.ntmps129
  go_wp2
  go_loopw [8, 5] (fun i _ wr => ∃ k : Nat, k ≤ s.size ∧ i = .int .i64 (k : Int) ∧ Hid (u.take k = v.take k) ∧ Below w.heap.size w wr) (fun i _ _ => s.size - (intOf i).toNat)
  case atStart => exact ⟨0, Nat.zero_le _, rfl, rfl, Below.refl _ _⟩
  case round =>
    obtain ⟨k, hk, rfl, hno, hB⟩ := hrel
    by_cases hlt : k < s.size
    · have hki : (k : Int) < (s.size : Int) := by omega
      have hlt2 : k < t.size := by omega
      obtain ⟨a, hua, hsa⟩ := byte_at HS.out hlt
      obtain ⟨b, hvb, htb⟩ := byte_at HT.out hlt2
      have HA := hide hsa
      have HB := hide htb
      have HUA := hide hua
      have HVB := hide hvb
      clear hua hvb
      by_cases hab : a = b
      · have e0 : (((s[k].toNat : Nat) : Int) != ((t[k].toNat : Nat) : Int)) = false := by rw [hsa, htb, hab]; simp
        have HAB := hide hab
        clear hab hsa htb
        go_wp2_with fail
        go_quiet (fail)
        go_wp2
        go_roundw
        case rel =>
          exact ⟨k + 1, by omega, by go_num, by show _ = _; rw [List.take_succ, List.take_succ, hno.out, HUA.out, HVB.out, HAB.out], bDrewN hB _⟩
        case measure => simp [intOf]; omega
      · have e0 : (((s[k].toNat : Nat) : Int) != ((t[k].toNat : Nat) : Int)) = true := by
          rw [hsa, htb]
          have : ∀ a b : Fin 4, a ≠ b → (((dirC a.val).toNat : Int) != ((dirC b.val).toNat : Int)) = true := by decide
          exact this a b hab
        have HRES := hide (HR0.out k a b hno.out HUA.out HVB.out hab)
        have HI := hide (show ∀ (c : UInt8) (wx : World), Calls Tryd.prog 145 #[.string ⟨#[48, 49, 50, 110, 101, 115, 119]⟩, .int .u8 c.toNat] wx fun e w' => e = .returned (.int .i64 (Lib.indexByte [48, 49, 50, 110, 101, 115, 119] c)) ∧ wx = w' from fun c wx => indexIn_any ⟨#[48, 49, 50, 110, 101, 115, 119]⟩ c wx)
        have hwr : IntKind.i64.wrap (Lib.indexByte [48, 49, 50, 110, 101, 115, 119] s[k] - Lib.indexByte [48, 49, 50, 110, 101, 115, 119] t[k]) = (a.val : Int) - (b.val : Int) := by
          rw [hsa, htb, index_sign, index_sign]
          have := a.isLt
          have := b.isLt
          rw [IntWalk.i64_in _ (by omega)]
          omega
        have HWR := hide hwr
        clear hab hsa htb
        go_wp2_with fail
        go_quiet (fail)
        have hB2 := bDrewN hB nq
        generalize wr.drewN nq = wr2 at hB2 ⊢
        go_wp2_with fail
        go_quiet ((go_at_call 145; refine Calls.quiet_of_same ((HI.out _ _).mono fun x w' hp => ⟨hp.1, hp.2.symm⟩)))
        go_wp2
        go_returns
        exact ⟨ret_int (by rw [HRES.out]), bDrewN hB2 _⟩
    · obtain rfl : k = s.size := by omega
      have HR := hide (HR1.out (by
        have := hno.out
        rw [HSZ.out] at this
        rw [List.take_length, HL.out, List.take_length] at this
        exact this))
      go_wp2
      go_returns
      exact ⟨ret_int HR.out.symm, hB⟩
end Go.Proofs.YthdkhikkdcjifaaDoor
