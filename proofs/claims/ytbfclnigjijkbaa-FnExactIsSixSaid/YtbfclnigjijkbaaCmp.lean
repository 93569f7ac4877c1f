/- The comparison of dice and of states, as the program makes it; no condition. -/
import Derived.Test.YtbfclnigjijkbaaExt
import Derived.Deep.CutRange
namespace Go.Proofs.Ytbfclnigjijkbaa
set_option maxRecDepth 100000
set_option linter.all false
open Go.RowKit

theorem cmpL_at : ∀ (l m : List Int) (k : Nat), l.length = m.length → k < l.length → (∀ j, j < k → l.getD j 0 = m.getD j 0) → l.getD k 0 ≠ m.getD k 0 → cmpL l m = cmpI (l.getD k 0) (m.getD k 0)
  | [], m, k, _, h, _, _ => by simp at h
  | a :: l, [], k, h, _, _, _ => by simp at h
  | a :: l, b :: m, 0, h, _, _, hne => by
    show (if cmpI a b = 0 then cmpL l m else cmpI a b) = cmpI a b
    rw [if_neg]
    intro e
    exact hne (cmpI_zero.1 e)
  | a :: l, b :: m, k + 1, h, hk, hj, hne => by
    have h0 : a = b := hj 0 (by omega)
    subst h0
    show (if cmpI a a = 0 then cmpL l m else cmpI a a) = cmpI (l.getD k 0) (m.getD k 0)
    rw [if_pos (cmpI_zero.2 rfl)]
    exact cmpL_at l m k (by simpa using h) (by simpa using hk) (fun j hjk => hj (j + 1) (by omega)) hne
theorem cmpL_same : ∀ (l m : List Int), l.length = m.length → (∀ j, j < l.length → l.getD j 0 = m.getD j 0) → cmpL l m = 0
  | [], [], _, _ => rfl
  | [], b :: m, h, _ => by simp at h
  | a :: l, [], h, _ => by simp at h
  | a :: l, b :: m, h, hj => by
    have h0 : a = b := hj 0 (by simp)
    subst h0
    show (if cmpI a a = 0 then cmpL l m else cmpI a a) = 0
    rw [if_pos (cmpI_zero.2 rfl)]
    exact cmpL_same l m (by simpa using h) (fun j hjk => hj (j + 1) (by simpa using hjk))
def IntsAt (w : World) (b : Nat) (l : List Int) : Prop := ∀ k, k < l.length → w.cell? ⟨b, k, none⟩ = some (.int .i64 (l.getD k 0))
theorem ints_n {w : World} {b n : Nat} {l : List Int} (h : IntsAt w b l) : IntsAt (w.drewN n) b l := h
theorem IsD.ints {w : World} {b : Nat} {d : D} {ty : TypeId} (h : IsD w b d ty) : IntsAt w b (keyD d) := by
  obtain ⟨⟨c0, c1, c2, c3, c4, c5⟩, _⟩ := h.cells
  intro k hk
  have hk6 : k < 6 := hk
  match k, hk6 with
  | 0, _ => exact c0
  | 1, _ => exact c1
  | 2, _ => exact c2
  | 3, _ => exact c3
  | 4, _ => exact c4
  | 5, _ => exact c5

set_option maxHeartbeats 1600000 in
theorem cmpRow_any (b1 b2 c1 c2 n : Nat) (l m : List Int) (hl : l.length = n) (hm : m.length = n) (hn : n ≤ 1000) (w : World) (H1 : IntsAt w b1 l) (H2 : IntsAt w b2 m) : Calls Try.prog 82 #[.slice (some ⟨b1, 0, none⟩) n c1, .slice (some ⟨b2, 0, none⟩) n c2] w fun e w' => e = .returned (.int .i64 (cmpL l m)) ∧ w = w' := by
  have HA := hide (fun (k : Nat) (h1 : k < l.length) (h2 : ∀ j, j < k → l.getD j 0 = m.getD j 0) (h3 : l.getD k 0 ≠ m.getD k 0) => cmpL_at l m k (by omega) h1 h2 h3)
  have HS := hide (fun (h2 : ∀ j, j < l.length → l.getD j 0 = m.getD j 0) => cmpL_same l m (by omega) h2)
  have HL := hide hl
  have HM := hide hm
  have G1 := hide H1
  have G2 := hide H2
  clear hl hm H1 H2
  go_enter Try.func82, Try.ntmps82
  go_wp2
  go_loop [11, 5, 6, 7, 8] (fun i _ _ _ _ => ∃ k : Nat, k ≤ n ∧ i = .int .i64 (k : Int) ∧ Hid (∀ j, j < k → l.getD j 0 = m.getD j 0)) (fun i _ _ _ _ => n - (intOf i).toNat)
  case atStart => exact ⟨0, Nat.zero_le _, rfl, fun j h => by omega⟩
  case round =>
    obtain ⟨k, hk, rfl, hno⟩ := hrel
    by_cases hlt : k < n
    · have hki : (k : Int) < (n : Int) := by omega
      have hkg : ¬ (k : Int) ≥ (n : Int) := by omega
      have hkd : decide (n ≤ k) = false := decide_eq_false (by omega)
      have hkd2 : decide ((k : Int) ≥ (n : Int)) = false := decide_eq_false hkg
      have a0 := G1.out k (by rw [HL.out]; exact hlt)
      have b0 := G2.out k (by rw [HM.out]; exact hlt)
      have HK := hide (HA.out k (by rw [HL.out]; exact hlt) hno.out)
      generalize hx : l.getD k 0 = x at a0 HK
      generalize hy : m.getD k 0 = y at b0 HK
      have HX := hide hx
      have HY := hide hy
      clear hx hy
      by_cases hxy : x = y
      · have HXY := hide hxy
        have e0 : (cmpI x y != 0) = false := by rw [cmpI_zero.2 hxy]; rfl
        have HZ := hide (cmpI_zero.2 hxy)
        clear hxy
        go_wp2_with (go_at_call 67; refine (cmpInt_any x y _).mono ?_; rintro e w2 ⟨rfl, rfl⟩)
        go_round
        case rel =>
          refine ⟨k + 1, by omega, by go_num, fun j hj => ?_⟩
          by_cases hjk : j < k
          · exact hno j hjk
          · obtain rfl : j = k := by omega
            rw [HX.out, HY.out, HXY.out]
        case measure => simp [intOf]; omega
      · have e0 : (cmpI x y != 0) = true := by
          have : ¬ cmpI x y = 0 := fun h => hxy (cmpI_zero.1 h)
          simpa using this
        have HK2 := hide (HK.out hxy)
        clear hxy
        go_wp2_with (go_at_call 67; refine (cmpInt_any x y _).mono ?_; rintro e w2 ⟨rfl, rfl⟩)
        go_returns
        exact ⟨ret_int HK2.out.symm, rfl⟩
    · obtain rfl : k = n := by omega
      have e1 : decide (k < k) = false := decide_eq_false (by omega)
      have HZ := hide (HS.out (fun j hj => hno.out j (by rw [← HL.out]; exact hj)))
      go_wp2
      go_returns
      exact ⟨ret_int HZ.out.symm, rfl⟩
theorem cmpOr_any (b cap : Nat) (x y z : Int) (w : World) (h0 : w.cell? ⟨b, 0, none⟩ = some (.int .i64 x)) (h1 : w.cell? ⟨b, 1, none⟩ = some (.int .i64 y)) (h2 : w.cell? ⟨b, 2, none⟩ = some (.int .i64 z)) : Calls Try.prog 66 #[.slice (some ⟨b, 0, none⟩) 3 cap] w fun e w' => e = .returned (.int .i64 (if x ≠ 0 then x else if y ≠ 0 then y else z)) ∧ w = w' := by
  have HF := hide (show ∀ k : Nat, k < 3 → w.cell? ⟨b, k, none⟩ = some (.int .i64 ([x, y, z].getD k 0)) from fun k hk => match k, hk with
    | 0, _ => h0
    | 1, _ => h1
    | 2, _ => h2)
  have HV := hide (show ∀ k : Nat, k < 3 → (∀ j, j < k → [x, y, z].getD j 0 = 0) → ¬ [x, y, z].getD k 0 = 0 → (if x ≠ 0 then x else if y ≠ 0 then y else z) = [x, y, z].getD k 0 from fun k hk hj hne => by
    match k, hk with
    | 0, _ => exact if_pos (show x ≠ 0 from hne)
    | 1, _ =>
      have a0 : x = 0 := hj 0 (by omega)
      rw [if_neg (by omega)]; exact if_pos (show y ≠ 0 from hne)
    | 2, _ =>
      have a0 : x = 0 := hj 0 (by omega)
      have a1 : y = 0 := hj 1 (by omega)
      rw [if_neg (by omega), if_neg (by omega)]; rfl)
  have HW := hide (show (∀ j, j < 3 → [x, y, z].getD j 0 = 0) → (if x ≠ 0 then x else if y ≠ 0 then y else z) = 0 from fun hj => by
    have a0 : x = 0 := hj 0 (by omega)
    have a1 : y = 0 := hj 1 (by omega)
    have a2 : z = 0 := hj 2 (by omega)
    rw [if_neg (by omega), if_neg (by omega)]; exact a2)
  generalize (if x ≠ 0 then x else if y ≠ 0 then y else z) = r at HV HW ⊢
  generalize [x, y, z] = L at HF HV HW
  clear h0 h1 h2
  go_enter Try.func66, Try.ntmps66
  go_wp2
  go_loop [8, 5] (fun i _ => ∃ k : Nat, k ≤ 3 ∧ i = .int .i64 (k : Int) ∧ Hid (∀ j, j < k → L.getD j 0 = 0)) (fun i _ => 3 - (intOf i).toNat)
  case atStart => exact ⟨0, Nat.zero_le _, rfl, fun j h => by omega⟩
  case round =>
    obtain ⟨k, hk, rfl, hno⟩ := hrel
    by_cases hlt : k < 3
    · have hki : (k : Int) < 3 := by omega
      have a0 := HF.out k hlt
      have HK := hide (HV.out k hlt hno.out)
      generalize hx : L.getD k 0 = v at a0 HK
      have HX := hide hx
      clear hx
      by_cases hv : v = 0
      · have e0 : (v != 0) = false := by rw [hv]; rfl
        have HZ := hide hv
        clear hv
        go_wp2
        go_round
        case rel =>
          refine ⟨k + 1, by omega, by go_num, fun j hj => ?_⟩
          by_cases hjk : j < k
          · exact hno j hjk
          · obtain rfl : j = k := by omega
            rw [HX.out, HZ.out]
        case measure => simp [intOf]; omega
      · have e0 : (v != 0) = true := by simpa using hv
        have HR := hide (HK.out hv)
        clear hv
        go_wp2
        go_returns
        exact ⟨ret_int HR.out.symm, rfl⟩
    · obtain rfl : k = 3 := by omega
      have HR := hide (HW.out hno.out)
      go_wp2
      go_returns
      exact ⟨ret_int HR.out.symm, rfl⟩
theorem ints6 {w : World} {b : Nat} {d : D} (c0 : w.cell? ⟨b, 0, none⟩ = some (.int .i64 d.t)) (c1 : w.cell? ⟨b, 1, none⟩ = some (.int .i64 d.n)) (c2 : w.cell? ⟨b, 2, none⟩ = some (.int .i64 d.e)) (c3 : w.cell? ⟨b, 3, none⟩ = some (.int .i64 d.s)) (c4 : w.cell? ⟨b, 4, none⟩ = some (.int .i64 d.w)) (c5 : w.cell? ⟨b, 5, none⟩ = some (.int .i64 d.b)) : IntsAt w b (keyD d) := by
  intro k hk
  have hk6 : k < 6 := hk
  match k, hk6 with
  | 0, _ => exact c0
  | 1, _ => exact c1
  | 2, _ => exact c2
  | 3, _ => exact c3
  | 4, _ => exact c4
  | 5, _ => exact c5
theorem cell_alloc_lt {w : World} {o : Obj} {b k : Nat} (h : b < w.heap.size) : (w.alloc o).cell? ⟨b, k, none⟩ = w.cell? ⟨b, k, none⟩ :=
  World.cell?_of_block (Below.heap_alloc w o b h)
theorem cell_set6 {w : World} {b c o : Nat} {u0 u1 u2 u3 u4 u5 : Value} (h : b ≠ c) : ((((((w.setCell ⟨b, 0, none⟩ u0).setCell ⟨b, 1, none⟩ u1).setCell ⟨b, 2, none⟩ u2).setCell ⟨b, 3, none⟩ u3).setCell ⟨b, 4, none⟩ u4).setCell ⟨b, 5, none⟩ u5).cell? ⟨c, o, none⟩ = w.cell? ⟨c, o, none⟩ := by
  have hd : ∀ j, (⟨b, j, none⟩ : Addr) ≠ ⟨c, o, none⟩ := fun j e => h (by injection e)
  rw [World.cell?_setCell_other _ _ _ _ (hd 5), World.cell?_setCell_other _ _ _ _ (hd 4), World.cell?_setCell_other _ _ _ _ (hd 3), World.cell?_setCell_other _ _ _ _ (hd 2), World.cell?_setCell_other _ _ _ _ (hd 1), World.cell?_setCell_other _ _ _ _ (hd 0)]
theorem isd_new_at {w : World} {b : Nat} {d : D} {ty : TypeId} (h : b = w.heap.size) : IsD (w.alloc (.cells #[.int .i64 d.t, .int .i64 d.n, .int .i64 d.e, .int .i64 d.s, .int .i64 d.w, .int .i64 d.b] ty)) b d ty := by subst h; exact IsD.new
theorem isd_set6 {w : World} {b : Nat} {ty : TypeId} (d : D) (h : IsD w b ⟨0, 0, 0, 0, 0, 0⟩ ty) : IsD ((((((w.setCell ⟨b, 0, none⟩ (.int .i64 d.t)).setCell ⟨b, 1, none⟩ (.int .i64 d.n)).setCell ⟨b, 2, none⟩ (.int .i64 d.e)).setCell ⟨b, 3, none⟩ (.int .i64 d.s)).setCell ⟨b, 4, none⟩ (.int .i64 d.w)).setCell ⟨b, 5, none⟩ (.int .i64 d.b)) b d ty := h.set6 d
theorem ext_set6 {a w : World} {b : Nat} (d : D) (h : Ext a w) (hb : a.heap.size ≤ b) : Ext a ((((((w.setCell ⟨b, 0, none⟩ (.int .i64 d.t)).setCell ⟨b, 1, none⟩ (.int .i64 d.n)).setCell ⟨b, 2, none⟩ (.int .i64 d.e)).setCell ⟨b, 3, none⟩ (.int .i64 d.s)).setCell ⟨b, 4, none⟩ (.int .i64 d.w)).setCell ⟨b, 5, none⟩ (.int .i64 d.b)) :=
  (((((h.setCell hb _).setCell hb _).setCell hb _).setCell hb _).setCell hb _).setCell hb _
set_option maxHeartbeats 6400000 in
theorem compareDice_any (d e : D) (w : World) : Calls Try.prog 68 #[D.v d, D.v e] w fun x w' => x = .returned (.int .i64 (cmpL (keyD d) (keyD e))) ∧ Ext w w' := by
  go_enter Try.func68, Try.ntmps68
  go_wp2_with fail
  have D0 := (IsD.new (w := w) (d := d) (ty := 24)).alloc (.cells #[.int .i64 e.t, .int .i64 e.n, .int .i64 e.e, .int .i64 e.s, .int .i64 e.w, .int .i64 e.b] 24)
  have E0 := IsD.new2 (w := w) (o := (.cells #[.int .i64 d.t, .int .i64 d.n, .int .i64 d.e, .int .i64 d.s, .int .i64 d.w, .int .i64 d.b] 24)) (d := e) (ty := 24)
  have q0 : Ext w ((w.alloc (.cells #[.int .i64 d.t, .int .i64 d.n, .int .i64 d.e, .int .i64 d.s, .int .i64 d.w, .int .i64 d.b] 24)).alloc (.cells #[.int .i64 e.t, .int .i64 e.n, .int .i64 e.e, .int .i64 e.s, .int .i64 e.w, .int .i64 e.b] 24)) := ((Ext.refl w).alloc _).alloc _
  have hz : ((w.alloc (.cells #[.int .i64 d.t, .int .i64 d.n, .int .i64 d.e, .int .i64 d.s, .int .i64 d.w, .int .i64 d.b] 24)).alloc (.cells #[.int .i64 e.t, .int .i64 e.n, .int .i64 e.e, .int .i64 e.s, .int .i64 e.w, .int .i64 e.b] 24)).heap.size = w.heap.size + 2 := by simp
  generalize (w.alloc (.cells #[.int .i64 d.t, .int .i64 d.n, .int .i64 d.e, .int .i64 d.s, .int .i64 d.w, .int .i64 d.b] 24)).alloc (.cells #[.int .i64 e.t, .int .i64 e.n, .int .i64 e.e, .int .i64 e.s, .int .i64 e.w, .int .i64 e.b] 24) = W0 at D0 E0 q0 hz ⊢
  obtain ⟨l0, ⟨a0, a1, a2, a3, a4, a5⟩, -⟩ := D0.all
  obtain ⟨l1, ⟨b0, b1, b2, b3, b4, b5⟩, -⟩ := E0.all
  have HZ := hide hz
  clear hz
  go_cut [5, 6] from 7 to 11 (fun p q wx => ∃ F G, p = .pointer (some ⟨F, 0, none⟩) ∧ q = .pointer (some ⟨G, 0, none⟩) ∧ IsD wx F d 47 ∧ IsD wx G e 47 ∧ Ext w wx)
  case first =>
    go_region_held3 (fun wx => wx.cell? ⟨w.heap.size, 0, none⟩ = some (.int .i64 d.t) ∧ wx.cell? ⟨w.heap.size, 1, none⟩ = some (.int .i64 d.n) ∧ wx.cell? ⟨w.heap.size, 2, none⟩ = some (.int .i64 d.e) ∧ wx.cell? ⟨w.heap.size, 3, none⟩ = some (.int .i64 d.s) ∧ wx.cell? ⟨w.heap.size, 4, none⟩ = some (.int .i64 d.w) ∧ wx.cell? ⟨w.heap.size, 5, none⟩ = some (.int .i64 d.b) ∧ wx.cell? ⟨w.heap.size + 1, 0, none⟩ = some (.int .i64 e.t) ∧ wx.cell? ⟨w.heap.size + 1, 1, none⟩ = some (.int .i64 e.n) ∧ wx.cell? ⟨w.heap.size + 1, 2, none⟩ = some (.int .i64 e.e) ∧ wx.cell? ⟨w.heap.size + 1, 3, none⟩ = some (.int .i64 e.s) ∧ wx.cell? ⟨w.heap.size + 1, 4, none⟩ = some (.int .i64 e.w) ∧ wx.cell? ⟨w.heap.size + 1, 5, none⟩ = some (.int .i64 e.b)) (refine ⟨?_, ?_, ?_, ?_, ?_, ?_, ?_, ?_, ?_, ?_, ?_, ?_⟩ <;> (first | (with_reducible (change W0.cell? _ = _); with_reducible assumption) | (with_reducible assumption) | (rw [cell_set6 (by first | omega | (simp; omega))]; with_reducible assumption) | (rw [cell_set6 (by first | omega | (simp; omega))]; rw [cell_set6 (by first | omega | (simp; omega))]; with_reducible assumption) | (rw [cell_alloc_lt (by first | omega | (simp; omega))]; with_reducible assumption) | (rw [cell_alloc_lt (by first | omega | (simp; omega))]; rw [cell_set6 (by first | omega | (simp; omega))]; with_reducible assumption) | (rw [cell_alloc_lt (by first | omega | (simp; omega))]; rw [cell_set6 (by first | omega | (simp; omega))]; rw [cell_set6 (by first | omega | (simp; omega))]; with_reducible assumption) | (rw [cell_alloc_lt (by first | omega | (simp; omega))]; rw [cell_alloc_lt (by first | omega | (simp; omega))]; with_reducible assumption) | (rw [cell_alloc_lt (by first | omega | (simp; omega))]; rw [cell_alloc_lt (by first | omega | (simp; omega))]; rw [cell_set6 (by first | omega | (simp; omega))]; with_reducible assumption) | (rw [cell_alloc_lt (by first | omega | (simp; omega))]; rw [cell_alloc_lt (by first | omega | (simp; omega))]; rw [cell_set6 (by first | omega | (simp; omega))]; rw [cell_set6 (by first | omega | (simp; omega))]; with_reducible assumption) | (rw [World.cell?_drew]; with_reducible assumption) | (rw [World.cell?_drew]; rw [cell_set6 (by first | omega | (simp; omega))]; with_reducible assumption) | (rw [World.cell?_drew]; rw [cell_set6 (by first | omega | (simp; omega))]; rw [cell_set6 (by first | omega | (simp; omega))]; with_reducible assumption) | (rw [World.cell?_drew]; rw [cell_alloc_lt (by first | omega | (simp; omega))]; with_reducible assumption) | (rw [World.cell?_drew]; rw [cell_alloc_lt (by first | omega | (simp; omega))]; rw [cell_set6 (by first | omega | (simp; omega))]; with_reducible assumption) | (rw [World.cell?_drew]; rw [cell_alloc_lt (by first | omega | (simp; omega))]; rw [cell_set6 (by first | omega | (simp; omega))]; rw [cell_set6 (by first | omega | (simp; omega))]; with_reducible assumption) | (rw [World.cell?_drew]; rw [cell_alloc_lt (by first | omega | (simp; omega))]; rw [cell_alloc_lt (by first | omega | (simp; omega))]; with_reducible assumption) | (rw [World.cell?_drew]; rw [cell_alloc_lt (by first | omega | (simp; omega))]; rw [cell_alloc_lt (by first | omega | (simp; omega))]; rw [cell_set6 (by first | omega | (simp; omega))]; with_reducible assumption) | (rw [World.cell?_drew]; rw [cell_alloc_lt (by first | omega | (simp; omega))]; rw [cell_alloc_lt (by first | omega | (simp; omega))]; rw [cell_set6 (by first | omega | (simp; omega))]; rw [cell_set6 (by first | omega | (simp; omega))]; with_reducible assumption)))
      (first
        | (go_at_call 81; ((with_reducible refine (facesOf_ext d _).mono ?_)); rintro x w1 ⟨rfl, hb1⟩; have D1 : IsD w1 w.heap.size d 24 := (by first | exact isD_to hb1.below D0 rfl | exact isD_to hb1.below (D0.alloc _) rfl | exact isD_to hb1.below ((D0.alloc _).alloc _) rfl); have E1 : IsD w1 (w.heap.size + 1) e 24 := (by first | exact isD_to hb1.below E0 rfl | exact isD_to hb1.below (E0.alloc _) rfl | exact isD_to hb1.below ((E0.alloc _).alloc _) rfl); obtain ⟨l2, ⟨m0, m1, m2, m3, m4, m5⟩, -⟩ := D1.all; obtain ⟨l3, ⟨n0, n1, n2, n3, n4, n5⟩, -⟩ := E1.all; have q1 : Ext w w1 := (by first | exact ext_to hb1 q0 rfl rfl rfl rfl (Nat.le_succ _) | exact ext_to hb1 q0 rfl rfl rfl rfl (Nat.le_refl _) | exact ext_to hb1 (q0.alloc (.cells #[.int .i64 0, .int .i64 0, .int .i64 0, .int .i64 0, .int .i64 0, .int .i64 0] 47)) rfl rfl rfl rfl (Nat.le_succ _) | exact ext_to hb1 (q0.alloc (.cells #[.int .i64 0, .int .i64 0, .int .i64 0, .int .i64 0, .int .i64 0, .int .i64 0] 47)) rfl rfl rfl rfl (Nat.le_refl _) | exact ext_to hb1 ((q0.alloc (.cells #[.int .i64 0, .int .i64 0, .int .i64 0, .int .i64 0, .int .i64 0, .int .i64 0] 47)).alloc (.cells #[.int .i64 0, .int .i64 0, .int .i64 0, .int .i64 0, .int .i64 0, .int .i64 0] 47)) rfl rfl rfl rfl (Nat.le_succ _) | exact ext_to hb1 ((q0.alloc (.cells #[.int .i64 0, .int .i64 0, .int .i64 0, .int .i64 0, .int .i64 0, .int .i64 0] 47)).alloc (.cells #[.int .i64 0, .int .i64 0, .int .i64 0, .int .i64 0, .int .i64 0, .int .i64 0] 47)) rfl rfl rfl rfl (Nat.le_refl _)); (first | (have ZA := isD_to hb1.below ((IsD.new (w := W0) (d := ⟨0, 0, 0, 0, 0, 0⟩) (ty := 47)).alloc (.cells #[.int .i64 0, .int .i64 0, .int .i64 0, .int .i64 0, .int .i64 0, .int .i64 0] 47)) rfl; have ZB := isD_to hb1.below (IsD.new2 (w := W0) (o := (.cells #[.int .i64 0, .int .i64 0, .int .i64 0, .int .i64 0, .int .i64 0, .int .i64 0] 47)) (d := ⟨0, 0, 0, 0, 0, 0⟩) (ty := 47)) rfl; obtain ⟨zal, ⟨zaa, zab, zac, zad, zae, zaf⟩, zag, zah, zai, zaj, zak, zam⟩ := ZA.all; obtain ⟨zbl, ⟨zba, zbb, zbc, zbd, zbe, zbf⟩, zbg, zbh, zbi, zbj, zbk, zbm⟩ := ZB.all) | (have ZA := isD_to hb1.below (IsD.new (w := W0) (d := ⟨0, 0, 0, 0, 0, 0⟩) (ty := 47)) rfl; obtain ⟨zal, ⟨zaa, zab, zac, zad, zae, zaf⟩, zag, zah, zai, zaj, zak, zam⟩ := ZA.all) | skip))
        | (go_at_call 81; ((with_reducible refine (facesOf_ext e _).mono ?_)); rintro x w2 ⟨rfl, hb2⟩; have D2 : IsD w2 w.heap.size d 24 := (by first | exact isD_to hb2.below D1 rfl | exact isD_to hb2.below (D1.alloc _) rfl | exact isD_to hb2.below ((D1.alloc _).alloc _) rfl); have E2 : IsD w2 (w.heap.size + 1) e 24 := (by first | exact isD_to hb2.below E1 rfl | exact isD_to hb2.below (E1.alloc _) rfl | exact isD_to hb2.below ((E1.alloc _).alloc _) rfl); obtain ⟨l4, ⟨o0, o1, o2, o3, o4, o5⟩, -⟩ := D2.all; obtain ⟨l5, ⟨r0, r1, r2, r3, r4, r5⟩, -⟩ := E2.all; have q2 : Ext w w2 := (by first | exact ext_to hb2 q1 rfl rfl rfl rfl (Nat.le_succ _) | exact ext_to hb2 q1 rfl rfl rfl rfl (Nat.le_refl _) | exact ext_to hb2 (q1.alloc (.cells #[.int .i64 0, .int .i64 0, .int .i64 0, .int .i64 0, .int .i64 0, .int .i64 0] 47)) rfl rfl rfl rfl (Nat.le_succ _) | exact ext_to hb2 (q1.alloc (.cells #[.int .i64 0, .int .i64 0, .int .i64 0, .int .i64 0, .int .i64 0, .int .i64 0] 47)) rfl rfl rfl rfl (Nat.le_refl _) | exact ext_to hb2 ((q1.alloc (.cells #[.int .i64 0, .int .i64 0, .int .i64 0, .int .i64 0, .int .i64 0, .int .i64 0] 47)).alloc (.cells #[.int .i64 0, .int .i64 0, .int .i64 0, .int .i64 0, .int .i64 0, .int .i64 0] 47)) rfl rfl rfl rfl (Nat.le_succ _) | exact ext_to hb2 ((q1.alloc (.cells #[.int .i64 0, .int .i64 0, .int .i64 0, .int .i64 0, .int .i64 0, .int .i64 0] 47)).alloc (.cells #[.int .i64 0, .int .i64 0, .int .i64 0, .int .i64 0, .int .i64 0, .int .i64 0] 47)) rfl rfl rfl rfl (Nat.le_refl _)); (first | (have ZA2 := isD_to hb2.below ZA rfl; obtain ⟨yal, ⟨yaa, yab, yac, yad, yae, yaf⟩, yag, yah, yai, yaj, yak, yam⟩ := ZA2.all) | (have ZA2 := isD_to hb2.below (ZA.alloc (.cells #[.int .i64 0, .int .i64 0, .int .i64 0, .int .i64 0, .int .i64 0, .int .i64 0] 47)) rfl; obtain ⟨yal, ⟨yaa, yab, yac, yad, yae, yaf⟩, yag, yah, yai, yaj, yak, yam⟩ := ZA2.all) | skip); (first | (have ZB2 := isD_to hb2.below ZB rfl; obtain ⟨ybl, ⟨yba, ybb, ybc, ybd, ybe, ybf⟩, ybg, ybh, ybi, ybj, ybk, ybm⟩ := ZB2.all) | skip); (first | (have ZC2 := isD_to hb2.below ((IsD.new (w := w1) (d := ⟨0, 0, 0, 0, 0, 0⟩) (ty := 47)).alloc (.cells #[.int .i64 0, .int .i64 0, .int .i64 0, .int .i64 0, .int .i64 0, .int .i64 0] 47)) rfl; have ZE2 := isD_to hb2.below (IsD.new2 (w := w1) (o := (.cells #[.int .i64 0, .int .i64 0, .int .i64 0, .int .i64 0, .int .i64 0, .int .i64 0] 47)) (d := ⟨0, 0, 0, 0, 0, 0⟩) (ty := 47)) rfl; obtain ⟨ycl, ⟨yca, ycb, ycc, ycd, yce, ycf⟩, ycg, ych, yci, ycj, yck, ycm⟩ := ZC2.all; obtain ⟨yel, ⟨yea, yeb, yec, yed, yee, yef⟩, yeg, yeh, yei, yej, yek, yem⟩ := ZE2.all) | (have ZC2 := isD_to hb2.below (IsD.new (w := w1) (d := ⟨0, 0, 0, 0, 0, 0⟩) (ty := 47)) rfl; obtain ⟨ycl, ⟨yca, ycb, ycc, ycd, yce, ycf⟩, ycg, ych, yci, ycj, yck, ycm⟩ := ZC2.all) | skip)))
    all_goals (go_wp2_with fail)
    all_goals go_meet
    all_goals (refine ⟨_, _, rfl, rfl, ?_, ?_, ?_⟩)
    all_goals (repeat (first | (with_reducible exact q2) | (with_reducible exact ZA2) | (with_reducible exact ZB2) | (with_reducible exact ZC2) | (with_reducible exact ZE2) | (with_reducible refine isd_new_at ?_; first | rfl | (simp; done)) | (with_reducible refine IsD.alloc ?_ _) | (with_reducible refine isd_set6 _ ?_) | (with_reducible refine IsD.other6 ?_ (by omega) _) | (with_reducible refine ext_set6 _ ?_ (by omega)) | (with_reducible refine Ext.alloc ?_ _)))
  case rest =>
    obtain ⟨F, G, rfl, rfl, hF, hG, hE⟩ := hcut
    have I1 := hide hF.ints
    have I2 := hide hG.ints
    have HE := hide hE
    clear hF hG hE
    go_wp2_with fail
    go_quiet ((go_at_call 82; refine Calls.quiet_of_same ((cmpRow_any F G 6 6 6 (keyD d) (keyD e) rfl rfl (by omega) _ (ints_n I1.out) (ints_n I2.out)).mono fun x w' hp => ⟨hp.1, hp.2.symm⟩)))
    go_wp2
    go_returns
    exact ⟨rfl, HE.out.drewN _⟩
end Go.Proofs.Ytbfclnigjijkbaa
