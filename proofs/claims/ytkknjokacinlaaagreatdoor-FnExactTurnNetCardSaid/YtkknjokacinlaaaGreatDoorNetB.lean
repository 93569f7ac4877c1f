/- The rows that cutRows cuts out of whatever text. Condition: at most 1048576 signs. The program's areFilled. Condition: at most 1048576 signs. -/
import Derived.Test.YtkknjokacinlaaaGreatDoorCut
import Derived.Test.YtkknjokacinlaaaGreatDoorNetA
import Derived.Deep.QuietTactic
import Derived.BigQuiet
namespace Go.Proofs.YtkknjokacinlaaaGreatDoor
set_option maxRecDepth 100000
set_option linter.all false
open Go.RowKit

def rowG (rs : List (List UInt8)) (k : Nat) : List UInt8 := rs.getD k []
/-- Where row k begins. -/
def offG : List (List UInt8) → Nat → Nat
  | [], _ => 0
  | _ :: _, 0 => 0
  | r :: rs, k + 1 => r.length + 1 + offG rs k
theorem offG_succ : ∀ (rs : List (List UInt8)) (k : Nat), k < rs.length → offG rs (k + 1) = offG rs k + (rowG rs k).length + 1
  | [], k, h => by simp at h
  | [r], 0, _ => by simp [offG, rowG]
  | r :: r' :: rs, 0, _ => by simp [offG, rowG]
  | r :: rs, k + 1, h => by
    have := offG_succ rs k (by simpa using h)
    show r.length + 1 + offG rs (k + 1) = r.length + 1 + offG rs k + (rowG (r :: rs) (k + 1)).length + 1
    rw [this]
    show _ = r.length + 1 + offG rs k + (rowG rs k).length + 1
    omega
theorem offG_zero (rs : List (List UInt8)) : offG rs 0 = 0 := by cases rs <;> rfl
theorem joinG_at : ∀ (rs : List (List UInt8)) (k j : Nat), k < rs.length → j < (rowG rs k).length → (joinP rs)[offG rs k + j]? = (rowG rs k)[j]?
  | [], k, _, h, _ => by simp at h
  | [r], 0, j, _, hj => by simp [offG, rowG, joinP]
  | r :: r' :: rs, 0, j, _, hj => by
    rw [joinP_cons r (by simp), offG_zero, Nat.zero_add]
    exact List.getElem?_append_left hj
  | [r], k + 1, j, h, _ => by simp at h
  | r :: r' :: rs, k + 1, j, h, hj => by
    have := joinG_at (r' :: rs) k j (by simpa using h) hj
    rw [joinP_cons r (by simp)]
    show (r ++ 47 :: joinP (r' :: rs))[r.length + 1 + offG (r' :: rs) k + j]? = (rowG (r' :: rs) k)[j]?
    rw [List.getElem?_append_right (by omega), show r.length + 1 + offG (r' :: rs) k + j - r.length = (offG (r' :: rs) k + j) + 1 from by omega, List.getElem?_cons_succ]
    exact this
theorem joinG_mark : ∀ (rs : List (List UInt8)) (k : Nat), k + 1 < rs.length → (joinP rs)[offG rs k + (rowG rs k).length]? = some 47
  | [], k, h => by simp at h
  | [r], k, h => by simp at h
  | r :: r' :: rs, 0, _ => by
    rw [joinP_cons r (by simp), offG_zero, Nat.zero_add]
    show (r ++ 47 :: joinP (r' :: rs))[r.length]? = some 47
    simp
  | r :: r' :: rs, k + 1, h => by
    have := joinG_mark (r' :: rs) k (by simpa using h)
    rw [joinP_cons r (by simp)]
    show (r ++ 47 :: joinP (r' :: rs))[r.length + 1 + offG (r' :: rs) k + (rowG (r' :: rs) k).length]? = some 47
    rw [List.getElem?_append_right (by omega), show r.length + 1 + offG (r' :: rs) k + (rowG (r' :: rs) k).length - r.length = (offG (r' :: rs) k + (rowG (r' :: rs) k).length) + 1 from by omega, List.getElem?_cons_succ]
    exact this
theorem joinG_len : ∀ (rs : List (List UInt8)), rs ≠ [] → (joinP rs).length + 1 = offG rs rs.length
  | [], h => absurd rfl h
  | [r], _ => by simp [offG, joinP]
  | r :: r' :: rs, _ => by
    have := joinG_len (r' :: rs) (by simp)
    rw [joinP_cons r (by simp)]
    show (r ++ 47 :: joinP (r' :: rs)).length + 1 = r.length + 1 + offG (r' :: rs) (r' :: rs).length
    rw [← this]
    simp
    omega
theorem offG_mono (rs : List (List UInt8)) : ∀ (d k : Nat), k + d ≤ rs.length → offG rs k + d ≤ offG rs (k + d)
  | 0, k, _ => by simp
  | d + 1, k, h => by
    have h1 := offG_mono rs d k (by omega)
    have h2 := offG_succ rs (k + d) (by omega)
    show offG rs k + (d + 1) ≤ offG rs (k + d + 1)
    rw [h2]
    omega
/-- A row as it is cut out of block g: an empty one keeps the address. -/
def rowV (g p a : Nat) : Value := .slice (some ⟨g, if a = 0 then 0 else p, none⟩) a a
def rowsV (g : Nat) (rs : List (List UInt8)) (q : Nat) : List Value := (List.range q).map fun k => rowV g (offG rs k) (rowG rs k).length
theorem rowsV_len (g : Nat) (rs : List (List UInt8)) (q : Nat) : (rowsV g rs q).length = q := by simp [rowsV]
theorem rowsV_snoc (g : Nat) (rs : List (List UInt8)) (q : Nat) : rowsV g rs (q + 1) = rowsV g rs q ++ [rowV g (offG rs q) (rowG rs q).length] := by simp [rowsV, List.range_succ]
theorem rowsV_get (g : Nat) (rs : List (List UInt8)) (q k : Nat) (h : k < q) : (rowsV g rs q)[k]? = some (rowV g (offG rs k) (rowG rs k).length) := by
  unfold rowsV
  rw [List.getElem?_map, List.getElem?_range h]
  rfl
theorem run_cutG (g n cap p a : Nat) (hqn : p + a ≤ cap) (wx : World) : (Instr.slice 25 (.slice (some ⟨g, 0, none⟩) n cap) (some (.int .i64 (p : Int))) (some (.int .i64 ((p + a : Nat) : Int))) (some (.int .i64 ((p + a : Nat) : Int)))).run Tryz.prog wx = .ok (rowV g p a) wx := by
  rcases Nat.eq_zero_or_pos a with rfl | ha
  · have e2 : (0 : Int) ≤ (p : Int) ∧ (p : Int) ≤ (cap : Int) := by omega
    have e4 : ((p : Int)).toNat = p := by omega
    simp [Instr.slice, run_underlying Tryz.underlying25, Instr.sliceBounds, Instr.sliceBound, asIntOf, go_sem, e2, e4, Addr.add, rowV]
    intro h
    omega
  · have e : rowV g p a = .slice (some ⟨g, p, none⟩) a a := by unfold rowV; rw [if_neg (by omega)]
    rw [e]
    exact run_cut g n cap p (p + a) a rfl ha hqn wx
theorem rowV_slice (g p a : Nat) : ∃ o, rowV g p a = .slice (some ⟨g, o, none⟩) a a ∧ (0 < a → o = p) := ⟨_, rfl, fun h => by rw [if_neg (by omega)]⟩

set_option maxHeartbeats 3200000 in
theorem cutG_any (L : List UInt8) (g n cap : Nat) (hn : n = L.length) (hn20 : n ≤ 1048576) (hcap : n ≤ cap) (w : World) (hB : BufAt w g L) :
    Calls Tryz.prog 33 #[.slice (some ⟨g, 0, none⟩) n cap] w fun e w' => ∃ h cap', e = .returned (.slice (some ⟨h, 0, none⟩) (splitP L).length cap') ∧ w'.ownsRow w.heap.size 25 1 (.slice (some ⟨h, 0, none⟩) (splitP L).length cap') (splitP L).length (rowsV g (splitP L) (splitP L).length) ∧ Below w.heap.size w w' := by
  obtain ⟨i0, hi, hz0, hz1, hz2⟩ := info_parts info_rowC
  have HI := hide hi
  have HZ0 := hide hz0
  have HZ1 := hide hz1
  have HZ2 := hide hz2
  clear hi hz0 hz1 hz2
  obtain ⟨rs, hrs⟩ : ∃ rs, rs = splitP L := ⟨_, rfl⟩
  have hj : joinP rs = L := by rw [hrs]; exact join_split L
  have hne : rs ≠ [] := by rw [hrs]; exact splitP_ne L
  have h47 : ∀ r ∈ rs, ∀ c ∈ r, c ≠ 47 := fun r hr c hc => (split_mem (l := L) (by rw [← hrs]; exact hr) c hc).2
  rw [← hrs]
  clear hrs
  obtain ⟨H, hH⟩ : ∃ H, H = rs.length := ⟨_, rfl⟩
  rw [← hH]
  have hl : n + 1 = offG rs H := by rw [hn, ← hj, hH]; exact joinG_len rs hne
  have h0 : 0 < H := by rw [hH]; exact List.length_pos_iff.2 hne
  have hHn : H ≤ n + 1 := by
    have := offG_mono rs H 0 (by omega)
    rw [offG_zero, Nat.zero_add] at this
    omega
  have HCELL := hide (show ∀ q r, q < H → r < (rowG rs q).length → ∃ c : UInt8, L[offG rs q + r]? = some c ∧ ¬ (c.toNat : Int) = 47 from fun q r hq hr => by
    have h1 := joinG_at rs q r (by omega) hr
    rw [hj, List.getElem?_eq_getElem hr] at h1
    refine ⟨_, h1, fun e => ?_⟩
    have hm : rowG rs q ∈ rs := by
      unfold rowG
      rw [List.getD_eq_getElem?_getD, List.getElem?_eq_getElem (by omega)]
      exact List.getElem_mem _
    refine h47 _ hm _ (List.getElem_mem hr) ?_
    apply UInt8.toNat_inj.1
    have : ((rowG rs q)[r]'hr).toNat = 47 := by omega
    rw [this]; rfl)
  have HMARK := hide (show ∀ q, q + 1 < H → L[offG rs q + (rowG rs q).length]? = some 47 from fun q hq => by rw [← hj]; exact joinG_mark rs q (by omega))
  have HNEXT := hide (show ∀ q, q < H → offG rs (q + 1) = offG rs q + (rowG rs q).length + 1 from fun q hq => offG_succ rs q (by omega))
  have HMONO := hide (show ∀ q, q ≤ H → offG rs q ≤ n + 1 from fun q hq => by
    have := offG_mono rs (H - q) q (by omega)
    rw [show q + (H - q) = H from by omega, ← hl] at this
    omega)
  have HL := hide hl
  have HBB := hide hB
  clear hl hB hn hj hne h47 hH
  go_enter Tryz.func33, Tryz.ntmps33
  go_wp2
  go_loopw [9, 5, 3, 4] (fun ti _ vv fi wr => ∃ (q r : Nat) (v : Value), ti = .int .i64 ((offG rs q + r : Nat) : Int) ∧ fi = .int .i64 ((offG rs q : Nat) : Int) ∧ q ≤ H ∧ (q < H → r ≤ (rowG rs q).length) ∧ (q = H → r = 0) ∧ v = vv ∧ wr.ownsRow w.heap.size 25 1 v q (rowsV g rs q) ∧ Below w.heap.size w wr) (fun ti _ _ _ _ => n + 1 - (intOf ti).toNat)
  case atStart => exact ⟨0, 0, .slice none 0 0, by simp [offG_zero], by simp [offG_zero], Nat.zero_le _, fun _ => Nat.zero_le _, fun h => rfl, rfl, World.ownsRow_nil _ _ _ _, Below.refl _ _⟩
  case round =>
    obtain ⟨q, r, v, rfl, rfl, hq, hrr, hqr, rfl, O, hb⟩ := hrel
    have hle := HMONO.out q hq
    rcases Nat.lt_or_ge q H with hlt | hge
    · have hr := hrr hlt
      have hnx := HNEXT.out q hlt
      have hle2 := HMONO.out (q + 1) hlt
      have hrc := HCELL.out q r hlt
      have hmk := HMARK.out q
      have HR1 := hide (rowsV_snoc g rs q)
      have hend : q + 1 = H → offG rs q + (rowG rs q).length = n := fun e => by
        have := HL.out
        rw [← e, hnx] at this
        omega
      rw [hnx] at hle2
      have HNX := hide hnx
      clear hnx hrr hqr hle
      generalize hf : offG rs q = f at hle2 hrc hmk HNX HR1 hend
      generalize hW : (rowG rs q).length = W at hr hle2 hrc hmk HNX HR1 hend
      have HF := hide hf
      have HWW := hide hW
      clear hf hW
      rcases Nat.lt_or_ge r W with hrW | hrW
      · obtain ⟨c, hc, h47⟩ := hrc hrW
        obtain ⟨c0, -⟩ := (bufAt_to hb HBB.out rfl).cell hc
        obtain ⟨r1, r2⟩ := byte_ne h47
        have e1 : (((f + r : Nat) : Int) == (n : Int)) = false := beq_eq_false_iff_ne.2 (by omega)
        have e2 : ((f + r : Nat) : Int) < (n : Int) + 1 := by omega
        have e3 : ((f + r : Nat) : Int) < (n : Int) := by omega
        have HO := hide O
        clear hrc hmk hc h47 O hend
        obtain ⟨t, ht⟩ : ∃ t, t = f + r := ⟨_, rfl⟩
        rw [← ht] at c0 e1 e2 e3 ⊢
        have HT := hide ht
        have ht55 : t ≤ 1048577 := by omega
        clear ht
        go_wp2
        go_roundw
        case rel =>
          refine ⟨q, r + 1, v, ?_, by rw [HF.out], hq, fun _ => by rw [HWW.out]; omega, fun h => by omega, rfl, HO.out, hb⟩
          rw [HF.out, ← Nat.add_assoc, ← HT.out]
          go_num
        case measure => simp [intOf] <;> omega
      · obtain rfl : r = W := by omega
        have e2 : ((f + r : Nat) : Int) < (n : Int) + 1 := by omega
        have hsl := run_cutG g n cap f r (by omega)
        have HO := hide O
        have hsz := hb.size
        obtain ⟨t, ht⟩ : ∃ t, t = f + r := ⟨_, rfl⟩
        have hcell : t < n → wr.cell? ⟨g, t, none⟩ = some (.int .u8 47) := fun h => by
          have hq1 : q + 1 < H := by
            rcases Nat.lt_or_ge (q + 1) H with h' | h'
            · exact h'
            · have := hend (by omega)
              omega
          have := ((bufAt_to hb HBB.out rfl).cell (hmk hq1)).1
          rw [← ht] at this
          exact this
        rw [← ht] at e2 hsl ⊢
        have HT := hide ht
        have ht55 : t ≤ 1048577 := by omega
        have htn : t ≤ n := by omega
        obtain ⟨ro, hRV, -⟩ := rowV_slice g f r
        rw [hRV] at hsl HR1
        clear hrc hmk O hend ht hRV
        rcases Nat.lt_or_ge t n with htl | htl
        · have c0 := hcell htl
          have e1 : ((t : Int) == (n : Int)) = false := beq_eq_false_iff_ne.2 (by omega)
          have e3 : (t : Int) < (n : Int) := by omega
          clear hcell
          go_upto_region 7 with (fail)
          have HCL := hide (cell_one_newR wr (.slice (some ⟨g, ro, none⟩) r r) 25)
          go_wp2_with (at_builtin; refine wpList_append_own_at _ rfl _ _ 70 rfl w.heap.size 25 i0 (.slice none 0 0) 1 24 Tryz.underlying70 HI.out HZ0.out HZ1.out HZ2.out rfl (by decide) _ _ _ rfl (HO.out.alloc _) ⟨wr.heap.size, 0, none⟩ 1 1 [.slice (some ⟨g, ro, none⟩) r r] rfl rfl ?c1 ?c2 ?c3 ?c4 ?c5 ?_)
          case c1 => exact HCL.out
          case c2 =>
            intro u hu
            simp only [List.mem_singleton] at hu
            subst hu
            rfl
          case c3 => unfold maxLen; omega
          case c4 => omega
          case c5 => simp; omega
          · intro v' w4 hown4 hg4 _ _
            have hb4 : Below w.heap.size w w4 := (hb.alloc hsz _).grown hg4 (by show w.heap.size ≤ (World.alloc _ _).heap.size; simp; omega) (fun j hj => (HO.out.lt j hj).1)
            have HO4 := hide hown4
            clear hown4 hg4
            go_wp2
            go_roundw
            case rel =>
              have hT := HT.out
              refine ⟨q + 1, 0, v', ?_, ?_, by omega, fun _ => Nat.zero_le _, fun _ => rfl, rfl, ?_, hb4⟩
              · rw [HNX.out, show f + r + 1 + 0 = (f + r) + 1 from by omega, ← hT]
                go_num
              · rw [HNX.out, ← hT]
                go_num
              · rw [HR1.out]
                exact HO4.out
            case measure => simp [intOf] <;> omega
        · obtain rfl : t = n := by omega
          have e1 : ((t : Int) == (t : Int)) = true := by simp
          clear hcell
          go_upto_region 7 with (fail)
          have HCL := hide (cell_one_newR wr (.slice (some ⟨g, ro, none⟩) r r) 25)
          go_wp2_with (at_builtin; refine wpList_append_own_at _ rfl _ _ 70 rfl w.heap.size 25 i0 (.slice none 0 0) 1 24 Tryz.underlying70 HI.out HZ0.out HZ1.out HZ2.out rfl (by decide) _ _ _ rfl (HO.out.alloc _) ⟨wr.heap.size, 0, none⟩ 1 1 [.slice (some ⟨g, ro, none⟩) r r] rfl rfl ?c1 ?c2 ?c3 ?c4 ?c5 ?_)
          case c1 => exact HCL.out
          case c2 =>
            intro u hu
            simp only [List.mem_singleton] at hu
            subst hu
            rfl
          case c3 => unfold maxLen; omega
          case c4 => omega
          case c5 => simp; omega
          · intro v' w4 hown4 hg4 _ _
            have hb4 : Below w.heap.size w w4 := (hb.alloc hsz _).grown hg4 (by show w.heap.size ≤ (World.alloc _ _).heap.size; simp; omega) (fun j hj => (HO.out.lt j hj).1)
            have HO4 := hide hown4
            clear hown4 hg4
            go_wp2
            go_roundw
            case rel =>
              have hT := HT.out
              refine ⟨q + 1, 0, v', ?_, ?_, by omega, fun _ => Nat.zero_le _, fun _ => rfl, rfl, ?_, hb4⟩
              · rw [HNX.out, show f + r + 1 + 0 = (f + r) + 1 from by omega, ← hT]
                go_num
              · rw [HNX.out, ← hT]
                go_num
              · rw [HR1.out]
                exact HO4.out
            case measure => simp [intOf] <;> omega
    · obtain rfl : q = H := by omega
      obtain rfl : r = 0 := hqr rfl
      have e2 : ¬ (((offG rs q + 0 : Nat) : Int) < (n : Int) + 1) := by
        have := HL.out
        omega
      have e3 : decide (((offG rs q + 0 : Nat) : Int) < (n : Int) + 1) = false := decide_eq_false e2
      obtain ⟨h, cap', rfl, -, -⟩ := own_form O (by omega)
      have HO := hide O
      clear O hle hrr
      generalize offG rs q = f at e2 e3 ⊢
      simp only [Nat.add_zero] at e2 e3 ⊢
      have e4 : (n : Int) + 1 ≤ (f : Int) := by omega
      clear e2
      go_wp2
      go_returns
      exact ⟨h, cap', rfl, HO.out, hb⟩

/-- What cutRows hands back: block h holds the rows of block g's signs L. -/
def RowsIn (w : World) (h g : Nat) (L : List UInt8) : Prop := h < w.heap.size ∧ BufAt w g L ∧ ∀ k, k < (splitP L).length → w.cell? ⟨h, k, none⟩ = some (rowV g (offG (splitP L) k) (rowG (splitP L) k).length)
theorem rowsIn_to {w w0 w1 : World} {h g : Nat} {L : List UInt8} (hb : Below w0.heap.size w0 w1) (hl : RowsIn w h g L) (e : w0.heap = w.heap) : RowsIn w1 h g L := by
  obtain ⟨h1, h2, h3⟩ := hl
  have hs := hb.size
  refine ⟨by rw [e] at hs; omega, bufAt_to hb h2 e, fun k hk => ?_⟩
  rw [hb.cell (p := ⟨h, k, none⟩) (by rw [e]; exact h1)]
  have h5 : w0.heap[(⟨h, k, none⟩ : Addr).block]? = w.heap[(⟨h, k, none⟩ : Addr).block]? := by rw [e]
  rw [World.cell?_of_block h5]
  exact h3 k hk
theorem rowsIn_new {w : World} {B h g n cap' : Nat} {L : List UInt8} (hb : BufAt w g L) (hn : n = (splitP L).length) (O : w.ownsRow B 25 1 (.slice (some ⟨h, 0, none⟩) n cap') n (rowsV g (splitP L) n)) : RowsIn w h g L := by
  subst hn
  refine ⟨(O.lt h rfl).2, hb, fun k hk => ?_⟩
  have := O.cellAt k (by omega)
  rw [this, rowsV_get g _ _ k hk]
/-- The signs of row k, where they lie. -/
theorem RowsIn.signs {w : World} {h g : Nat} {L : List UInt8} (hr : RowsIn w h g L) {k : Nat} (hk : k < (splitP L).length) : SignsAt w g (offG (splitP L) k) (rowG (splitP L) k) := by
  intro j c hc
  have hj := (List.getElem?_eq_some_iff.1 hc).1
  have h1 := joinG_at (splitP L) k j hk hj
  rw [join_split, hc] at h1
  exact (hr.2.1.cell h1).1
end Go.Proofs.YtkknjokacinlaaaGreatDoor
namespace Go.Proofs.YtkknjokacinlaaaGreatDoor
set_option maxRecDepth 100000
set_option linter.all false
open Go.RowKit

def rowFine (rs : List (List UInt8)) (k : Nat) : Bool := decide ((rowG rs k).length = (rowG rs 0).length) && (rowG rs k).any isDig && !(rowG rs k).any strB
theorem width_row (l : List UInt8) : width l = (rowG (splitP l) 0).length := by
  obtain ⟨r, rs, e⟩ := splitP_cons l
  unfold width rowG
  rw [e]; rfl
theorem all_strange (r : List UInt8) : r.all okN = !r.any strB := by
  unfold strB
  rw [List.not_any_eq_all_not]
  simp
theorem all_range {α : Type} (d : α) (f : α → Bool) (l : List α) : l.all f = (List.range l.length).all fun k => f (l.getD k d) := by
  rw [Bool.eq_iff_iff, List.all_eq_true, List.all_eq_true]
  constructor
  · intro h k hk
    rw [List.mem_range] at hk
    have : l.getD k d = l[k] := by rw [List.getD_eq_getElem?_getD, List.getElem?_eq_getElem hk]; rfl
    rw [this]
    exact h _ (List.getElem_mem hk)
  · intro h x hx
    obtain ⟨k, hk, rfl⟩ := List.mem_iff_getElem.1 hx
    have := h k (List.mem_range.2 hk)
    rwa [List.getD_eq_getElem?_getD, List.getElem?_eq_getElem hk] at this
theorem filled_split (l : List UInt8) : filledB l = ((List.range (splitP l).length).all (rowFine (splitP l)) && (List.range (rowG (splitP l) 0).length).all (hasDigX (splitP l))) := by
  unfold filledB
  rw [width_row]
  congr 1
  rw [all_range ([] : List UInt8)]
  congr 1
  funext k
  unfold rowFine
  show _ = (decide ((rowG (splitP l) k).length = _) && _ && _)
  rw [← all_strange]
  rfl
theorem filled_row {l : List UInt8} {k : Nat} (hk : k < (splitP l).length) (h : rowFine (splitP l) k = false) : filledB l = false := by
  rw [filled_split]
  have : (List.range (splitP l).length).all (rowFine (splitP l)) = false := by
    rw [List.all_eq_false]
    exact ⟨k, List.mem_range.2 hk, by rw [h]; decide⟩
  rw [this]; rfl
theorem filled_col {l : List UInt8} {x : Nat} (hx : x < (rowG (splitP l) 0).length) (h : hasDigX (splitP l) x = false) : filledB l = false := by
  rw [filled_split]
  have : (List.range (rowG (splitP l) 0).length).all (hasDigX (splitP l)) = false := by
    rw [List.all_eq_false]
    exact ⟨x, List.mem_range.2 hx, by rw [h]; decide⟩
  rw [this, Bool.and_false]
theorem filled_all {l : List UInt8} (h1 : ∀ k, k < (splitP l).length → rowFine (splitP l) k = true) (h2 : ∀ x, x < (rowG (splitP l) 0).length → hasDigX (splitP l) x = true) : filledB l = true := by
  rw [filled_split, Bool.and_eq_true]
  exact ⟨List.all_eq_true.2 fun k hk => h1 k (List.mem_range.1 hk), List.all_eq_true.2 fun k hk => h2 k (List.mem_range.1 hk)⟩
theorem SignsAt.at {w : World} {g p o : Nat} {r : List UInt8} (h : SignsAt w g p r) (ho : 0 < r.length → o = p) : SignsAt w g o r := by
  intro j c hc
  have := (List.getElem?_eq_some_iff.1 hc).1
  rw [ho (by omega)]
  exact h j c hc
theorem rowG_get (rs : List (List UInt8)) (k : Nat) (h : k < rs.length) : rs[k]? = some (rowG rs k) := by
  unfold rowG
  rw [List.getD_eq_getElem?_getD, List.getElem?_eq_getElem h]; rfl

/-- The test of a column's cell. -/
theorem colTest_any (B x g p cap : Nat) (r : List UInt8) (w : World) (hx : x < r.length) (hl : r.length ≤ 1048576) (hS : SignsAt w g p r) (hB : w.cell? ⟨B, 0, none⟩ = some (.int .i64 (x : Int))) :
    Calls Tryz.prog 49 #[.slice (some ⟨g, p, none⟩) r.length cap, .pointer (some ⟨B, 0, none⟩)] w fun e w' => e = .returned (.bool (isDig (r.getD x 0))) ∧ w = w' := by
  obtain ⟨c, hc⟩ : ∃ c, r[x]? = some c := ⟨_, List.getElem?_eq_getElem hx⟩
  have hg : r.getD x 0 = c := by rw [List.getD_eq_getElem?_getD, hc]; rfl
  rw [hg]
  have c0 := hS x c hc
  have hxi : (x : Int) < (r.length : Int) := by omega
  obtain ⟨n, hn⟩ : ∃ n, n = r.length := ⟨_, rfl⟩
  rw [← hn] at hl hxi hx ⊢
  clear hc hg hS hn
  go_enter Tryz.func49, Tryz.ntmps49
  go_wp2_with (go_at_call 45; refine (isLabel_any c _).mono ?_; rintro e w2 ⟨rfl, rfl⟩)
  go_returns
  exact ⟨rfl, rfl⟩
set_option maxHeartbeats 1600000 in
theorem idxRows_any (L : List UInt8) (B x h g cap : Nat) (w : World) (hl : L.length ≤ 1048576) (hR : RowsIn w h g L) (hx : ∀ k, k < (splitP L).length → x < (rowG (splitP L) k).length) (hlen : ∀ k, k < (splitP L).length → (rowG (splitP L) k).length ≤ 1048576) (hH : (splitP L).length ≤ 1048577) (hB : w.cell? ⟨B, 0, none⟩ = some (.int .i64 (x : Int))) :
    Calls Tryz.prog 48 #[.slice (some ⟨h, 0, none⟩) (splitP L).length cap, .func (.func 49) #[] #[.pointer (some ⟨B, 0, none⟩)]] w fun e w' => e = .returned (.bool (hasDigX (splitP L) x)) ∧ w = w' := by
  have key : Calls Tryz.prog 64 #[.slice (some ⟨h, 0, none⟩) (splitP L).length cap, .func (.func 49) #[] #[.pointer (some ⟨B, 0, none⟩)]] w fun e w' => (∃ k : Int, e = .returned (.int .i64 k) ∧ decide (0 ≤ k) = hasDigX (splitP L) x ∧ -1 ≤ k ∧ k ≤ 1048577) ∧ w = w' := by
    obtain ⟨n, hn⟩ : ∃ n, n = (splitP L).length := ⟨_, rfl⟩
    rw [← hn] at hH hx hlen ⊢
    have HN := hide hn
    have HR := hide hR
    have HX := hide hx
    have HLEN := hide hlen
    clear hn hR hx hlen
    go_enter Tryz.func64, Tryz.ntmps64
    go_wp2
    go_loop [8, 5] (fun i _ => ∃ k : Nat, k ≤ n ∧ i = .int .i64 (k : Int) ∧ Hid (∀ j, j < k → isDig ((rowG (splitP L) j).getD x 0) = false)) (fun i _ => n - (intOf i).toNat)
    case atStart => exact ⟨0, Nat.zero_le _, rfl, fun j h => by omega⟩
    case round =>
      obtain ⟨k, hk, rfl, hno⟩ := hrel
      by_cases hlt : k < n
      · have hki : (k : Int) < (n : Int) := by omega
        have hk' : k < (splitP L).length := by rw [← HN.out]; exact hlt
        have c0 := HR.out.2.2 k hk'
        obtain ⟨o1, e1, e2⟩ := rowV_slice g (offG (splitP L) k) (rowG (splitP L) k).length
        rw [e1] at c0
        have HS := hide ((HR.out.signs hk').at e2)
        have HG := hide (rowG_get (splitP L) k hk')
        have hxl := HX.out k hlt
        have hll := HLEN.out k hlt
        clear e1 e2 hk'
        cases hd : isDig ((rowG (splitP L) k).getD x 0)
        · have HD := hide hd
          clear hd
          go_wp2_with (go_at_call 49; refine (colTest_any B x g o1 _ (rowG (splitP L) k) _ hxl hll HS.out hB).mono ?_; rintro e w2 ⟨rfl, rfl⟩; rw [HD.out])
          go_round
          case rel =>
            refine ⟨k + 1, by omega, by go_num, fun j hj => ?_⟩
            by_cases hjk : j < k
            · exact hno j hjk
            · obtain rfl : j = k := by omega
              exact HD.out
          case measure => simp [intOf]; omega
        · have HD := hide hd
          clear hd
          go_wp2_with (go_at_call 49; refine (colTest_any B x g o1 _ (rowG (splitP L) k) _ hxl hll HS.out hB).mono ?_; rintro e w2 ⟨rfl, rfl⟩; rw [HD.out])
          go_returns
          refine ⟨⟨k, rfl, ?_, by omega, by omega⟩, rfl⟩
          rw [decide_eq_true (by omega)]
          symm
          unfold hasDigX
          exact List.any_eq_true.2 ⟨_, List.mem_of_getElem? HG.out, HD.out⟩
      · obtain rfl : k = n := by omega
        go_wp2
        go_returns
        refine ⟨⟨-1, rfl, ?_, by omega, by omega⟩, rfl⟩
        rw [decide_eq_false (by omega)]
        symm
        unfold hasDigX
        rw [List.any_eq_false]
        intro r hr
        obtain ⟨j, hj⟩ := List.mem_iff_getElem?.1 hr
        have hjl := (List.getElem?_eq_some_iff.1 hj).1
        have h1 := hno.out j (by rw [HN.out]; exact hjl)
        rw [rowG_get _ j hjl] at hj
        rw [← Option.some.inj hj, h1]
        decide
  go_enter Tryz.func48, Tryz.ntmps48
  go_wp2_with (go_at_call 64; refine key.mono ?_; rintro e w2 ⟨⟨k, rfl, hk, k1, k2⟩, rfl⟩; have HK := hide hk; clear hk)
  go_returns
  exact ⟨ret_bool HK.out, rfl⟩

set_option maxHeartbeats 3200000 in
theorem areFilled_any (L : List UInt8) (h g cap : Nat) (w : World) (hl : L.length ≤ 1048576) (hR : RowsIn w h g L) : Calls Tryz.prog 35 #[.slice (some ⟨h, 0, none⟩) (splitP L).length cap] w fun e w' => e = .returned (.bool (filledB L)) ∧ Below w.heap.size w w' := by
  obtain ⟨H, hH⟩ : ∃ H, H = (splitP L).length := ⟨_, rfl⟩
  have h0 : 0 < H := by rw [hH]; exact List.length_pos_iff.2 (splitP_ne L)
  have hoff : offG (splitP L) H = L.length + 1 := by rw [hH, ← joinG_len _ (splitP_ne L), join_split]
  have hH20 : H ≤ 1048577 := by
    have := offG_mono (splitP L) H 0 (by omega)
    rw [offG_zero, Nat.zero_add] at this
    omega
  have hlen : ∀ k, k < H → (rowG (splitP L) k).length ≤ 1048576 := fun k hk => by
    have h1 := offG_succ (splitP L) k (by omega)
    have h2 := offG_mono (splitP L) (H - (k + 1)) (k + 1) (by omega)
    rw [show k + 1 + (H - (k + 1)) = H from by omega, hoff] at h2
    omega
  have hW20 := hlen 0 h0
  rw [← hH]
  have HR := hide hR
  have HH := hide hH
  have HLEN := hide hlen
  clear hR hH hoff hlen
  obtain ⟨W, hW⟩ : ∃ W, W = (rowG (splitP L) 0).length := ⟨_, rfl⟩
  have HW := hide hW
  rw [← hW] at hW20
  clear hW
  go_enter Tryz.func35, Tryz.ntmps35
  go_wp2
  go_loop [8, 4] (fun i _ => ∃ k : Nat, k ≤ H ∧ i = .int .i64 (k : Int) ∧ Hid (∀ j, j < k → rowFine (splitP L) j = true)) (fun i _ => H - (intOf i).toNat)
  case atStart => exact ⟨0, Nat.zero_le _, rfl, fun j h => by omega⟩
  case round =>
    obtain ⟨k, hk, rfl, hno⟩ := hrel
    have cz := HR.out.2.2 0 (by rw [← HH.out]; exact h0)
    obtain ⟨o2, e2, -⟩ := rowV_slice g (offG (splitP L) 0) (rowG (splitP L) 0).length
    rw [e2, ← HW.out] at cz
    clear e2
    by_cases hlt : k < H
    · have hki : (k : Int) < (H : Int) := by omega
      have hk' : k < (splitP L).length := by rw [← HH.out]; exact hlt
      have c0 := HR.out.2.2 k hk'
      obtain ⟨o1, e1, e3⟩ := rowV_slice g (offG (splitP L) k) (rowG (splitP L) k).length
      rw [e1] at c0
      have HS := hide ((HR.out.signs hk').at e3)
      have hll := HLEN.out k hlt
      have HF := hide (show rowFine (splitP L) k = (decide ((rowG (splitP L) k).length = (rowG (splitP L) 0).length) && (rowG (splitP L) k).any isDig && !(rowG (splitP L) k).any strB) from rfl)
      have HFR := hide (fun h => filled_row (l := L) (k := k) hk' h)
      clear e1 e3 hk'
      obtain ⟨r, hr⟩ : ∃ r, r = rowG (splitP L) k := ⟨_, rfl⟩
      obtain ⟨a, ha⟩ : ∃ a, a = r.length := ⟨_, rfl⟩
      rw [← hr] at HF HS hll c0
      have HD1 := hide (fun (wx : World) (h : SignsAt wx g o1 r) => hasDig_any g o1 r.length r wx hll h)
      have HD2 := hide (fun (wx : World) (h : SignsAt wx g o1 r) => hasStr_any g o1 r.length r wx hll h)
      rw [← ha] at c0 hll HD1 HD2
      rw [← ha, ← HW.out] at HF
      clear hr ha
      by_cases hq : a = W
      · have e1 : ((a : Int) != (W : Int)) = false := by rw [hq]; simp
        have HQ := hide hq
        clear hq
        cases hd1 : r.any isDig
        · have HY := hide (HFR.out (by rw [HF.out, hd1]; simp))
          rw [hd1] at HD1
          clear hd1
          go_wp2_with (go_at_call 46; (with_reducible refine (HD1.out _ HS.out).mono ?_); rintro e w2 ⟨rfl, rfl⟩)
          go_returns
          exact ⟨ret_bool HY.out.symm, Below.refl _ _⟩
        · rw [hd1] at HD1
          cases hd2 : r.any strB
          · have HY := hide (show rowFine (splitP L) k = true from by rw [HF.out, hd1, hd2, HQ.out]; simp)
            rw [hd2] at HD2
            clear hd1 hd2
            go_wp2_with (go_at_call 46; (first | ((with_reducible refine (HD1.out _ HS.out).mono ?_); rintro e w2 ⟨rfl, rfl⟩) | ((with_reducible refine (HD2.out _ HS.out).mono ?_); rintro e w2 ⟨rfl, rfl⟩)))
            go_round
            case rel =>
              refine ⟨k + 1, by omega, by go_num, fun j hj => ?_⟩
              by_cases hjk : j < k
              · exact hno j hjk
              · obtain rfl : j = k := by omega
                exact HY.out
            case measure => simp [intOf]; omega
          · have HY := hide (HFR.out (by rw [HF.out, hd2]; simp))
            rw [hd2] at HD2
            clear hd1 hd2
            go_wp2_with (go_at_call 46; (first | ((with_reducible refine (HD1.out _ HS.out).mono ?_); rintro e w2 ⟨rfl, rfl⟩) | ((with_reducible refine (HD2.out _ HS.out).mono ?_); rintro e w2 ⟨rfl, rfl⟩)))
            go_returns
            exact ⟨ret_bool HY.out.symm, Below.refl _ _⟩
      · have e1 : ((a : Int) != (W : Int)) = true := by
          have : ¬ (a : Int) = (W : Int) := by omega
          simpa using this
        have HY := hide (HFR.out (by rw [HF.out, decide_eq_false hq]; rfl))
        clear hq
        go_wp2
        go_returns
        exact ⟨ret_bool HY.out.symm, Below.refl _ _⟩
    · obtain rfl : k = H := by omega
      go_wp2
      have HNO := hide hno.out
      clear hno
      go_loopw [33, 5] (fun i _ wr => ∃ x : Nat, x ≤ W ∧ i = .int .i64 (x : Int) ∧ Hid (∀ j, j < x → hasDigX (splitP L) j = true) ∧ Below w.heap.size w wr) (fun i _ _ => W - (intOf i).toNat)
      case atStart => exact ⟨0, Nat.zero_le _, rfl, fun j h => by omega, Below.refl _ _⟩
      case round =>
        obtain ⟨x, hx, rfl, hcol, hb⟩ := hrel
        have hsz := hb.size
        by_cases hxl : x < W
        · have hxi : (x : Int) < (W : Int) := by omega
          have HRX := hide (rowsIn_to hb HR.out rfl)
          have HIX := hide (fun (wx : World) (hr : RowsIn wx h g L) (B : Nat) (hB : wx.cell? ⟨B, 0, none⟩ = some (.int .i64 (x : Int))) => idxRows_any L B x h g cap wx hl hr (fun j hj => by
            have := HNO.out j (by rw [HH.out]; exact hj)
            unfold rowFine at this
            rw [Bool.and_eq_true, Bool.and_eq_true, decide_eq_true_eq] at this
            rw [this.1.1, ← HW.out]; exact hxl) (fun j hj => HLEN.out j (by rw [HH.out]; exact hj)) (by rw [← HH.out]; exact hH20) hB)
          rw [← HH.out] at HIX
          cases hd : hasDigX (splitP L) x
          · have HY := hide (filled_col (l := L) (x := x) (by rw [← HW.out]; exact hxl) hd)
            rw [hd] at HIX
            clear hd
            go_wp2_with (go_at_call 48; (refine (HIX.out _ (rowsIn_to ((Below.refl _ _).alloc (Nat.le_refl _) _) HRX.out rfl) wr.heap.size (by simp)).mono ?_); rintro e w2 ⟨rfl, rfl⟩)
            go_returns
            exact ⟨ret_bool HY.out.symm, hb.alloc hsz _⟩
          · have HY := hide hd
            rw [hd] at HIX
            clear hd
            go_wp2_with (go_at_call 48; (refine (HIX.out _ (rowsIn_to ((Below.refl _ _).alloc (Nat.le_refl _) _) HRX.out rfl) wr.heap.size (by simp)).mono ?_); rintro e w2 ⟨rfl, rfl⟩)
            go_roundw
            case rel =>
              refine ⟨x + 1, by omega, by go_num, fun j hj => ?_, hb.alloc hsz _⟩
              by_cases hjk : j < x
              · exact hcol j hjk
              · obtain rfl : j = x := by omega
                exact HY.out
            case measure => simp [intOf]; omega
        · obtain rfl : x = W := by omega
          go_wp2
          go_returns
          exact ⟨ret_bool (filled_all (fun j hj => HNO.out j (by rw [HH.out]; exact hj)) (fun j hj => hcol j (by rw [HW.out]; exact hj))).symm, hb⟩
end Go.Proofs.YtkknjokacinlaaaGreatDoor
