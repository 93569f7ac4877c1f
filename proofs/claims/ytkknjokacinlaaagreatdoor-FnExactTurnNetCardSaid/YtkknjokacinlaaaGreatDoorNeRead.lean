/- A grid's variable of the model of sixes; steps of its reader. The contract of the model's reading of sixes: spec.neRead; no condition. -/
import Derived.Test.YtkknjokacinlaaaGreatDoorOwnK
import Derived.Test.YtkknjokacinlaaaGreatDoorNet
import Derived.Test.YtkknjokacinlaaaGreatDoorNetA
import Derived.Test.YtkknjokacinlaaaGreatDoorWords
import Derived.Deep.RegionLaw
import Derived.Deep.DrawnRows
import Derived.OwnWalk
import Derived.Laws.IdiomStrings
namespace Go.Proofs.YtkknjokacinlaaaGreatDoor
set_option maxRecDepth 100000
set_option linter.all false
open Go.RowKit

/-- Block b is a grid's variable. -/
def IsGN (w : World) (b : Nat) (x y : Int) (v : Value) : Prop := w.heap[b]? = some (.cells #[.int .i64 x, .int .i64 y, v] 27 (0, 0))
theorem IsGN.lt {w : World} {b : Nat} {x y : Int} {v : Value} (h : IsGN w b x y v) : b < w.heap.size := by
  rcases Nat.lt_or_ge b w.heap.size with h' | h'
  · exact h'
  · simp [IsGN, Array.getElem?_eq_none h'] at h
theorem isGN_to {w w0 w1 : World} {b : Nat} {x y : Int} {v : Value} (hb : Below w0.heap.size w0 w1) (h : IsGN w b x y v) (e : w0.heap = w.heap) : IsGN w1 b x y v := by
  have hl := h.lt
  have := hb.block b (by rw [e]; exact hl)
  unfold IsGN at h ⊢
  rw [this, e]
  exact h
theorem IsGN.all {w : World} {b : Nat} {x y : Int} {v : Value} (h : IsGN w b x y v) : b < w.heap.size ∧ (w.cell? ⟨b, 0, none⟩ = some (.int .i64 x) ∧ w.cell? ⟨b, 1, none⟩ = some (.int .i64 y) ∧ w.cell? ⟨b, 2, none⟩ = some v) ∧
    w.frozen? ⟨b, 0, none⟩ = false ∧ w.frozen? ⟨b, 1, none⟩ = false ∧ w.frozen? ⟨b, 2, none⟩ = false := by
  refine ⟨h.lt, ?_⟩
  unfold IsGN at h
  simp [World.cell?, World.frozen?, h]
theorem IsGN.new {w : World} {x y : Int} {v : Value} : IsGN (w.alloc (.cells #[.int .i64 x, .int .i64 y, v] 27)) w.heap.size x y v := by
  show (w.heap.push _)[w.heap.size]? = _
  simp
theorem IsGN.alloc {w : World} {b : Nat} {x y : Int} {v : Value} (h : IsGN w b x y v) (o : Obj) : IsGN (w.alloc o) b x y v := (Below.heap_alloc w o b h.lt).trans h
theorem IsGN.other {w : World} {b : Nat} {x y : Int} {v : Value} (h : IsGN w b x y v) {p : Addr} (hp : b ≠ p.block) (u : Value) : IsGN (w.setCell p u) b x y v := (Below.heap_setCell w p u b hp).trans h
theorem IsGN.kept {w w1 : World} {b : Nat} {x y : Int} {v : Value} {row : Option Nat} (h : IsGN w b x y v) (hg : w.grownBy w1 row) (hne : some b ≠ row) : IsGN w1 b x y v := (hg.block b h.lt hne).trans h
theorem IsGN.set0 {w : World} {b : Nat} {x y : Int} {v : Value} (h : IsGN w b x y v) (u : Int) : IsGN (w.setCell ⟨b, 0, none⟩ (.int .i64 u)) b u y v := by
  have := cells_set h 0 (by simp) (.int .i64 u); simpa [IsGN] using this
theorem IsGN.set1 {w : World} {b : Nat} {x y : Int} {v : Value} (h : IsGN w b x y v) (u : Int) : IsGN (w.setCell ⟨b, 1, none⟩ (.int .i64 u)) b x u v := by
  have := cells_set h 1 (by simp) (.int .i64 u); simpa [IsGN] using this
theorem IsGN.set2 {w : World} {b : Nat} {x y : Int} {v : Value} (h : IsGN w b x y v) (u : Value) : IsGN (w.setCell ⟨b, 2, none⟩ u) b x y u := by
  have := cells_set h 2 (by simp) u; simpa [IsGN] using this
theorem IsGN.set3 {w : World} {b : Nat} {x y : Int} {v : Value} (h : IsGN w b x y v) (x' y' : Int) (v' : Value) : IsGN (((w.setCell ⟨b, 0, none⟩ (.int .i64 x')).setCell ⟨b, 1, none⟩ (.int .i64 y')).setCell ⟨b, 2, none⟩ v') b x' y' v' := ((h.set0 x').set1 y').set2 v'
theorem IsGN.load {w : World} {b : Nat} {x y : Int} {v : Value} (h : IsGN w b x y v) : (loadVar 27 ⟨b, 0, none⟩).run Tryz.prog w = .ok (.agg #[.int .i64 x, .int .i64 y, v]) w := by
  obtain ⟨_, ⟨c0, c1, c2⟩, _⟩ := h.all
  simp [go_sem, c0, c1, c2]
theorem ret_gridN {fn : Func} {p u : Tmp} {tmps : Array Value} {w : World} {b : Nat} {x y : Int} {v : Value} {ok : Bool} (h : fn.results = #[.cell p 27, .tmp u]) (hp : tmps.getD p undef = .pointer (some ⟨b, 0, none⟩)) (hu : tmps.getD u undef = .bool ok) (hd : IsGN w b x y v) :
    (results fn tmps).run Tryz.prog w = .ok (.tuple #[.agg #[.int .i64 x, .int .i64 y, v], .bool ok]) w := by
  rw [results_cell_tmp h, hp, hu]
  show ((loadVar 27 ⟨b, 0, none⟩).run Tryz.prog w).andThen _ = _
  rw [hd.load]
  rfl
theorem info_byteN : (Tryz.prog.info? 5).map (fun i => (i.zero, i.size, i.bytes)) = some (some (.int .u8 0), 1, 1) := by kernel_rfl

theorem below_set3N {B : Nat} {a w : World} {b : Nat} (h : Below B a w) (hb : B ≤ b) (u0 u1 u2 : Value) : Below B a (((w.setCell ⟨b, 0, none⟩ u0).setCell ⟨b, 1, none⟩ u1).setCell ⟨b, 2, none⟩ u2) := h |>.setCell hb _ |>.setCell hb _ |>.setCell hb _

/-- The text with its end's mark. -/
def markLN (s : ByteArray) : List UInt8 := s.data.toList ++ [47]
theorem markLN_len (s : ByteArray) : (markLN s).length = s.size + 1 := by simp [markLN]
theorem markLN_in (s : ByteArray) (k : Nat) (h : k < s.size) : (markLN s)[k]? = some s[k] := by
  unfold markLN
  rw [List.getElem?_append_left (by simpa using h)]
  simp [ByteArray.getElem_eq_getElem_data, h]
theorem markLN_end (s : ByteArray) : (markLN s)[s.size]? = some 47 := by
  unfold markLN
  rw [List.getElem?_append_right (by simp)]
  simp

theorem step_badN {m : MachN} (h : (0 < m.h ∧ m.x ≠ m.w) ∨ m.x = 0) : m.step 47 = none := by
  unfold MachN.step; rw [if_pos rfl, if_pos h]
theorem step_endN {m : MachN} (h : ¬ ((0 < m.h ∧ m.x ≠ m.w) ∨ m.x = 0)) : m.step 47 = some ⟨m.x, m.h + 1, 0, m.cells⟩ := by
  unfold MachN.step; rw [if_pos rfl, if_neg h]
theorem step_signN {m : MachN} {c : UInt8} (h : ¬ (c.toNat : Int) = 47) (ho : okN c = true) : m.step c = some ⟨m.w, m.h, m.x + 1, m.cells ++ [c]⟩ := by
  unfold MachN.step; rw [if_neg (fun e => h (by rw [e]; rfl)), if_pos ho]
theorem step_oddN {m : MachN} {c : UInt8} (h : ¬ (c.toNat : Int) = 47) (ho : okN c = false) : m.step c = none := by
  unfold MachN.step; rw [if_neg (fun e => h (by rw [e]; rfl)), if_neg (by rw [ho]; simp)]
end Go.Proofs.YtkknjokacinlaaaGreatDoor
namespace Go.Proofs.YtkknjokacinlaaaGreatDoor
set_option maxRecDepth 100000
set_option linter.all false
open Go.RowKit
attribute [local go_sem ↓] Go.wp_at_zero Go.wp_at_succ

/-- What neRead hands back. -/
def RdPost (s : ByteArray) (w : World) (e : Ending) (w' : World) : Prop :=
  (isRd s.data.toList = true ∧ ∃ v, e = .returned (.tuple #[.agg #[.int .i64 (width s.data.toList : Int), .int .i64 ((splitP s.data.toList).length : Int), v], .bool true]) ∧ w'.ownsRow w.heap.size 5 1 v (splitP s.data.toList).flatten.length (bytesV (splitP s.data.toList).flatten) ∧ Below w.heap.size w w') ∨
  (isRd s.data.toList = false ∧ e = .returned (.tuple #[.agg #[.int .i64 0, .int .i64 0, .slice none 0 0], .bool false]) ∧ Below w.heap.size w w')
theorem rdPost_no {s : ByteArray} {w w' : World} {e : Ending} (h : isRd s.data.toList = false) (he : e = .returned (.tuple #[.agg #[.int .i64 0, .int .i64 0, .slice none 0 0], .bool false])) (hb : Below w.heap.size w w') : RdPost s w e w' := .inr ⟨h, he, hb⟩
/-- What holds at each head of the loop. -/
def RdI (w wr : World) (m : MachN) (v : Value) : Prop :=
  IsGN wr w.heap.size 0 0 (.slice none 0 0) ∧ IsGN wr (w.heap.size + 1) m.w m.h v ∧ wr.ownsRow (w.heap.size + 2) 5 1 v m.cells.length (bytesV m.cells) ∧ Below w.heap.size w wr
theorem isRd_len {l : List UInt8} (h : isRd l = true) : l.length ≤ 41 := (rd_parts h).1
theorem neRead_long (s : ByteArray) (w : World) (h : 41 < s.size) : Calls Tryz.prog 11 #[.string s, .bool false] w (RdPost s w) := by
  have hno := hide (show isRd s.data.toList = false from by
    cases hb : isRd s.data.toList
    · rfl
    · have := isRd_len hb
      simp at this
      omega)
  have hi : (41 : Int) < (s.size : Int) := by omega
  clear h
  go_enter Tryz.func11, Tryz.ntmps11
  go_wp2
  have g0 : IsGN ((w.alloc (.cells #[.int .i64 0, .int .i64 0, .slice none 0 0] 27)).alloc (.cells #[.int .i64 0, .int .i64 0, .slice none 0 0] 27)) w.heap.size 0 0 (.slice none 0 0) := IsGN.new.alloc _
  have q0 : Below w.heap.size w ((w.alloc (.cells #[.int .i64 0, .int .i64 0, .slice none 0 0] 27)).alloc (.cells #[.int .i64 0, .int .i64 0, .slice none 0 0] 27)) := by go_grown
  refine bodyPost_ret (ret_gridN Tryz.results11 rfl rfl g0) rfl (rdPost_no hno.out rfl q0)
set_option maxHeartbeats 8000000 in
theorem neRead_short (s : ByteArray) (w : World) (h : s.size ≤ 41) : Calls Tryz.prog 11 #[.string s, .bool false] w (RdPost s w) := by
  obtain ⟨i0, hi, hz0, hz1, hz2⟩ := info_parts info_byteN
  have HI := hide hi
  have HZ0 := hide hz0
  have HZ1 := hide hz1
  have HZ2 := hide hz2
  clear hi hz0 hz1 hz2
  go_enter Tryz.func11, Tryz.ntmps11
  go_wp2
  go_loopw [7, 8, 9] (fun x i _ wr => ∃ (k : Nat) (m : MachN) (v : Value), k ≤ s.size + 1 ∧ i = .int .i64 (k : Int) ∧ x = .int .i64 (m.x : Int) ∧ machN0.run ((markLN s).take k) = some m ∧ RdI w wr m v) (fun _ i _ _ => s.size + 1 - (intOf i).toNat)
  case atStart =>
    refine ⟨0, machN0, .slice none 0 0, by omega, rfl, rfl, rfl, IsGN.new.alloc _, ?_, World.ownsRow_nil _ _ _ _, by go_grown⟩
    have := IsGN.new (w := w.alloc (.cells #[.int .i64 0, .int .i64 0, .slice none 0 0] 27)) (x := 0) (y := 0) (v := .slice none 0 0)
    simpa [machN0] using this
  case round =>
    obtain ⟨k, m, v, hk, rfl, rfl, hrun, g0, g1, hown, hb⟩ := hrel
    have hle := machN0_le hrun
    have hlt : ((markLN s).take k).length ≤ k := List.length_take_le _ _
    obtain ⟨b1, b2, b3, b4⟩ := hle
    have HR := hide hrun
    clear hrun
    obtain ⟨mw, mh, mx, mc⟩ := m
    simp only at g1 hown b1 b2 b3 b4 ⊢
    have c1 : mw ≤ 43 := by omega
    have c2 : mh ≤ 43 := by omega
    have c3 : mx ≤ 43 := by omega
    have c4 : mc.length ≤ 43 := by omega
    clear b1 b2 b3 b4 hlt
    obtain ⟨l0, ⟨r0, r1, r2⟩, s0, s1, s2⟩ := g0.all
    obtain ⟨l1, ⟨e0, e1, e2⟩, f0, f1, f2⟩ := g1.all
    by_cases hks : k ≤ s.size
    · by_cases hin : k < s.size
      · have hc := markLN_in s k hin
        by_cases h47 : (s[k].toNat : Int) = 47
        · have hc' : (markLN s)[k]? = some 47 := by
            rw [hc]
            congr 1
            apply UInt8.toNat_inj.1
            have : s[k].toNat = 47 := by omega
            rw [this]; rfl
          have HC := hide hc'
          obtain ⟨q1, q2⟩ := byte_eq h47
          clear hc hc' h47
          by_cases hx : mx = 0
          · have qx : ((mx : Int) == 0) = true := by rw [hx]; rfl
            by_cases hh : 0 < mh
            · have hh1 : (0 : Int) < (mh : Int) := by omega
              by_cases hxw : mx = mw
              · have qn : ((mx : Int) != (mw : Int)) = false := by rw [hxw]; simp
                have qe : ((mx : Int) == (mw : Int)) = true := by rw [hxw]; simp
                have HX := hide hx
                clear hx hxw
                have HN := hide (not_rd (runN_stopped HR.out HC.out (step_badN (.inr HX.out))))
                clear hown g1
                go_wp2
                refine bodyPost_ret (ret_gridN Tryz.results11 rfl rfl (g0.set3 0 0 (.slice none 0 0))) rfl (rdPost_no HN.out rfl ?_)
                exact below_set3N hb (Nat.le_refl _) _ _ _
              · have qn : ((mx : Int) != (mw : Int)) = true := bne_iff_ne.2 (by omega)
                have qe : ((mx : Int) == (mw : Int)) = false := beq_eq_false_iff_ne.2 (by omega)
                have HX := hide hx
                clear hx hxw
                have HN := hide (not_rd (runN_stopped HR.out HC.out (step_badN (.inr HX.out))))
                clear hown g1
                go_wp2
                refine bodyPost_ret (ret_gridN Tryz.results11 rfl rfl (g0.set3 0 0 (.slice none 0 0))) rfl (rdPost_no HN.out rfl ?_)
                exact below_set3N hb (Nat.le_refl _) _ _ _
            · have hh1 : (mh : Int) ≤ 0 := by omega
              have hh2 : decide ((0 : Int) < (mh : Int)) = false := decide_eq_false (by omega)
              have HX := hide hx
              clear hx hh
              have HN := hide (not_rd (runN_stopped HR.out HC.out (step_badN (.inr HX.out))))
              clear hown g1
              go_wp2
              refine bodyPost_ret (ret_gridN Tryz.results11 rfl rfl (g0.set3 0 0 (.slice none 0 0))) rfl (rdPost_no HN.out rfl ?_)
              exact below_set3N hb (Nat.le_refl _) _ _ _
          · have qx : ((mx : Int) == 0) = false := beq_eq_false_iff_ne.2 (by omega)
            by_cases hh : 0 < mh
            · have hh1 : (0 : Int) < (mh : Int) := by omega
              by_cases hxw : mx = mw
              · have qn : ((mx : Int) != (mw : Int)) = false := by rw [hxw]; simp
                have qe : ((mx : Int) == (mw : Int)) = true := by rw [hxw]; simp
                have HX := hide (show ¬ ((0 < mh ∧ mx ≠ mw) ∨ mx = 0) from by omega)
                clear hx hxw
                have HN := hide ((runN_take HR.out HC.out).trans (step_endN HX.out))
                have HO := hide hown
                have hs1 := hb.size
                clear hown r0 r1 r2 s0 s1 s2
                go_wp2
                go_roundw
                case rel =>
                  refine ⟨_, ⟨mx, mh + 1, 0, mc⟩, v, ?_, by go_num, rfl, HN.out, (g0.other (by simp) _).other (by simp) _, ?_, ?_, ?_⟩
                  · omega
                  · have := (g1.set0 (mx : Int)).set1 ((mh : Int) + 1)
                    simpa using this
                  · exact ownsRow_setCell_below (ownsRow_setCell_below HO.out (by simp) _) (by simp) _
                  · exact (hb.setCell (by simp) _).setCell (by simp) _
                case measure => simp [intOf] <;> omega
              · have qn : ((mx : Int) != (mw : Int)) = true := bne_iff_ne.2 (by omega)
                have qe : ((mx : Int) == (mw : Int)) = false := beq_eq_false_iff_ne.2 (by omega)
                have HX := hide (show (0 < mh ∧ mx ≠ mw) ∨ mx = 0 from by omega)
                clear hx hxw
                have HN := hide (not_rd (runN_stopped HR.out HC.out (step_badN HX.out)))
                clear hown g1
                go_wp2
                refine bodyPost_ret (ret_gridN Tryz.results11 rfl rfl (g0.set3 0 0 (.slice none 0 0))) rfl (rdPost_no HN.out rfl ?_)
                exact below_set3N hb (Nat.le_refl _) _ _ _
            · have hh1 : (mh : Int) ≤ 0 := by omega
              have hh2 : decide ((0 : Int) < (mh : Int)) = false := decide_eq_false (by omega)
              have HX := hide (show ¬ ((0 < mh ∧ mx ≠ mw) ∨ mx = 0) from by omega)
              clear hx hh
              have HN := hide ((runN_take HR.out HC.out).trans (step_endN HX.out))
              have HO := hide hown
              have hs1 := hb.size
              clear hown r0 r1 r2 s0 s1 s2
              go_wp2
              go_roundw
              case rel =>
                refine ⟨_, ⟨mx, mh + 1, 0, mc⟩, v, ?_, by go_num, rfl, HN.out, (g0.other (by simp) _).other (by simp) _, ?_, ?_, ?_⟩
                · omega
                · have := (g1.set0 (mx : Int)).set1 ((mh : Int) + 1)
                  simpa using this
                · exact ownsRow_setCell_below (ownsRow_setCell_below HO.out (by simp) _) (by simp) _
                · exact (hb.setCell (by simp) _).setCell (by simp) _
              case measure => simp [intOf] <;> omega
        · obtain ⟨q1, q2⟩ := byte_ne h47
          cases hok : okN s[k]
          · have HN := hide (not_rd (runN_stopped HR.out hc (step_oddN h47 hok)))
            rw [okN_int, Bool.or_eq_false_iff, decide_eq_false_iff_not] at hok
            obtain ⟨q3, q4⟩ := byte_ne hok.1
            have hdg := hok.2
            unfold isDig at hdg
            rw [decide_eq_false_iff_not] at hdg
            clear hc h47 hok hown g1
            by_cases h48 : (s[k].toNat : Int) < 48
            · obtain ⟨q5, q6⟩ := byte_ne (c := s[k]) (n := 111) (by omega)
              have h48' : ¬ 48 ≤ (s[k].toNat : Int) := by omega
              clear hdg h48'
              go_wp2
              refine bodyPost_ret (ret_gridN Tryz.results11 rfl rfl (g0.set3 0 0 (.slice none 0 0))) rfl (rdPost_no HN.out rfl ?_)
              exact below_set3N hb (Nat.le_refl _) _ _ _
            · have h1 : 48 ≤ (s[k].toNat : Int) := by omega
              have h3 : (57 : Int) < (s[k].toNat : Int) := by omega
              have hd57 : decide ((s[k].toNat : Int) ≤ 57) = false := decide_eq_false (by omega)
              clear hdg h48
              by_cases h111 : (s[k].toNat : Int) = 111
              · obtain ⟨q5, q6⟩ := byte_eq h111
                clear h111
                go_wp2
                refine bodyPost_ret (ret_gridN Tryz.results11 rfl rfl (g0.set3 0 0 (.slice none 0 0))) rfl (rdPost_no HN.out rfl ?_)
                exact below_set3N hb (Nat.le_refl _) _ _ _
              · obtain ⟨q5, q6⟩ := byte_ne h111
                clear h111
                go_wp2
                refine bodyPost_ret (ret_gridN Tryz.results11 rfl rfl (g0.set3 0 0 (.slice none 0 0))) rfl (rdPost_no HN.out rfl ?_)
                exact below_set3N hb (Nat.le_refl _) _ _ _
          · have HN := hide ((runN_take HR.out hc).trans (step_signN h47 hok))
            have hki : (k : Int) < (s.size : Int) := by omega
            have hq := hok
            rw [okN_int, Bool.or_eq_true, decide_eq_true_eq] at hq
            clear hc h47 hok
            have HCELL := hide (cell_one_newR wr (.int .u8 (s[k].toNat : Int)) 5)
            have H1C := hide (show ∀ u ∈ [Value.int .u8 (s[k].toNat : Int)], u.oneCell' = true from by
              intro u hu
              simp only [List.mem_singleton] at hu
              subst hu
              rfl)
            have hsz := hb.size
            have HJ := hide (show ∀ (v' : Value) (w4 : World), w4.ownsRow (w.heap.size + 2) 5 1 v' (mc.length + 1) (bytesV mc ++ [.int .u8 (s[k].toNat : Int)]) → (wr.alloc (.cells #[.int .u8 (s[k].toNat : Int)] 5)).drew.grownBy w4 v.ownBlock →
                IsGN w4 w.heap.size 0 0 (.slice none 0 0) ∧ IsGN w4 (w.heap.size + 1) mw mh v ∧ Below w.heap.size w w4 ∧ w.heap.size + 2 ≤ w4.heap.size from by
              intro v' w4 h1 h2
              have hne : ∀ j, j < w.heap.size + 2 → some j ≠ v.ownBlock := fun j hj e => by
                have := (hown.lt j e.symm).1
                omega
              have hA : IsGN (wr.alloc (.cells #[.int .u8 (s[k].toNat : Int)] 5)).drew w.heap.size 0 0 (.slice none 0 0) := g0.alloc _
              have hB : IsGN (wr.alloc (.cells #[.int .u8 (s[k].toNat : Int)] 5)).drew (w.heap.size + 1) mw mh v := g1.alloc _
              refine ⟨hA.kept h2 (hne _ (by omega)), hB.kept h2 (hne _ (by omega)), ?_, ?_⟩
              · refine (hb.alloc hsz _).drew.grown h2 (by show w.heap.size ≤ (World.alloc _ _).heap.size; simp; omega) (fun j hj => ?_)
                have := (hown.lt j hj).1
                omega
              · have h5 := h2.size
                have h6 : (wr.alloc (.cells #[.int .u8 (s[k].toNat : Int)] 5)).drew.heap.size = wr.heap.size + 1 := by show (World.alloc _ _).heap.size = _; simp
                have := g1.lt
                omega)
            have HO := hide hown
            clear hown r0 r1 r2 s0 s1 s2
            rcases hq with h46 | hdg
            · obtain ⟨q3, q4⟩ := byte_eq h46
              obtain ⟨q5, q6⟩ := byte_ne (c := s[k]) (n := 111) (by omega)
              have h48 : (s[k].toNat : Int) < 48 := by omega
              clear h46
              go_wp2
              go_region_law (refine step_append_ownR rfl (.tmp 64) (.tmp 68) 25 rfl (w.heap.size + 2) 5 i0 (.int .u8 0) 1 1 Tryz.underlying25 HI.out HZ0.out HZ1.out HZ2.out rfl (by decide) _ _ _ (by simp [Act.eval]) (own_drewR (HO.out.alloc _)) ⟨wr.heap.size, 0, none⟩ 1 1 [.int .u8 (s[k].toNat : Int)] (by simp [Act.eval]) rfl HCELL.out H1C.out (by unfold maxLen; omega) (by omega) (by show w.heap.size + 2 ≤ (World.alloc _ _).heap.size; simp; omega) ?_; intro v' w4 hown4 hg4; obtain ⟨G0, G1, B4, Z4⟩ := HJ.out v' w4 hown4 hg4; obtain ⟨L1, ⟨E0, E1, E2⟩, F0, F1, F2⟩ := G1.all; clear hg4; obtain ⟨gq, cq, rfl, hq1, hq2⟩ := own_form hown4 (by omega))
              all_goals
                have HO4 := hide hown4
                clear hown4
                go_wp2
                go_roundw
                case rel =>
                  refine ⟨_, ⟨mw, mh, mx + 1, mc ++ [s[k]]⟩, _, ?_, by go_num, by go_num, HN.out, G0.other (by simp) _, G1.set2 _, ?_, ?_⟩
                  · omega
                  · have h9 := ownsRow_setCell_below HO4.out (a := ⟨w.heap.size + 1, 2, none⟩) (by simp) (.slice (some ⟨gq, 0, none⟩) (mc.length + 1) cq)
                    rw [bytesV_snoc, List.length_append]
                    exact h9
                  · exact B4.setCell (by simp) _
                case measure => simp [intOf] <;> omega
            · unfold isDig at hdg
              rw [decide_eq_true_eq] at hdg
              obtain ⟨h1, h2⟩ := hdg
              obtain ⟨q3, q4⟩ := byte_ne (c := s[k]) (n := 46) (by omega)
              go_wp2
              go_region_law (refine step_append_ownR rfl (.tmp 64) (.tmp 68) 25 rfl (w.heap.size + 2) 5 i0 (.int .u8 0) 1 1 Tryz.underlying25 HI.out HZ0.out HZ1.out HZ2.out rfl (by decide) _ _ _ (by simp [Act.eval]) (own_drewR (HO.out.alloc _)) ⟨wr.heap.size, 0, none⟩ 1 1 [.int .u8 (s[k].toNat : Int)] (by simp [Act.eval]) rfl HCELL.out H1C.out (by unfold maxLen; omega) (by omega) (by show w.heap.size + 2 ≤ (World.alloc _ _).heap.size; simp; omega) ?_; intro v' w4 hown4 hg4; obtain ⟨G0, G1, B4, Z4⟩ := HJ.out v' w4 hown4 hg4; obtain ⟨L1, ⟨E0, E1, E2⟩, F0, F1, F2⟩ := G1.all; clear hg4; obtain ⟨gq, cq, rfl, hq1, hq2⟩ := own_form hown4 (by omega))
              all_goals
                have HO4 := hide hown4
                clear hown4
                go_wp2
                go_roundw
                case rel =>
                  refine ⟨_, ⟨mw, mh, mx + 1, mc ++ [s[k]]⟩, _, ?_, by go_num, by go_num, HN.out, G0.other (by simp) _, G1.set2 _, ?_, ?_⟩
                  · omega
                  · have h9 := ownsRow_setCell_below HO4.out (a := ⟨w.heap.size + 1, 2, none⟩) (by simp) (.slice (some ⟨gq, 0, none⟩) (mc.length + 1) cq)
                    rw [bytesV_snoc, List.length_append]
                    exact h9
                  · exact B4.setCell (by simp) _
                case measure => simp [intOf] <;> omega
      · have hke : k = s.size := by omega
        subst hke
        have HC := hide (markLN_end s)
        by_cases hx : mx = 0
        · have qx : ((mx : Int) == 0) = true := by rw [hx]; rfl
          by_cases hh : 0 < mh
          · have hh1 : (0 : Int) < (mh : Int) := by omega
            by_cases hxw : mx = mw
            · have qn : ((mx : Int) != (mw : Int)) = false := by rw [hxw]; simp
              have qe : ((mx : Int) == (mw : Int)) = true := by rw [hxw]; simp
              have HX := hide hx
              clear hx hxw
              have HN := hide (not_rd (runN_stopped HR.out HC.out (step_badN (.inr HX.out))))
              clear hown g1
              go_wp2
              refine bodyPost_ret (ret_gridN Tryz.results11 rfl rfl (g0.set3 0 0 (.slice none 0 0))) rfl (rdPost_no HN.out rfl ?_)
              exact below_set3N hb (Nat.le_refl _) _ _ _
            · have qn : ((mx : Int) != (mw : Int)) = true := bne_iff_ne.2 (by omega)
              have qe : ((mx : Int) == (mw : Int)) = false := beq_eq_false_iff_ne.2 (by omega)
              have HX := hide hx
              clear hx hxw
              have HN := hide (not_rd (runN_stopped HR.out HC.out (step_badN (.inr HX.out))))
              clear hown g1
              go_wp2
              refine bodyPost_ret (ret_gridN Tryz.results11 rfl rfl (g0.set3 0 0 (.slice none 0 0))) rfl (rdPost_no HN.out rfl ?_)
              exact below_set3N hb (Nat.le_refl _) _ _ _
          · have hh1 : (mh : Int) ≤ 0 := by omega
            have hh2 : decide ((0 : Int) < (mh : Int)) = false := decide_eq_false (by omega)
            have HX := hide hx
            clear hx hh
            have HN := hide (not_rd (runN_stopped HR.out HC.out (step_badN (.inr HX.out))))
            clear hown g1
            go_wp2
            refine bodyPost_ret (ret_gridN Tryz.results11 rfl rfl (g0.set3 0 0 (.slice none 0 0))) rfl (rdPost_no HN.out rfl ?_)
            exact below_set3N hb (Nat.le_refl _) _ _ _
        · have qx : ((mx : Int) == 0) = false := beq_eq_false_iff_ne.2 (by omega)
          by_cases hh : 0 < mh
          · have hh1 : (0 : Int) < (mh : Int) := by omega
            by_cases hxw : mx = mw
            · have qn : ((mx : Int) != (mw : Int)) = false := by rw [hxw]; simp
              have qe : ((mx : Int) == (mw : Int)) = true := by rw [hxw]; simp
              have HX := hide (show ¬ ((0 < mh ∧ mx ≠ mw) ∨ mx = 0) from by omega)
              clear hx hxw
              have HN := hide ((runN_take HR.out HC.out).trans (step_endN HX.out))
              have HO := hide hown
              have hs1 := hb.size
              clear hown r0 r1 r2 s0 s1 s2
              go_wp2
              go_roundw
              case rel =>
                refine ⟨_, ⟨mx, mh + 1, 0, mc⟩, v, ?_, by go_num, rfl, HN.out, (g0.other (by simp) _).other (by simp) _, ?_, ?_, ?_⟩
                · omega
                · have := (g1.set0 (mx : Int)).set1 ((mh : Int) + 1)
                  simpa using this
                · exact ownsRow_setCell_below (ownsRow_setCell_below HO.out (by simp) _) (by simp) _
                · exact (hb.setCell (by simp) _).setCell (by simp) _
              case measure => simp [intOf] <;> omega
            · have qn : ((mx : Int) != (mw : Int)) = true := bne_iff_ne.2 (by omega)
              have qe : ((mx : Int) == (mw : Int)) = false := beq_eq_false_iff_ne.2 (by omega)
              have HX := hide (show (0 < mh ∧ mx ≠ mw) ∨ mx = 0 from by omega)
              clear hx hxw
              have HN := hide (not_rd (runN_stopped HR.out HC.out (step_badN HX.out)))
              clear hown g1
              go_wp2
              refine bodyPost_ret (ret_gridN Tryz.results11 rfl rfl (g0.set3 0 0 (.slice none 0 0))) rfl (rdPost_no HN.out rfl ?_)
              exact below_set3N hb (Nat.le_refl _) _ _ _
          · have hh1 : (mh : Int) ≤ 0 := by omega
            have hh2 : decide ((0 : Int) < (mh : Int)) = false := decide_eq_false (by omega)
            have HX := hide (show ¬ ((0 < mh ∧ mx ≠ mw) ∨ mx = 0) from by omega)
            clear hx hh
            have HN := hide ((runN_take HR.out HC.out).trans (step_endN HX.out))
            have HO := hide hown
            have hs1 := hb.size
            clear hown r0 r1 r2 s0 s1 s2
            go_wp2
            go_roundw
            case rel =>
              refine ⟨_, ⟨mx, mh + 1, 0, mc⟩, v, ?_, by go_num, rfl, HN.out, (g0.other (by simp) _).other (by simp) _, ?_, ?_, ?_⟩
              · omega
              · have := (g1.set0 (mx : Int)).set1 ((mh : Int) + 1)
                simpa using this
              · exact ownsRow_setCell_below (ownsRow_setCell_below HO.out (by simp) _) (by simp) _
              · exact (hb.setCell (by simp) _).setCell (by simp) _
            case measure => simp [intOf] <;> omega
    · have hke : k = s.size + 1 := by omega
      subst hke
      have hrun := HR.out
      rw [List.take_of_length_le (Nat.le_of_eq (markLN_len s))] at hrun
      obtain ⟨hrd, hend⟩ := is_rd (by simpa using h) (show machN0.run (s.data.toList ++ [47]) = _ from hrun)
      injection hend with d3 d4 _ d5
      have HB := hide hrd
      have D3 := hide d3
      have D4 := hide d4
      have D5 := hide d5
      have hpos : 0 < mc.length := by
        obtain ⟨p1, p2, p3, -⟩ := rd_parts hrd
        have h1 := flat_even p3
        have h2 : 0 < (splitP s.data.toList).length := List.length_pos_iff.2 (splitP_ne _)
        rw [d5, h1]
        exact Nat.mul_pos (by omega) h2
      obtain ⟨gb, cap, rfl, hgb, hgl⟩ := own_form hown hpos
      have hs1 := hb.size
      have HO := hide hown
      clear hrd d3 d4 d5 hown hrun hpos
      go_wp2
      refine bodyPost_ret (ret_gridN Tryz.results11 rfl rfl (g0.set3 (mw : Int) (mh : Int) (.slice (some ⟨gb, 0, none⟩) mc.length cap))) rfl (.inl ⟨HB.out, _, by rw [← D3.out, ← D4.out], ?_, ?_⟩)
      · rw [← D5.out]
        exact own_mono (ownsRow_setCell_below (ownsRow_setCell_below (ownsRow_setCell_below HO.out (by simp) _) (by simp) _) (by simp) _) (by omega)
      · exact below_set3N hb (Nat.le_refl _) _ _ _
theorem neRead_any (s : ByteArray) (w : World) : Calls Tryz.prog 11 #[.string s, .bool false] w (RdPost s w) := by
  by_cases h : s.size ≤ 41
  · exact neRead_short s w h
  · exact neRead_long s w (by omega)
end Go.Proofs.YtkknjokacinlaaaGreatDoor
