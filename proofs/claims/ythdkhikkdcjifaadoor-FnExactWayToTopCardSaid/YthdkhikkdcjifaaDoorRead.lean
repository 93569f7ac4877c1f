/- The contract of the model's reading of boards. Condition: at most 1048576 bytes. -/
import Derived.Test.YthdkhikkdcjifaaDoorOwnK
import Derived.Test.YthdkhikkdcjifaaDoorRowsOf
import Derived.Test.YthdkhikkdcjifaaDoorWords
import Derived.Deep.RegionLaw
import Derived.Deep.DrawnRows
import Derived.OwnWalk
import Derived.Laws.IdiomStrings
namespace Go.Proofs.YthdkhikkdcjifaaDoor
set_option maxRecDepth 100000
set_option linter.all false
open Go.RowKit
attribute [local go_sem ↓] Go.wp_at_zero Go.wp_at_succ

/-- Block b is a grid's variable. -/
def IsG (w : World) (b : Nat) (x y : Int) (v : Value) : Prop := w.heap[b]? = some (.cells #[.int .i64 x, .int .i64 y, v] 59 (0, 0))
theorem IsG.lt {w : World} {b : Nat} {x y : Int} {v : Value} (h : IsG w b x y v) : b < w.heap.size := by
  rcases Nat.lt_or_ge b w.heap.size with h' | h'
  · exact h'
  · simp [IsG, Array.getElem?_eq_none h'] at h
theorem isG_to {w w0 w1 : World} {b : Nat} {x y : Int} {v : Value} (hb : Below w0.heap.size w0 w1) (h : IsG w b x y v) (e : w0.heap = w.heap) : IsG w1 b x y v := by
  have hl := h.lt
  have := hb.block b (by rw [e]; exact hl)
  unfold IsG at h ⊢
  rw [this, e]
  exact h
theorem IsG.all {w : World} {b : Nat} {x y : Int} {v : Value} (h : IsG w b x y v) : b < w.heap.size ∧ (w.cell? ⟨b, 0, none⟩ = some (.int .i64 x) ∧ w.cell? ⟨b, 1, none⟩ = some (.int .i64 y) ∧ w.cell? ⟨b, 2, none⟩ = some v) ∧
    w.frozen? ⟨b, 0, none⟩ = false ∧ w.frozen? ⟨b, 1, none⟩ = false ∧ w.frozen? ⟨b, 2, none⟩ = false := by
  refine ⟨h.lt, ?_⟩
  unfold IsG at h
  simp [World.cell?, World.frozen?, h]
theorem IsG.new {w : World} {x y : Int} {v : Value} : IsG (w.alloc (.cells #[.int .i64 x, .int .i64 y, v] 59)) w.heap.size x y v := by
  show (w.heap.push _)[w.heap.size]? = _
  simp
theorem IsG.alloc {w : World} {b : Nat} {x y : Int} {v : Value} (h : IsG w b x y v) (o : Obj) : IsG (w.alloc o) b x y v := (Below.heap_alloc w o b h.lt).trans h
theorem IsG.other {w : World} {b : Nat} {x y : Int} {v : Value} (h : IsG w b x y v) {p : Addr} (hp : b ≠ p.block) (u : Value) : IsG (w.setCell p u) b x y v := (Below.heap_setCell w p u b hp).trans h
theorem IsG.kept {w w1 : World} {b : Nat} {x y : Int} {v : Value} {row : Option Nat} (h : IsG w b x y v) (hg : w.grownBy w1 row) (hne : some b ≠ row) : IsG w1 b x y v := (hg.block b h.lt hne).trans h
theorem IsG.set0 {w : World} {b : Nat} {x y : Int} {v : Value} (h : IsG w b x y v) (u : Int) : IsG (w.setCell ⟨b, 0, none⟩ (.int .i64 u)) b u y v := by
  have := cells_set h 0 (by simp) (.int .i64 u); simpa [IsG] using this
theorem IsG.set1 {w : World} {b : Nat} {x y : Int} {v : Value} (h : IsG w b x y v) (u : Int) : IsG (w.setCell ⟨b, 1, none⟩ (.int .i64 u)) b x u v := by
  have := cells_set h 1 (by simp) (.int .i64 u); simpa [IsG] using this
theorem IsG.set2 {w : World} {b : Nat} {x y : Int} {v : Value} (h : IsG w b x y v) (u : Value) : IsG (w.setCell ⟨b, 2, none⟩ u) b x y u := by
  have := cells_set h 2 (by simp) u; simpa [IsG] using this
theorem IsG.set3 {w : World} {b : Nat} {x y : Int} {v : Value} (h : IsG w b x y v) (x' y' : Int) (v' : Value) : IsG (((w.setCell ⟨b, 0, none⟩ (.int .i64 x')).setCell ⟨b, 1, none⟩ (.int .i64 y')).setCell ⟨b, 2, none⟩ v') b x' y' v' := ((h.set0 x').set1 y').set2 v'
theorem IsG.load {w : World} {b : Nat} {x y : Int} {v : Value} (h : IsG w b x y v) : (loadVar 59 ⟨b, 0, none⟩).run Tryd.prog w = .ok (.agg #[.int .i64 x, .int .i64 y, v]) w := by
  obtain ⟨_, ⟨c0, c1, c2⟩, _⟩ := h.all
  simp [go_sem, c0, c1, c2]
theorem ret_grid2 {fn : Func} {p u : Tmp} {tmps : Array Value} {w : World} {b : Nat} {x y : Int} {v : Value} {ok : Bool} (h : fn.results = #[.cell p 59, .tmp u]) (hp : tmps.getD p undef = .pointer (some ⟨b, 0, none⟩)) (hu : tmps.getD u undef = .bool ok) (hd : IsG w b x y v) :
    (results fn tmps).run Tryd.prog w = .ok (.tuple #[.agg #[.int .i64 x, .int .i64 y, v], .bool ok]) w := by
  rw [results_cell_tmp h, hp, hu]
  show ((loadVar 59 ⟨b, 0, none⟩).run Tryd.prog w).andThen _ = _
  rw [hd.load]
  rfl
theorem info_byte : (Tryd.prog.info? 5).map (fun i => (i.zero, i.size, i.bytes)) = some (some (.int .u8 0), 1, 1) := by kernel_rfl

/-- What boRead hands back. -/
def ReadPost (s : ByteArray) (w : World) (e : Ending) (w' : World) : Prop :=
  (isBd s.data.toList = true ∧ ∃ v, e = .returned (.tuple #[.agg #[.int .i64 (width s.data.toList : Int), .int .i64 ((splitP s.data.toList).length : Int), v], .bool true]) ∧ w'.ownsRow w.heap.size 5 1 v (splitP s.data.toList).flatten.length (bytesV (splitP s.data.toList).flatten) ∧ Below w.heap.size w w') ∨
  (isBd s.data.toList = false ∧ e = .returned (.tuple #[.agg #[.int .i64 0, .int .i64 0, .slice none 0 0], .bool false]) ∧ Below w.heap.size w w')

/-- What holds at each head of the loop. -/
def ReadI (w wr : World) (m : Mach) (v : Value) : Prop :=
  IsG wr w.heap.size 0 0 (.slice none 0 0) ∧ IsG wr (w.heap.size + 1) m.w m.h v ∧ wr.ownsRow (w.heap.size + 2) 5 1 v m.cells.length (bytesV m.cells) ∧ Below w.heap.size w wr
theorem below_set3 {B : Nat} {a w : World} {b : Nat} (h : Below B a w) (hb : B ≤ b) (u0 u1 u2 : Value) : Below B a (((w.setCell ⟨b, 0, none⟩ u0).setCell ⟨b, 1, none⟩ u1).setCell ⟨b, 2, none⟩ u2) := h |>.setCell hb _ |>.setCell hb _ |>.setCell hb _

theorem readPost_no {s : ByteArray} {w w' : World} {e : Ending} (h : isBd s.data.toList = false) (he : e = .returned (.tuple #[.agg #[.int .i64 0, .int .i64 0, .slice none 0 0], .bool false])) (hb : Below w.heap.size w w') : ReadPost s w e w' := .inr ⟨h, he, hb⟩

/-- The text with its end's mark. -/
def markL (s : ByteArray) : List UInt8 := s.data.toList ++ [47]
theorem markL_len (s : ByteArray) : (markL s).length = s.size + 1 := by simp [markL]
theorem markL_in (s : ByteArray) (k : Nat) (h : k < s.size) : (markL s)[k]? = some s[k] := by
  unfold markL
  rw [List.getElem?_append_left (by simpa using h)]
  simp [ByteArray.getElem_eq_getElem_data, h]
theorem markL_end (s : ByteArray) : (markL s)[s.size]? = some 47 := by
  unfold markL
  rw [List.getElem?_append_right (by simp)]
  simp

theorem boRead_long (s : ByteArray) (w : World) (hs : s.size ≤ 1048576) (h : 42 < s.size) : Calls Tryd.prog 69 #[.string s] w (ReadPost s w) := by
  have hno := hide (show isBd s.data.toList = false from by
    cases hb : isBd s.data.toList
    · rfl
    · have := isBd_len hb
      simp at this
      omega)
  have hi : (42 : Int) < (s.size : Int) := by omega
  clear h
  go_enter Tryd.func69, Tryd.ntmps69
  go_wp2
  have g0 : IsG ((w.alloc (.cells #[.int .i64 0, .int .i64 0, .slice none 0 0] 59)).alloc (.cells #[.int .i64 0, .int .i64 0, .slice none 0 0] 59)) w.heap.size 0 0 (.slice none 0 0) := IsG.new.alloc _
  have q0 : Below w.heap.size w ((w.alloc (.cells #[.int .i64 0, .int .i64 0, .slice none 0 0] 59)).alloc (.cells #[.int .i64 0, .int .i64 0, .slice none 0 0] 59)) := by go_grown
  refine bodyPost_ret (ret_grid2 Tryd.results69 rfl rfl g0) rfl (readPost_no hno.out rfl q0)

theorem step_bad {m : Mach} (h : (0 < m.h ∧ m.x ≠ m.w) ∨ m.x = 0) : m.step 47 = none := by
  unfold Mach.step; rw [if_pos rfl, if_pos h]
theorem step_end {m : Mach} (h : ¬ ((0 < m.h ∧ m.x ≠ m.w) ∨ m.x = 0)) : m.step 47 = some ⟨m.x, m.h + 1, 0, m.cells⟩ := by
  unfold Mach.step; rw [if_pos rfl, if_neg h]
theorem step_sign {m : Mach} {c : UInt8} (h : ¬ (c.toNat : Int) = 47) (ho : okC c = true) : m.step c = some ⟨m.w, m.h, m.x + 1, m.cells ++ [c]⟩ := by
  unfold Mach.step; rw [if_neg (fun e => h (by rw [e]; rfl)), if_pos ho]
theorem step_odd {m : Mach} {c : UInt8} (h : ¬ (c.toNat : Int) = 47) (ho : okC c = false) : m.step c = none := by
  unfold Mach.step; rw [if_neg (fun e => h (by rw [e]; rfl)), if_neg (by rw [ho]; simp)]
theorem read_end {s : ByteArray} {m : Mach} (h : mach0.run (markL s) = some m) : 1 ≤ m.w ∧ 0 < m.cells.length ∧ m.w = width s.data.toList ∧ m.h = (splitP s.data.toList).length ∧ m.cells = (splitP s.data.toList).flatten := by
  unfold markL at h
  rw [read_rows] at h
  split at h
  · rename_i hc
    have hm : m = ⟨width s.data.toList, (splitP s.data.toList).length, 0, (splitP s.data.toList).flatten⟩ := (Option.some.inj h).symm
    subst hm
    refine ⟨hc.1, ?_, rfl, rfl, rfl⟩
    show 0 < (splitP s.data.toList).flatten.length
    rw [flat_len _ _ hc.2]
    have h1 : 0 < (splitP s.data.toList).length := List.length_pos_iff.2 (splitP_ne _)
    exact Nat.mul_pos hc.1 h1
  · cases h

set_option maxHeartbeats 4000000 in
theorem boRead_short (s : ByteArray) (w : World) (h : s.size ≤ 42) : Calls Tryd.prog 69 #[.string s] w (ReadPost s w) := by
  obtain ⟨i0, hi, hz0, hz1, hz2⟩ := info_parts info_byte
  have HI := hide hi
  have HZ0 := hide hz0
  have HZ1 := hide hz1
  have HZ2 := hide hz2
  clear hi hz0 hz1 hz2
  go_enter Tryd.func69, Tryd.ntmps69
  go_wp2
  go_loopw [5, 6] (fun x i wr => ∃ (k : Nat) (m : Mach) (v : Value), k ≤ s.size + 1 ∧ i = .int .i64 (k : Int) ∧ x = .int .i64 (m.x : Int) ∧ mach0.run ((markL s).take k) = some m ∧ ReadI w wr m v) (fun _ i _ => s.size + 1 - (intOf i).toNat)
  case atStart =>
    refine ⟨0, mach0, .slice none 0 0, by omega, rfl, rfl, rfl, IsG.new.alloc _, ?_, World.ownsRow_nil _ _ _ _, by go_grown⟩
    have := IsG.new (w := w.alloc (.cells #[.int .i64 0, .int .i64 0, .slice none 0 0] 59)) (x := 0) (y := 0) (v := .slice none 0 0)
    simpa [mach0] using this
  case round =>
    obtain ⟨k, m, v, hk, rfl, rfl, hrun, g0, g1, hown, hb⟩ := hrel
    have hle := mach0_le hrun
    have hlt : ((markL s).take k).length ≤ k := List.length_take_le _ _
    obtain ⟨b1, b2, b3, b4⟩ := hle
    have HR := hide hrun
    clear hrun
    obtain ⟨mw, mh, mx, mc⟩ := m
    simp only at g1 hown b1 b2 b3 b4 ⊢
    have c1 : mw ≤ 43 := by omega
    have c2 : mh ≤ 43 := by omega
    have c3 : mx ≤ 43 := by omega
    have c4 : mc.length ≤ 43 := by omega
    clear b1 b2 b3 b4 hlt
    obtain ⟨l0, ⟨r0, r1, r2⟩, s0, s1, s2⟩ := g0.all
    obtain ⟨l1, ⟨e0, e1, e2⟩, f0, f1, f2⟩ := g1.all
    by_cases hks : k ≤ s.size
    · by_cases hin : k < s.size
      · have hc := markL_in s k hin
        by_cases h47 : (s[k].toNat : Int) = 47
        · have hc' : (markL s)[k]? = some 47 := by
            rw [hc]
            congr 1
            apply UInt8.toNat_inj.1
            have : s[k].toNat = 47 := by omega
            rw [this]; rfl
          have HC := hide hc'
          obtain ⟨q1, q2⟩ := byte_eq h47
          clear hc hc' h47
          by_cases hx : mx = 0
          · have qx : ((mx : Int) == 0) = true := by rw [hx]; rfl
            by_cases hh : 0 < mh
            · have hh1 : (0 : Int) < (mh : Int) := by omega
              by_cases hxw : mx = mw
              · have qn : ((mx : Int) != (mw : Int)) = false := by rw [hxw]; simp
                have qe : ((mx : Int) == (mw : Int)) = true := by rw [hxw]; simp
                have HX := hide hx
                clear hx
                clear hxw
                have HN := hide (not_board (run_stopped HR.out HC.out (step_bad (.inr HX.out))))
                clear hown g1
                go_wp2
                refine bodyPost_ret (ret_grid2 Tryd.results69 rfl rfl (g0.set3 0 0 (.slice none 0 0))) rfl (readPost_no HN.out rfl ?_)
                exact below_set3 hb (Nat.le_refl _) _ _ _
              · have qn : ((mx : Int) != (mw : Int)) = true := bne_iff_ne.2 (by omega)
                have qe : ((mx : Int) == (mw : Int)) = false := beq_eq_false_iff_ne.2 (by omega)
                have HX := hide hx
                clear hx
                clear hxw
                have HN := hide (not_board (run_stopped HR.out HC.out (step_bad (.inr HX.out))))
                clear hown g1
                go_wp2
                refine bodyPost_ret (ret_grid2 Tryd.results69 rfl rfl (g0.set3 0 0 (.slice none 0 0))) rfl (readPost_no HN.out rfl ?_)
                exact below_set3 hb (Nat.le_refl _) _ _ _
            · have hh1 : (mh : Int) ≤ 0 := by omega
              have hh2 : decide ((0 : Int) < (mh : Int)) = false := decide_eq_false (by omega)
              have HX := hide hx
              clear hx hh
              have HN := hide (not_board (run_stopped HR.out HC.out (step_bad (.inr HX.out))))
              clear hown g1
              go_wp2
              refine bodyPost_ret (ret_grid2 Tryd.results69 rfl rfl (g0.set3 0 0 (.slice none 0 0))) rfl (readPost_no HN.out rfl ?_)
              exact below_set3 hb (Nat.le_refl _) _ _ _
          · have qx : ((mx : Int) == 0) = false := beq_eq_false_iff_ne.2 (by omega)
            by_cases hh : 0 < mh
            · have hh1 : (0 : Int) < (mh : Int) := by omega
              by_cases hxw : mx = mw
              · have qn : ((mx : Int) != (mw : Int)) = false := by rw [hxw]; simp
                have qe : ((mx : Int) == (mw : Int)) = true := by rw [hxw]; simp
                have HX := hide (show ¬ ((0 < mh ∧ mx ≠ mw) ∨ mx = 0) from by omega)
                clear hx hxw
                have HN := hide ((run_take HR.out HC.out).trans (step_end HX.out))
                have HO := hide hown
                have hs1 := hb.size
                clear hown r0 r1 r2 s0 s1 s2
                go_wp2
                go_roundw
                case rel =>
                  refine ⟨_, ⟨mx, mh + 1, 0, mc⟩, v, ?_, by go_num, rfl, HN.out, (g0.other (by simp) _).other (by simp) _, ?_, ?_, ?_⟩
                  · omega
                  · have := (g1.set0 (mx : Int)).set1 ((mh : Int) + 1)
                    simpa using this
                  · exact ownsRow_setCell_below (ownsRow_setCell_below HO.out (by simp) _) (by simp) _
                  · exact (hb.setCell (by simp) _).setCell (by simp) _
                case measure => simp [intOf] <;> omega
              · have qn : ((mx : Int) != (mw : Int)) = true := bne_iff_ne.2 (by omega)
                have qe : ((mx : Int) == (mw : Int)) = false := beq_eq_false_iff_ne.2 (by omega)
                have HX := hide (show (0 < mh ∧ mx ≠ mw) ∨ mx = 0 from by omega)
                clear hx hxw
                have HN := hide (not_board (run_stopped HR.out HC.out (step_bad HX.out)))
                clear hown g1
                go_wp2
                refine bodyPost_ret (ret_grid2 Tryd.results69 rfl rfl (g0.set3 0 0 (.slice none 0 0))) rfl (readPost_no HN.out rfl ?_)
                exact below_set3 hb (Nat.le_refl _) _ _ _
            · have hh1 : (mh : Int) ≤ 0 := by omega
              have hh2 : decide ((0 : Int) < (mh : Int)) = false := decide_eq_false (by omega)
              have HX := hide (show ¬ ((0 < mh ∧ mx ≠ mw) ∨ mx = 0) from by omega)
              clear hx hh
              have HN := hide ((run_take HR.out HC.out).trans (step_end HX.out))
              have HO := hide hown
              have hs1 := hb.size
              clear hown r0 r1 r2 s0 s1 s2
              go_wp2
              go_roundw
              case rel =>
                refine ⟨_, ⟨mx, mh + 1, 0, mc⟩, v, ?_, by go_num, rfl, HN.out, (g0.other (by simp) _).other (by simp) _, ?_, ?_, ?_⟩
                · omega
                · have := (g1.set0 (mx : Int)).set1 ((mh : Int) + 1)
                  simpa using this
                · exact ownsRow_setCell_below (ownsRow_setCell_below HO.out (by simp) _) (by simp) _
                · exact (hb.setCell (by simp) _).setCell (by simp) _
              case measure => simp [intOf] <;> omega
        · obtain ⟨q1, q2⟩ := byte_ne h47
          cases hok : okC s[k]
          · have HN := hide (not_board (run_stopped HR.out hc (step_odd h47 hok)))
            rw [okC_int, Bool.or_eq_false_iff, decide_eq_false_iff_not, decide_eq_false_iff_not] at hok
            obtain ⟨q3, q4⟩ := byte_ne hok.1
            obtain ⟨q5, q6⟩ := byte_ne hok.2
            clear hc h47 hok hown g1
            go_wp2
            refine bodyPost_ret (ret_grid2 Tryd.results69 rfl rfl (g0.set3 0 0 (.slice none 0 0))) rfl (readPost_no HN.out rfl ?_)
            exact below_set3 hb (Nat.le_refl _) _ _ _
          · have HN := hide ((run_take HR.out hc).trans (step_sign h47 hok))
            have hki : (k : Int) < (s.size : Int) := by omega
            have hq := hok
            rw [okC_int, Bool.or_eq_true, decide_eq_true_eq, decide_eq_true_eq] at hq
            clear hc h47 hok
            have HCELL := hide (cell_one_newR wr (.int .u8 (s[k].toNat : Int)) 5)
            have H1C := hide (show ∀ u ∈ [Value.int .u8 (s[k].toNat : Int)], u.oneCell' = true from by
              intro u hu
              simp only [List.mem_singleton] at hu
              subst hu
              rfl)
            have hsz := hb.size
            have HJ := hide (show ∀ (v' : Value) (w4 : World), w4.ownsRow (w.heap.size + 2) 5 1 v' (mc.length + 1) (bytesV mc ++ [.int .u8 (s[k].toNat : Int)]) → (wr.alloc (.cells #[.int .u8 (s[k].toNat : Int)] 5)).drew.grownBy w4 v.ownBlock →
                IsG w4 w.heap.size 0 0 (.slice none 0 0) ∧ IsG w4 (w.heap.size + 1) mw mh v ∧ Below w.heap.size w w4 ∧ w.heap.size + 2 ≤ w4.heap.size from by
              intro v' w4 h1 h2
              have hne : ∀ j, j < w.heap.size + 2 → some j ≠ v.ownBlock := fun j hj e => by
                have := (hown.lt j e.symm).1
                omega
              have hA : IsG (wr.alloc (.cells #[.int .u8 (s[k].toNat : Int)] 5)).drew w.heap.size 0 0 (.slice none 0 0) := g0.alloc _
              have hB : IsG (wr.alloc (.cells #[.int .u8 (s[k].toNat : Int)] 5)).drew (w.heap.size + 1) mw mh v := g1.alloc _
              refine ⟨hA.kept h2 (hne _ (by omega)), hB.kept h2 (hne _ (by omega)), ?_, ?_⟩
              · refine (hb.alloc hsz _).drew.grown h2 (by show w.heap.size ≤ (World.alloc _ _).heap.size; simp; omega) (fun j hj => ?_)
                have := (hown.lt j hj).1
                omega
              · have h5 := h2.size
                have h6 : (wr.alloc (.cells #[.int .u8 (s[k].toNat : Int)] 5)).drew.heap.size = wr.heap.size + 1 := by show (World.alloc _ _).heap.size = _; simp
                have := g1.lt
                omega)
            have HO := hide hown
            clear hown r0 r1 r2 s0 s1 s2
            rcases hq with h46 | h35
            · obtain ⟨q3, q4⟩ := byte_eq h46
              clear h46
              go_wp2
              go_region_law (refine step_append_ownR rfl (.tmp 40) (.tmp 44) 57 rfl (w.heap.size + 2) 5 i0 (.int .u8 0) 1 1 Tryd.underlying57 HI.out HZ0.out HZ1.out HZ2.out rfl (by decide) _ _ _ (by simp [Act.eval]) (own_drewR (HO.out.alloc _)) ⟨wr.heap.size, 0, none⟩ 1 1 [.int .u8 (s[k].toNat : Int)] (by simp [Act.eval]) rfl HCELL.out H1C.out (by unfold maxLen; omega) (by omega) (by show w.heap.size + 2 ≤ (World.alloc _ _).heap.size; simp; omega) ?_; intro v' w4 hown4 hg4; obtain ⟨G0, G1, B4, Z4⟩ := HJ.out v' w4 hown4 hg4; obtain ⟨L1, ⟨E0, E1, E2⟩, F0, F1, F2⟩ := G1.all; clear hg4; obtain ⟨gq, cq, rfl, hq1, hq2⟩ := own_form hown4 (by omega))
              all_goals
                have HO4 := hide hown4
                clear hown4
                go_wp2
                go_roundw
                case rel =>
                  refine ⟨_, ⟨mw, mh, mx + 1, mc ++ [s[k]]⟩, _, ?_, by go_num, by go_num, HN.out, G0.other (by simp) _, G1.set2 _, ?_, ?_⟩
                  · omega
                  · have h9 := ownsRow_setCell_below HO4.out (a := ⟨w.heap.size + 1, 2, none⟩) (by simp) (.slice (some ⟨gq, 0, none⟩) (mc.length + 1) cq)
                    rw [bytesV_snoc, List.length_append]
                    exact h9
                  · exact B4.setCell (by simp) _
                case measure => simp [intOf] <;> omega
            · obtain ⟨q3, q4⟩ := byte_eq h35
              have h46 : ¬ (s[k].toNat : Int) = 46 := by omega
              obtain ⟨q5, q6⟩ := byte_ne h46
              clear h35 h46
              go_wp2
              go_region_law (refine step_append_ownR rfl (.tmp 40) (.tmp 44) 57 rfl (w.heap.size + 2) 5 i0 (.int .u8 0) 1 1 Tryd.underlying57 HI.out HZ0.out HZ1.out HZ2.out rfl (by decide) _ _ _ (by simp [Act.eval]) (own_drewR (HO.out.alloc _)) ⟨wr.heap.size, 0, none⟩ 1 1 [.int .u8 (s[k].toNat : Int)] (by simp [Act.eval]) rfl HCELL.out H1C.out (by unfold maxLen; omega) (by omega) (by show w.heap.size + 2 ≤ (World.alloc _ _).heap.size; simp; omega) ?_; intro v' w4 hown4 hg4; obtain ⟨G0, G1, B4, Z4⟩ := HJ.out v' w4 hown4 hg4; obtain ⟨L1, ⟨E0, E1, E2⟩, F0, F1, F2⟩ := G1.all; clear hg4; obtain ⟨gq, cq, rfl, hq1, hq2⟩ := own_form hown4 (by omega))
              all_goals
                have HO4 := hide hown4
                clear hown4
                go_wp2
                go_roundw
                case rel =>
                  refine ⟨_, ⟨mw, mh, mx + 1, mc ++ [s[k]]⟩, _, ?_, by go_num, by go_num, HN.out, G0.other (by simp) _, G1.set2 _, ?_, ?_⟩
                  · omega
                  · have h9 := ownsRow_setCell_below HO4.out (a := ⟨w.heap.size + 1, 2, none⟩) (by simp) (.slice (some ⟨gq, 0, none⟩) (mc.length + 1) cq)
                    rw [bytesV_snoc, List.length_append]
                    exact h9
                  · exact B4.setCell (by simp) _
                case measure => simp [intOf] <;> omega
      · have hke : k = s.size := by omega
        subst hke
        have HC := hide (markL_end s)
        by_cases hx : mx = 0
        · have qx : ((mx : Int) == 0) = true := by rw [hx]; rfl
          by_cases hh : 0 < mh
          · have hh1 : (0 : Int) < (mh : Int) := by omega
            by_cases hxw : mx = mw
            · have qn : ((mx : Int) != (mw : Int)) = false := by rw [hxw]; simp
              have qe : ((mx : Int) == (mw : Int)) = true := by rw [hxw]; simp
              have HX := hide hx
              clear hx
              clear hxw
              have HN := hide (not_board (run_stopped HR.out HC.out (step_bad (.inr HX.out))))
              clear hown g1
              go_wp2
              refine bodyPost_ret (ret_grid2 Tryd.results69 rfl rfl (g0.set3 0 0 (.slice none 0 0))) rfl (readPost_no HN.out rfl ?_)
              exact below_set3 hb (Nat.le_refl _) _ _ _
            · have qn : ((mx : Int) != (mw : Int)) = true := bne_iff_ne.2 (by omega)
              have qe : ((mx : Int) == (mw : Int)) = false := beq_eq_false_iff_ne.2 (by omega)
              have HX := hide hx
              clear hx
              clear hxw
              have HN := hide (not_board (run_stopped HR.out HC.out (step_bad (.inr HX.out))))
              clear hown g1
              go_wp2
              refine bodyPost_ret (ret_grid2 Tryd.results69 rfl rfl (g0.set3 0 0 (.slice none 0 0))) rfl (readPost_no HN.out rfl ?_)
              exact below_set3 hb (Nat.le_refl _) _ _ _
          · have hh1 : (mh : Int) ≤ 0 := by omega
            have hh2 : decide ((0 : Int) < (mh : Int)) = false := decide_eq_false (by omega)
            have HX := hide hx
            clear hx hh
            have HN := hide (not_board (run_stopped HR.out HC.out (step_bad (.inr HX.out))))
            clear hown g1
            go_wp2
            refine bodyPost_ret (ret_grid2 Tryd.results69 rfl rfl (g0.set3 0 0 (.slice none 0 0))) rfl (readPost_no HN.out rfl ?_)
            exact below_set3 hb (Nat.le_refl _) _ _ _
        · have qx : ((mx : Int) == 0) = false := beq_eq_false_iff_ne.2 (by omega)
          by_cases hh : 0 < mh
          · have hh1 : (0 : Int) < (mh : Int) := by omega
            by_cases hxw : mx = mw
            · have qn : ((mx : Int) != (mw : Int)) = false := by rw [hxw]; simp
              have qe : ((mx : Int) == (mw : Int)) = true := by rw [hxw]; simp
              have HX := hide (show ¬ ((0 < mh ∧ mx ≠ mw) ∨ mx = 0) from by omega)
              clear hx hxw
              have HN := hide ((run_take HR.out HC.out).trans (step_end HX.out))
              have HO := hide hown
              have hs1 := hb.size
              clear hown r0 r1 r2 s0 s1 s2
              go_wp2
              go_roundw
              case rel =>
                refine ⟨_, ⟨mx, mh + 1, 0, mc⟩, v, ?_, by go_num, rfl, HN.out, (g0.other (by simp) _).other (by simp) _, ?_, ?_, ?_⟩
                · omega
                · have := (g1.set0 (mx : Int)).set1 ((mh : Int) + 1)
                  simpa using this
                · exact ownsRow_setCell_below (ownsRow_setCell_below HO.out (by simp) _) (by simp) _
                · exact (hb.setCell (by simp) _).setCell (by simp) _
              case measure => simp [intOf] <;> omega
            · have qn : ((mx : Int) != (mw : Int)) = true := bne_iff_ne.2 (by omega)
              have qe : ((mx : Int) == (mw : Int)) = false := beq_eq_false_iff_ne.2 (by omega)
              have HX := hide (show (0 < mh ∧ mx ≠ mw) ∨ mx = 0 from by omega)
              clear hx hxw
              have HN := hide (not_board (run_stopped HR.out HC.out (step_bad HX.out)))
              clear hown g1
              go_wp2
              refine bodyPost_ret (ret_grid2 Tryd.results69 rfl rfl (g0.set3 0 0 (.slice none 0 0))) rfl (readPost_no HN.out rfl ?_)
              exact below_set3 hb (Nat.le_refl _) _ _ _
          · have hh1 : (mh : Int) ≤ 0 := by omega
            have hh2 : decide ((0 : Int) < (mh : Int)) = false := decide_eq_false (by omega)
            have HX := hide (show ¬ ((0 < mh ∧ mx ≠ mw) ∨ mx = 0) from by omega)
            clear hx hh
            have HN := hide ((run_take HR.out HC.out).trans (step_end HX.out))
            have HO := hide hown
            have hs1 := hb.size
            clear hown r0 r1 r2 s0 s1 s2
            go_wp2
            go_roundw
            case rel =>
              refine ⟨_, ⟨mx, mh + 1, 0, mc⟩, v, ?_, by go_num, rfl, HN.out, (g0.other (by simp) _).other (by simp) _, ?_, ?_, ?_⟩
              · omega
              · have := (g1.set0 (mx : Int)).set1 ((mh : Int) + 1)
                simpa using this
              · exact ownsRow_setCell_below (ownsRow_setCell_below HO.out (by simp) _) (by simp) _
              · exact (hb.setCell (by simp) _).setCell (by simp) _
            case measure => simp [intOf] <;> omega
    · have hke : k = s.size + 1 := by omega
      subst hke
      have hrun := HR.out
      rw [List.take_of_length_le (Nat.le_of_eq (markL_len s))] at hrun
      have hend := read_end hrun
      have HRUN := hide hrun
      clear hrun
      obtain ⟨d1, d2, d3, d4, d5⟩ := hend
      simp only at d1 d2 d3 d4 d5
      obtain ⟨gb, cap, rfl, hgb, hgl⟩ := own_form hown d2
      have hs1 := hb.size
      cases hbd : isBd s.data.toList
      · have hno := read_no hbd (show mach0.run (s.data.toList ++ [47]) = some ⟨mw, mh, mx, mc⟩ from HRUN.out)
        simp only at hno
        have HB := hide hbd
        clear hbd d3 d4 d5 hown
        by_cases n1 : 7 < mw
        · have n1' : (7 : Int) < (mw : Int) := by omega
          clear hno n1
          go_wp2
          refine bodyPost_ret (ret_grid2 Tryd.results69 rfl rfl (g0.set3 0 0 (.slice none 0 0))) rfl (readPost_no HB.out rfl ?_)
          exact below_set3 hb (Nat.le_refl _) _ _ _
        · have n1' : (mw : Int) ≤ 7 := by omega
          by_cases n2 : 7 < mh
          · have n2' : (7 : Int) < (mh : Int) := by omega
            clear hno n1 n2
            go_wp2
            refine bodyPost_ret (ret_grid2 Tryd.results69 rfl rfl (g0.set3 0 0 (.slice none 0 0))) rfl (readPost_no HB.out rfl ?_)
            exact below_set3 hb (Nat.le_refl _) _ _ _
          · have n2' : (mh : Int) ≤ 7 := by omega
            have n3' : (36 : Int) < (mc.length : Int) := by omega
            clear hno n1 n2
            go_wp2
            refine bodyPost_ret (ret_grid2 Tryd.results69 rfl rfl (g0.set3 0 0 (.slice none 0 0))) rfl (readPost_no HB.out rfl ?_)
            exact below_set3 hb (Nat.le_refl _) _ _ _
      · obtain ⟨_, y1, y2, y3⟩ := read_yes hbd
        rw [← d3] at y1
        rw [← d4] at y2
        rw [← d5] at y3
        have HB := hide hbd
        have D3 := hide d3
        have D4 := hide d4
        have D5 := hide d5
        have HO := hide hown
        clear hbd d3 d4 d5 hown
        go_wp2
        refine bodyPost_ret (ret_grid2 Tryd.results69 rfl rfl (g0.set3 (mw : Int) (mh : Int) (.slice (some ⟨gb, 0, none⟩) mc.length cap))) rfl (.inl ⟨HB.out, _, by rw [← D3.out, ← D4.out], ?_, ?_⟩)
        · rw [← D5.out]
          exact own_mono (ownsRow_setCell_below (ownsRow_setCell_below (ownsRow_setCell_below HO.out (by simp) _) (by simp) _) (by simp) _) (by omega)
        · exact below_set3 hb (Nat.le_refl _) _ _ _

theorem boRead_any (s : ByteArray) (w : World) (hs : s.size ≤ 1048576) : Calls Tryd.prog 69 #[.string s] w (ReadPost s w) := by
  by_cases h : s.size ≤ 42
  · exact boRead_short s w h
  · exact boRead_long s w hs (by omega)
end Go.Proofs.YthdkhikkdcjifaaDoor
