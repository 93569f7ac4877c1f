/- The contracts of boxes on grounds, the program's side: isPose, cellsInLine, lastCell, isBoxOn, groundUnder. -/
import Derived.Test.YtoojoghgbmpbpaaDoorGround
import Derived.Test.YtoojoghgbmpbpaaDoorBxCells
import Derived.Deep.RegionHeld3
namespace Go.Proofs.YtoojoghgbmpbpaaDoor
set_option maxRecDepth 100000
set_option linter.all false
open Go.RowKit

theorem isPose_any (p : Int) (w : World) : Calls Tryd.prog 62 #[.int .i64 p] w fun e w' => e = .returned (.bool (isPo p)) ∧ w = w' := by
  by_cases h0 : 0 ≤ p
  · by_cases h2 : p ≤ 2
    · have e : isPo p = true := decide_eq_true ⟨h0, h2⟩
      have HE := hide e
      clear e
      go_enter Tryd.func62, Tryd.ntmps62
      go_wp2
      go_returns
      exact ⟨ret_bool HE.out.symm, rfl⟩
    · have e : isPo p = false := decide_eq_false (fun h => h2 h.2)
      have HE := hide e
      have h3 : 2 < p := by omega
      have h4 : decide (p ≤ 2) = false := decide_eq_false h2
      clear e h2
      go_enter Tryd.func62, Tryd.ntmps62
      go_wp2
      go_returns
      exact ⟨ret_bool HE.out.symm, rfl⟩
  · have e : isPo p = false := decide_eq_false (fun h => h0 h.1)
    have HE := hide e
    have h3 : p < 0 := by omega
    clear e h0
    go_enter Tryd.func62, Tryd.ntmps62
    go_wp2
    go_returns
    exact ⟨ret_bool HE.out.symm, rfl⟩

def clin (p l : Int) : Int := if p = l then 2 else 1
theorem cellsInLine_any (p l : Int) (w : World) : Calls Tryd.prog 66 #[.int .i64 p, .int .i64 l] w fun e w' => e = .returned (.int .i64 (clin p l)) ∧ w = w' := by
  by_cases h : p = l
  · have e : clin p l = 2 := if_pos h
    have HE := hide e
    have q1 : (p == l) = true := beq_iff_eq.2 h
    clear e h
    go_enter Tryd.func66, Tryd.ntmps66
    go_wp2
    go_returns
    exact ⟨ret_int HE.out.symm, rfl⟩
  · have e : clin p l = 1 := if_neg h
    have HE := hide e
    have q1 : (p == l) = false := beq_eq_false_iff_ne.2 h
    clear e h
    go_enter Tryd.func66, Tryd.ntmps66
    go_wp2
    go_returns
    exact ⟨ret_int HE.out.symm, rfl⟩

/-- Block b is a cell's variable. -/
def IsC (w : World) (b : Nat) (x y : Int) : Prop := w.heap[b]? = some (.cells #[.int .i64 x, .int .i64 y] 72 (0, 0))
theorem IsC.lt {w : World} {b : Nat} {x y : Int} (h : IsC w b x y) : b < w.heap.size := by
  rcases Nat.lt_or_ge b w.heap.size with h' | h'
  · exact h'
  · simp [IsC, Array.getElem?_eq_none h'] at h
theorem IsC.new {w : World} {x y : Int} : IsC (w.alloc (.cells #[.int .i64 x, .int .i64 y] 72)) w.heap.size x y := by
  show (w.heap.push _)[w.heap.size]? = _
  simp
theorem IsC.all {w : World} {b : Nat} {x y : Int} (h : IsC w b x y) : b < w.heap.size ∧ (w.cell? ⟨b, 0, none⟩ = some (.int .i64 x) ∧ w.cell? ⟨b, 1, none⟩ = some (.int .i64 y)) ∧ w.frozen? ⟨b, 0, none⟩ = false ∧ w.frozen? ⟨b, 1, none⟩ = false := by
  refine ⟨h.lt, ?_⟩
  unfold IsC at h
  simp [World.cell?, World.frozen?, h]
theorem IsC.set2 {w : World} {b : Nat} {x y : Int} (h : IsC w b x y) (u v : Int) : IsC ((w.setCell ⟨b, 0, none⟩ (.int .i64 u)).setCell ⟨b, 1, none⟩ (.int .i64 v)) b u v := by
  have h1 := cells_set h 0 (by simp) (.int .i64 u)
  have h2 := cells_set h1 1 (by simp) (.int .i64 v)
  simpa [IsC] using h2
theorem IsC.drew {w : World} {b : Nat} {x y : Int} (h : IsC w b x y) : IsC w.drew b x y := h
theorem field_x (u v : Int) (w : World) : (Instr.field 72 (.agg #[.int .i64 u, .int .i64 v]) 0).run Tryd.prog w = .ok (.int .i64 u) w := by kernel_rfl
theorem field_y (u v : Int) (w : World) : (Instr.field 72 (.agg #[.int .i64 u, .int .i64 v]) 1).run Tryd.prog w = .ok (.int .i64 v) w := by kernel_rfl
theorem ret_cell1 {fn : Func} {p : Tmp} {tmps : Array Value} {w : World} {b : Nat} {x y : Int} (h : fn.results = #[.cell p 72]) (hp : tmps.getD p undef = .pointer (some ⟨b, 0, none⟩)) (hd : IsC w b x y) : (results fn tmps).run Tryd.prog w = .ok (.agg #[.int .i64 x, .int .i64 y]) w := by
  rw [results_cell h, hp]
  show (loadVar 72 ⟨b, 0, none⟩).run Tryd.prog w = _
  obtain ⟨_, ⟨c0, c1⟩, _⟩ := hd.all
  simp [go_sem, c0, c1]
theorem cell_set2 {w : World} {b c o : Nat} {u0 u1 : Value} (h : b ≠ c) : ((w.setCell ⟨b, 0, none⟩ u0).setCell ⟨b, 1, none⟩ u1).cell? ⟨c, o, none⟩ = w.cell? ⟨c, o, none⟩ := by
  have hd : ∀ j, (⟨b, j, none⟩ : Addr) ≠ ⟨c, o, none⟩ := fun j e => h (by injection e)
  rw [World.cell?_setCell_other _ _ _ _ (hd 1), World.cell?_setCell_other _ _ _ _ (hd 0)]

/-- The last cell, as the program reckons it. -/
def lwX (b : Bx) : Int := IntKind.i64.wrap (IntKind.i64.wrap (b.x + clin b.p 1) - 1)
def lwY (b : Bx) : Int := IntKind.i64.wrap (IntKind.i64.wrap (b.y + clin b.p 2) - 1)
set_option maxHeartbeats 800000 in
theorem lastCell_any (b : Bx) (w : World) : Calls Tryd.prog 52 #[Bx.v b] w fun e w' => e = .returned (.agg #[.int .i64 (lwX b), .int .i64 (lwY b)]) ∧ Below w.heap.size w w' := by
  go_enter Tryd.func52, Tryd.ntmps52
  go_wp2_with fail
  have X0 : IsX ((w.alloc (.cells #[.int .i64 b.x, .int .i64 b.y, .int .i64 b.p] 27)).alloc (.cells #[.int .i64 0, .int .i64 0] 72)) w.heap.size b 27 := IsX.new.alloc _
  have C0 : IsC ((w.alloc (.cells #[.int .i64 b.x, .int .i64 b.y, .int .i64 b.p] 27)).alloc (.cells #[.int .i64 0, .int .i64 0] 72)) (w.heap.size + 1) 0 0 := by
    simpa using IsC.new (w := w.alloc (.cells #[.int .i64 b.x, .int .i64 b.y, .int .i64 b.p] 27)) (x := 0) (y := 0)
  have q0 : Below w.heap.size w ((w.alloc (.cells #[.int .i64 b.x, .int .i64 b.y, .int .i64 b.p] 27)).alloc (.cells #[.int .i64 0, .int .i64 0] 72)) := by go_grown
  generalize (w.alloc (.cells #[.int .i64 b.x, .int .i64 b.y, .int .i64 b.p] 27)).alloc (.cells #[.int .i64 0, .int .i64 0] 72) = W1 at X0 C0 q0 ⊢
  obtain ⟨l0, ⟨c0, c1, c2⟩, -⟩ := X0.all
  obtain ⟨l1, ⟨d0, d1⟩, f0, f1⟩ := C0.all
  go_region_held3 (fun w' => w'.cell? ⟨w.heap.size, 0, none⟩ = some (.int .i64 b.x) ∧ w'.cell? ⟨w.heap.size, 1, none⟩ = some (.int .i64 b.y) ∧ w'.cell? ⟨w.heap.size, 2, none⟩ = some (.int .i64 b.p)) (first | (refine ⟨?_, ?_, ?_⟩ <;> assumption) | (refine ⟨?_, ?_, ?_⟩ <;> (rw [cell_set2 (by omega)]; assumption)) | go_keep)
    (first
      | (go_at_call 66; (with_reducible refine (cellsInLine_any b.p 1 _).mono ?_); rintro e w' ⟨rfl, rfl⟩)
      | (go_at_call 66; (with_reducible refine (cellsInLine_any b.p 2 _).mono ?_); rintro e w' ⟨rfl, rfl⟩))
  go_wp2
  refine bodyPost_ret (ret_cell1 Tryd.results52 rfl (C0.set2 _ _).drew) rfl ⟨rfl, ?_⟩
  exact ((q0.setCell (by simp) _).setCell (by simp) _).drew

def goodW (rows : List (List UInt8)) (b : Bx) : Bool :=
  isPo b.p && !(cellI rows b.x b.y == 35) && !(cellI rows (lwX b) (lwY b) == 35) && (decide (b.p ≠ 0) || !(cellI rows b.x b.y == 45))
theorem goodW_X {l : List UInt8} (h : isGd l = true) (b : Bx) : goodW (splitP l) b = goodX (splitP l) b := by
  unfold goodW goodX
  by_cases hc : cellI (splitP l) b.x b.y = 35
  · simp [hc]
  · obtain ⟨a0, a1, a2, a3⟩ := cellI_bd h hc
    have hbd := bd_facts (gd_bd h)
    rw [width_ungl, rows_ungl] at hbd
    have ex : lwX b = lastX b := by
      unfold lwX lastX clin
      split
      · rw [IntWalk.i64_in (b.x + 2) (by omega), IntWalk.i64_in _ (by omega)]; omega
      · rw [IntWalk.i64_in (b.x + 1) (by omega), IntWalk.i64_in _ (by omega)]; omega
    have ey : lwY b = lastY b := by
      unfold lwY lastY clin
      split
      · rw [IntWalk.i64_in (b.y + 2) (by omega), IntWalk.i64_in _ (by omega)]; omega
      · rw [IntWalk.i64_in (b.y + 1) (by omega), IntWalk.i64_in _ (by omega)]; omega
    rw [ex, ey]
theorem byte35 {c : UInt8} : (c == 35) = decide ((c.toNat : Int) = 35) := by
  rw [Bool.eq_iff_iff, beq_iff_eq, decide_eq_true_eq]
  constructor
  · rintro rfl; rfl
  · intro h
    apply UInt8.toNat_inj.1
    have : c.toNat = 35 := by omega
    rw [this]; rfl
set_option maxHeartbeats 2000000 in
theorem isBoxOn_any (s : ByteArray) (g : Nat) (b : Bx) (w : World) (hs : s.size ≤ 1048576) (h : isGd s.data.toList = true) (ha : RowsAt w g (rowsB s)) :
    Calls Tryd.prog 38 #[.slice (some ⟨g, 0, none⟩) (rowsB s).length (rowsB s).length, Bx.v b] w fun e w' => e = .returned (.bool (goodX (splitP s.data.toList) b)) ∧ Below w.heap.size w w' := by
  rw [← goodW_X h]
  have HV := hide (show goodW (splitP s.data.toList) b = (isPo b.p && !(decide (((cellI (splitP s.data.toList) b.x b.y).toNat : Int) = 35)) && !(decide (((cellI (splitP s.data.toList) (lwX b) (lwY b)).toNat : Int) = 35)) && (decide (b.p ≠ 0) || !(decide (((cellI (splitP s.data.toList) b.x b.y).toNat : Int) = 45)))) from by
    unfold goodW
    rw [byte35, byte35, byte45])
  generalize goodW (splitP s.data.toList) b = gw at HV ⊢
  generalize hcf : cellI (splitP s.data.toList) b.x b.y = cf at HV
  generalize hcl : cellI (splitP s.data.toList) (lwX b) (lwY b) = cl at HV
  have HCF := hide hcf
  have HCL := hide hcl
  have HGD := hide h
  clear hcf hcl h
  go_enter Tryd.func38, Tryd.ntmps38
  go_wp2_with fail
  have X0 : IsX (w.alloc (.cells #[.int .i64 b.x, .int .i64 b.y, .int .i64 b.p] 27)) w.heap.size b 27 := IsX.new
  have q0 : Below w.heap.size w (w.alloc (.cells #[.int .i64 b.x, .int .i64 b.y, .int .i64 b.p] 27)) := by go_grown
  have A0 := rowsAt_to q0 ha rfl
  clear ha
  generalize w.alloc (.cells #[.int .i64 b.x, .int .i64 b.y, .int .i64 b.p] 27) = W1 at X0 A0 q0 ⊢
  have HA := hide (show RowsAt W1.drew g (rowsB s) from A0)
  clear A0
  obtain ⟨l0, ⟨c0, c1, c2⟩, -⟩ := X0.all
  have F0 := fun wq : World => field_x (lwX b) (lwY b) wq
  have F1 := fun wq : World => field_y (lwX b) (lwY b) wq
  go_region_held3 (fun w' => w'.cell? ⟨w.heap.size, 0, none⟩ = some (.int .i64 b.x) ∧ w'.cell? ⟨w.heap.size, 1, none⟩ = some (.int .i64 b.y) ∧ w'.cell? ⟨w.heap.size, 2, none⟩ = some (.int .i64 b.p)) (first | (refine ⟨?_, ?_, ?_⟩ <;> assumption))
    (first
      | (go_at_call 61; (with_reducible refine (cellAtG_any s g b.x b.y _ hs HGD.out HA.out).mono ?_); rintro e w' ⟨rfl, rfl⟩; rw [HCF.out])
      | (go_at_call 61; (with_reducible refine (cellAtG_any s g (lwX b) (lwY b) _ hs HGD.out A3.out).mono ?_); rintro e w' ⟨rfl, rfl⟩; rw [HCL.out])
      | (go_at_call 52; (with_reducible refine (lastCell_any b W1.drew).mono ?_); rintro e w2 ⟨rfl, hb2⟩; have X2 := isX_to hb2 X0 rfl; have A2 := hide (rowsAt_to hb2 HA.out rfl); have Q2 := below_to hb2 q0 q0.size rfl rfl rfl rfl; obtain ⟨m0, ⟨e0, e1, e2⟩, -⟩ := X2.all; clear hb2)
      | (go_at_call 52; (with_reducible refine (lastCell_any b w2).mono ?_); rintro e w3 ⟨rfl, hb3⟩; have X3 := isX_to hb3 X2 rfl; have A3 := hide (rowsAt_to hb3 A2.out rfl); have Q3 := below_to hb3 Q2 Q2.size rfl rfl rfl rfl; obtain ⟨n0, ⟨u0, u1, u2⟩, -⟩ := X3.all; clear hb3))
  clear c0 c1 c2 e0 e1 e2 X0 X2
  cases hpo : isPo b.p
  · have HP := hide hpo
    have HR := hide (show gw = false from by rw [HV.out, hpo]; rfl)
    clear hpo
    go_wp2_with (go_at_call 62; refine (isPose_any b.p _).mono ?_; rintro e w' ⟨rfl, rfl⟩; rw [HP.out])
    go_returns
    exact ⟨ret_bool HR.out.symm, Q3⟩
  · have HP := hide hpo
    by_cases h1 : (cf.toNat : Int) = 35
    · have HR := hide (show gw = false from by rw [HV.out, decide_eq_true h1, hpo]; rfl)
      obtain ⟨r1, r2⟩ := byte_eq h1
      clear hpo h1
      go_wp2_with (go_at_call 62; refine (isPose_any b.p _).mono ?_; rintro e w' ⟨rfl, rfl⟩; rw [HP.out])
      go_returns
      exact ⟨ret_bool HR.out.symm, Q3⟩
    · obtain ⟨r1, r2⟩ := byte_ne h1
      by_cases h2 : (cl.toNat : Int) = 35
      · have HR := hide (show gw = false from by rw [HV.out, decide_eq_false h1, decide_eq_true h2, hpo]; rfl)
        obtain ⟨r3, r4⟩ := byte_eq h2
        clear hpo h1 h2
        go_wp2_with (go_at_call 62; refine (isPose_any b.p _).mono ?_; rintro e w' ⟨rfl, rfl⟩; rw [HP.out])
        go_returns
        exact ⟨ret_bool HR.out.symm, Q3⟩
      · obtain ⟨r3, r4⟩ := byte_ne h2
        by_cases h3 : b.p = 0
        · have p1 : (b.p != 0) = false := by rw [h3]; rfl
          have p2 : (b.p == 0) = true := by rw [h3]; rfl
          by_cases h4 : (cf.toNat : Int) = 45
          · have HR := hide (show gw = false from by rw [HV.out, decide_eq_false h1, decide_eq_false h2, decide_eq_true h4, hpo, h3]; rfl)
            obtain ⟨r5, r6⟩ := byte_eq h4
            clear hpo h1 h2 h3 h4
            go_wp2_with (go_at_call 62; refine (isPose_any b.p _).mono ?_; rintro e w' ⟨rfl, rfl⟩; rw [HP.out])
            go_returns
            exact ⟨ret_bool HR.out.symm, Q3⟩
          · have HR := hide (show gw = true from by rw [HV.out, decide_eq_false h1, decide_eq_false h2, decide_eq_false h4, hpo]; simp)
            obtain ⟨r5, r6⟩ := byte_ne h4
            clear hpo h1 h2 h3 h4
            go_wp2_with (go_at_call 62; refine (isPose_any b.p _).mono ?_; rintro e w' ⟨rfl, rfl⟩; rw [HP.out])
            go_returns
            exact ⟨ret_bool HR.out.symm, Q3⟩
        · have p1 : (b.p != 0) = true := bne_iff_ne.2 h3
          have p2 : (b.p == 0) = false := beq_eq_false_iff_ne.2 h3
          have HR := hide (show gw = true from by rw [HV.out, decide_eq_false h1, decide_eq_false h2, decide_eq_true h3, hpo]; rfl)
          clear hpo h1 h2 h3
          go_wp2_with (go_at_call 62; refine (isPose_any b.p _).mono ?_; rintro e w' ⟨rfl, rfl⟩; rw [HP.out])
          go_returns
          exact ⟨ret_bool HR.out.symm, Q3⟩
end Go.Proofs.YtoojoghgbmpbpaaDoor
