/- The contract of the model's reading of labelled boards: spec.prRead. Condition: at most 1048576 bytes. -/
import Derived.Test.YtnpnhnkpnhcebaaDoorCells
import Derived.Test.YtnpnhnkpnhcebaaDoorBuf
namespace Go.Proofs.YtnpnhnkpnhcebaaDoor
set_option maxRecDepth 100000
set_option linter.all false
open Go.RowKit

theorem results_cell_tmp2 {fn : Func} {p u v : Tmp} {ty : TypeId} (h : fn.results = #[.cell p ty, .tmp u, .tmp v]) (tmps : Array Value) (P : Program) (w : World) :
    (results fn tmps).run P w =
      ((asAddr (tmps.getD p undef)).run P w).andThen fun a w₁ => ((loadVar ty a).run P w₁).andThen fun x w₂ => .ok (.tuple #[x, tmps.getD u undef, tmps.getD v undef]) w₂ := by
  simp only [results, h]
  simp [Sem.run_bind, Result.andThen]
theorem ret_grid3 {fn : Func} {p u q : Tmp} {tmps : Array Value} {w : World} {b : Nat} {x y : Int} {v l : Value} {ok : Bool} (h : fn.results = #[.cell p 38, .tmp u, .tmp q]) (hp : tmps.getD p undef = .pointer (some ⟨b, 0, none⟩)) (hu : tmps.getD u undef = l) (hq : tmps.getD q undef = .bool ok) (hd : IsG w b x y v) :
    (results fn tmps).run Tryd.prog w = .ok (.tuple #[.agg #[.int .i64 x, .int .i64 y, v], l, .bool ok]) w := by
  rw [results_cell_tmp2 h, hp, hu, hq]
  show ((loadVar 38 ⟨b, 0, none⟩).run Tryd.prog w).andThen _ = _
  rw [hd.load]
  rfl
theorem grid_ne_bytes {w : World} {b g : Nat} {x y : Int} {v : Value} {L : List UInt8} (h : IsG w b x y v) (hb : BytesAt w g L) : g ≠ b := by
  rintro rfl
  obtain ⟨cur, h1, _⟩ := hb
  unfold IsG at h
  rw [h1] at h
  injection h with h
  injection h with _ h2
  exact absurd h2 (by decide)
theorem BytesAt.other {w : World} {g : Nat} {L : List UInt8} (h : BytesAt w g L) {p : Addr} (hp : g ≠ p.block) (u : Value) : BytesAt (w.setCell p u) g L := by
  obtain ⟨cur, h1, h2⟩ := h
  exact ⟨cur, (Below.heap_setCell w p u g hp).trans h1, h2⟩
theorem BytesAt.other3 {w : World} {g b : Nat} {L : List UInt8} (h : BytesAt w g L) (hp : g ≠ b) (u0 u1 u2 : Value) : BytesAt (((w.setCell ⟨b, 0, none⟩ u0).setCell ⟨b, 1, none⟩ u1).setCell ⟨b, 2, none⟩ u2) g L := ((h.other hp _).other hp _).other hp _
theorem BytesAt.allocP {w : World} {g : Nat} {L : List UInt8} (h : BytesAt w g L) (o : Obj) : BytesAt (w.alloc o) g L := by
  have hl := h.lt
  obtain ⟨cur, h1, h2⟩ := h
  exact ⟨cur, (Below.heap_alloc w o g hl).trans h1, h2⟩

theorem own_capP {w : World} {base : Nat} {e : TypeId} {size : Nat} {g n cap : Nat} {xs : List Value} (h : w.ownsRow base e size (.slice (some ⟨g, 0, none⟩) n cap) n xs) : n ≤ cap := by
  rcases h.2 with ⟨h0, _⟩ | ⟨g', cap', cur, hv, hb, hg, hc, _⟩
  · cases h0
  · injection hv with h1 h3 h4
    subst h4
    exact hc
theorem boRead_yesC (s : ByteArray) (w : World) (hs : s.size ≤ 1048576) (h : isBd s.data.toList = true) : Calls Tryd.prog 19 #[.string s] w fun e w' => ∃ W H n g cap, GridOk s.data.toList W H n ∧ e = .returned (.tuple #[gridV W H n g cap, .bool true]) ∧ BytesAt w' g (splitP s.data.toList).flatten ∧ n ≤ cap ∧ Below w.heap.size w w' :=
  (boRead_any s w hs).mono fun e w' hp => by
    rcases hp with ⟨_, v, h1, h2, h3⟩ | ⟨hn, _⟩
    · obtain ⟨g, cap, rfl, _, _⟩ := own_form h2 (flat_pos h)
      exact ⟨_, _, _, g, cap, ⟨h, rfl, rfl, rfl⟩, h1, bytesAt_own h2, own_capP h2, h3⟩
    · rw [h] at hn; cases hn

/-- The labels of the first k signs. -/
def labL (L : List UInt8) (k : Nat) : List UInt8 := (L.take k).filter (fun c => !(c == 47))
theorem labL_le (L : List UInt8) (k : Nat) : (labL L k).length ≤ k := by
  have h1 := List.length_filter_le (fun c : UInt8 => !(c == 47)) (L.take k)
  have h2 := List.length_take_le k L
  exact Nat.le_trans h1 h2
theorem labL_skip {L : List UInt8} {k : Nat} (h : L[k]? = some 47) : labL L (k + 1) = labL L k := by
  unfold labL
  rw [List.take_add_one, h, List.filter_append]
  simp
theorem labL_add {L : List UInt8} {k : Nat} {c : UInt8} (h : L[k]? = some c) (hc : ¬ (c.toNat : Int) = 47) : labL L (k + 1) = labL L k ++ [c] := by
  unfold labL
  have : ¬ c = 47 := fun e => hc (by rw [e]; rfl)
  rw [List.take_add_one, h, List.filter_append]
  simp [this]
theorem labL_end (L : List UInt8) : labL L L.length = (splitP L).flatten := by
  rw [flat_filter]
  simp [labL]
theorem dig_not47 {c : UInt8} (h : isDig c = true) : ¬ (c.toNat : Int) = 47 := by
  unfold isDig at h
  rw [decide_eq_true_eq] at h
  omega

/-- What holds at each head of the reading's loop. -/
def PrI (w wr : World) (L : List UInt8) (k : Nat) (v : Value) : Prop :=
  IsG wr w.heap.size 0 0 (.slice none 0 0) ∧ BufAt wr (w.heap.size + 1) (mixL L k) ∧ wr.ownsRow (w.heap.size + 2) 5 1 v (labL L k).length (bytesV (labL L k)) ∧ Below w.heap.size w wr

theorem prRead_long (s : ByteArray) (w : World) (h : 42 < s.size) : Calls Tryd.prog 24 #[.string s] w fun e w' => e = .returned (.tuple #[.agg #[.int .i64 0, .int .i64 0, .slice none 0 0], .slice none 0 0, .bool false]) ∧ Below w.heap.size w w' := by
  have hi : (42 : Int) < (s.size : Int) := by omega
  clear h
  go_enter Tryd.func24, Tryd.ntmps24
  have g0 := IsG.new (w := w) (x := 0) (y := 0) (v := .slice none 0 0)
  obtain ⟨l0, ⟨a0, a1, a2⟩, f0, f1, f2⟩ := g0.all
  go_wp2
  refine bodyPost_ret (ret_grid3 Tryd.results24 rfl rfl rfl g0) rfl ⟨rfl, by go_grown⟩

set_option maxHeartbeats 3200000 in
theorem prRead_short_yes (s : ByteArray) (w : World) (hs : s.size ≤ 42) (h : isLab s.data.toList = true) : Calls Tryd.prog 24 #[.string s] w fun e w' => ∃ W H n g cap g2 cap2, GridOk (unlab s.data.toList) W H n ∧ e = .returned (.tuple #[gridV W H n g cap, .slice (some ⟨g2, 0, none⟩) n cap2, .bool true]) ∧ BytesAt w' g (splitP (unlab s.data.toList)).flatten ∧ n ≤ cap ∧ BytesAt w' g2 (splitP s.data.toList).flatten ∧ Below w.heap.size w w' := by
  obtain ⟨i0, hi, hz0, hz1, hz2⟩ := info_parts info_byte
  have HI := hide hi
  have HZ0 := hide hz0
  have HZ1 := hide hz1
  have HZ2 := hide hz2
  clear hi hz0 hz1 hz2
  have HLAB := hide h
  clear h
  have hlen : s.data.toList.length = s.size := by simp
  have g0 := IsG.new (w := w) (x := 0) (y := 0) (v := .slice none 0 0)
  obtain ⟨cap, W1, hcv, hcap, B1, q1, hz⟩ := bytes_new s (w.alloc (.cells #[.int .i64 0, .int .i64 0, .slice none 0 0] 38))
  have HB1 := hide (show BufAt W1 (w.heap.size + 1) s.data.toList from by simpa using B1)
  have HG1 := hide (isG_to q1 g0 rfl)
  have HQ1 := hide (show Below w.heap.size w W1 from below_after (by go_grown) q1 (by simp))
  rw [show (w.alloc (.cells #[.int .i64 0, .int .i64 0, .slice none 0 0] 38)).heap.size = w.heap.size + 1 from by simp] at hcv
  clear B1 q1 g0 hz
  go_enter Tryd.func24, Tryd.ntmps24
  go_wp2
  clear hcv
  go_loopw [19, 7, 8, 6] (fun i _ _ vv wr => ∃ (k : Nat) (v : Value), k ≤ s.size ∧ i = .int .i64 (k : Int) ∧ v = vv ∧ PrI w wr s.data.toList k v) (fun i _ _ _ _ => s.size - (intOf i).toNat)
  case atStart => exact ⟨0, .slice none 0 0, Nat.zero_le _, rfl, rfl, HG1.out, by rw [mixL_zero]; exact HB1.out, World.ownsRow_nil _ _ _ _, HQ1.out⟩
  case round =>
    obtain ⟨k, v, hk, rfl, rfl, G, B, O, hb⟩ := hrel
    clear HB1 HQ1 HG1
    by_cases hlt : k < s.size
    · have hki : (k : Int) < (s.size : Int) := by omega
      have hc : s.data.toList[k]? = some (s.data.toList[k]'(by omega)) := List.getElem?_eq_getElem _
      generalize s.data.toList[k]'(by omega) = c at hc
      obtain ⟨c0, f0⟩ := B.cell (mixL_at hc)
      have HC := hide hc
      clear hc
      cases hd : isDig c
      · have HD := hide hd
        have B := (mixL_keep HC.out hd) ▸ B
        clear hd
        have HST := hide (show IsG wr w.heap.size 0 0 (.slice none 0 0) ∧ BufAt wr (w.heap.size + 1) (mixL s.data.toList (k + 1)) ∧ wr.ownsRow (w.heap.size + 2) 5 1 v (labL s.data.toList k).length (bytesV (labL s.data.toList k)) ∧ Below w.heap.size w wr from ⟨G, B, O, hb⟩)
        clear G B O hb
        go_upto_region 10 with (go_at_call 36; refine (prDigit_any c _).mono ?_; rintro e w2 ⟨rfl, rfl⟩; rw [HD.out])
        obtain ⟨G, B, O, hb⟩ := HST.out
        clear HST c0 f0
        by_cases h47 : (c.toNat : Int) = 47
        · obtain ⟨r1, r2⟩ := byte_eq h47
          have hc47 : s.data.toList[k]? = some 47 := by
            rw [HC.out]
            congr 1
            apply UInt8.toNat_inj.1
            have : c.toNat = 47 := by omega
            rw [this]; rfl
          have HL := hide (labL_skip hc47)
          have HST := hide (show PrI w wr s.data.toList (k + 1) v from ⟨G, B, by rw [HL.out]; exact O, hb⟩)
          clear hc47 h47 G B O hb
          go_wp2
          go_roundw
          case rel => exact ⟨k + 1, _, by omega, by go_num, rfl, HST.out⟩
          case measure => simp [intOf] <;> omega
        · obtain ⟨r1, r2⟩ := byte_ne h47

          have HCELL := hide (cell_one_newR wr (.int .u8 (c.toNat : Int)) 5)
          have H1C := hide (show ∀ u ∈ [Value.int .u8 (c.toNat : Int)], u.oneCell' = true from by
            intro u hu
            simp only [List.mem_singleton] at hu
            subst hu
            rfl)
          have hsz := hb.size
          have HJ := hide (show ∀ (v' : Value) (w4 : World), w4.ownsRow (w.heap.size + 2) 5 1 v' ((labL s.data.toList k).length + 1) (bytesV (labL s.data.toList k) ++ [.int .u8 (c.toNat : Int)]) → (wr.alloc (.cells #[.int .u8 (c.toNat : Int)] 5)).grownBy w4 v.ownBlock →
              IsG w4 w.heap.size 0 0 (.slice none 0 0) ∧ BufAt w4 (w.heap.size + 1) (mixL s.data.toList (k + 1)) ∧ Below w.heap.size w w4 from by
            intro v' w4 h1 h2
            have hne : ∀ j, j < w.heap.size + 2 → some j ≠ v.ownBlock := fun j hj e => by
              have := (O.lt j e.symm).1
              omega
            have hA : IsG (wr.alloc (.cells #[.int .u8 (c.toNat : Int)] 5)) w.heap.size 0 0 (.slice none 0 0) := G.alloc _
            have hB : BufAt (wr.alloc (.cells #[.int .u8 (c.toNat : Int)] 5)) (w.heap.size + 1) (mixL s.data.toList (k + 1)) := BufAt.alloc B _
            refine ⟨hA.kept h2 (hne _ (by omega)), hB.kept h2 (hne _ (by omega)), ?_⟩
            refine (hb.alloc hsz _).grown h2 (by show w.heap.size ≤ (World.alloc _ _).heap.size; simp; omega) (fun j hj => ?_)
            have := (O.lt j hj).1
            omega)
          have hB1 := B.lt
          have HO := hide O
          have HL := hide (labL_add HC.out h47)
          have hle := labL_le s.data.toList k
          generalize labL s.data.toList k = Q at HO HJ HL hle
          clear O G B hb
          go_upto_region 11 with (fail)
          go_wp2_with (at_builtin; refine wpList_append_own_at _ rfl _ _ 36 rfl (w.heap.size + 2) 5 i0 (.int .u8 0) 1 1 Tryd.underlying36 HI.out HZ0.out HZ1.out HZ2.out rfl (by decide) _ _ _ rfl (HO.out.alloc _) ⟨wr.heap.size, 0, none⟩ 1 1 [.int .u8 (c.toNat : Int)] rfl rfl ?c1 ?c2 ?c3 ?c4 ?c5 ?_)
          case c1 => exact HCELL.out
          case c2 => exact H1C.out
          case c3 => unfold maxLen; omega
          case c4 => omega
          case c5 => simp; omega
          · intro v' w4 hown4 hg4 _ _
            obtain ⟨G4, B4, Q4⟩ := HJ.out v' w4 hown4 hg4
            clear hg4
            have HO4 := hide hown4
            have HG4 := hide G4
            have HB4 := hide B4
            clear hown4 G4 B4
            go_wp2
            go_roundw
            case rel =>
              refine ⟨k + 1, _, by omega, by go_num, rfl, HG4.out, HB4.out, ?_, Q4⟩
              rw [HL.out, bytesV_snoc, List.length_append]
              exact HO4.out
            case measure => simp [intOf] <;> omega
      · have HD := hide hd
        have h47 := dig_not47 hd
        obtain ⟨r1, r2⟩ := byte_ne h47
        have hu := unl_yes hd
        clear hd
        have B2 := B.put (j := k) (by rw [mixL_len]; omega) 46
        rw [← hu, mixL_set HC.out] at B2
        rw [show ((unl c).toNat : Int) = 46 from by rw [hu]; rfl] at B2
        have HST := hide (show IsG (wr.setCell ⟨w.heap.size + 1, k, none⟩ (.int .u8 46)) w.heap.size 0 0 (.slice none 0 0) ∧ BufAt (wr.setCell ⟨w.heap.size + 1, k, none⟩ (.int .u8 46)) (w.heap.size + 1) (mixL s.data.toList (k + 1)) ∧ (wr.setCell ⟨w.heap.size + 1, k, none⟩ (.int .u8 46)).ownsRow (w.heap.size + 2) 5 1 v (labL s.data.toList k).length (bytesV (labL s.data.toList k)) ∧ Below w.heap.size w (wr.setCell ⟨w.heap.size + 1, k, none⟩ (.int .u8 46)) from ⟨G.other (by simp) _, B2, ownsRow_setCell_below O (by simp) _, hb.setCell (by simp) _⟩)
        clear G B O hb B2 hu
        go_upto_region 10 with (go_at_call 36; refine (prDigit_any c _).mono ?_; rintro e w2 ⟨rfl, rfl⟩; rw [HD.out])
        clear c0 f0
        obtain ⟨G, B, O, hb⟩ := HST.out
        clear HST
        generalize wr.setCell ⟨w.heap.size + 1, k, none⟩ (.int .u8 46) = wq at G B O hb ⊢
        clear wr
        rename World => wr

        have HCELL := hide (cell_one_newR wr (.int .u8 (c.toNat : Int)) 5)
        have H1C := hide (show ∀ u ∈ [Value.int .u8 (c.toNat : Int)], u.oneCell' = true from by
          intro u hu
          simp only [List.mem_singleton] at hu
          subst hu
          rfl)
        have hsz := hb.size
        have HJ := hide (show ∀ (v' : Value) (w4 : World), w4.ownsRow (w.heap.size + 2) 5 1 v' ((labL s.data.toList k).length + 1) (bytesV (labL s.data.toList k) ++ [.int .u8 (c.toNat : Int)]) → (wr.alloc (.cells #[.int .u8 (c.toNat : Int)] 5)).grownBy w4 v.ownBlock →
            IsG w4 w.heap.size 0 0 (.slice none 0 0) ∧ BufAt w4 (w.heap.size + 1) (mixL s.data.toList (k + 1)) ∧ Below w.heap.size w w4 from by
          intro v' w4 h1 h2
          have hne : ∀ j, j < w.heap.size + 2 → some j ≠ v.ownBlock := fun j hj e => by
            have := (O.lt j e.symm).1
            omega
          have hA : IsG (wr.alloc (.cells #[.int .u8 (c.toNat : Int)] 5)) w.heap.size 0 0 (.slice none 0 0) := G.alloc _
          have hB : BufAt (wr.alloc (.cells #[.int .u8 (c.toNat : Int)] 5)) (w.heap.size + 1) (mixL s.data.toList (k + 1)) := BufAt.alloc B _
          refine ⟨hA.kept h2 (hne _ (by omega)), hB.kept h2 (hne _ (by omega)), ?_⟩
          refine (hb.alloc hsz _).grown h2 (by show w.heap.size ≤ (World.alloc _ _).heap.size; simp; omega) (fun j hj => ?_)
          have := (O.lt j hj).1
          omega)
        have hB1 := B.lt
        have HO := hide O
        have HL := hide (labL_add HC.out h47)
        have hle := labL_le s.data.toList k
        generalize labL s.data.toList k = Q at HO HJ HL hle
        clear O G B hb
        go_upto_region 11 with (fail)
        go_wp2_with (at_builtin; refine wpList_append_own_at _ rfl _ _ 36 rfl (w.heap.size + 2) 5 i0 (.int .u8 0) 1 1 Tryd.underlying36 HI.out HZ0.out HZ1.out HZ2.out rfl (by decide) _ _ _ rfl (HO.out.alloc _) ⟨wr.heap.size, 0, none⟩ 1 1 [.int .u8 (c.toNat : Int)] rfl rfl ?c1 ?c2 ?c3 ?c4 ?c5 ?_)
        case c1 => exact HCELL.out
        case c2 => exact H1C.out
        case c3 => unfold maxLen; omega
        case c4 => omega
        case c5 => simp; omega
        · intro v' w4 hown4 hg4 _ _
          obtain ⟨G4, B4, Q4⟩ := HJ.out v' w4 hown4 hg4
          clear hg4
          have HO4 := hide hown4
          have HG4 := hide G4
          have HB4 := hide B4
          clear hown4 G4 B4
          go_wp2
          go_roundw
          case rel =>
            refine ⟨k + 1, _, by omega, by go_num, rfl, HG4.out, HB4.out, ?_, Q4⟩
            rw [HL.out, bytesV_snoc, List.length_append]
            exact HO4.out
          case measure => simp [intOf] <;> omega
    · obtain rfl : k = s.size := by omega
      have hbk := bytes_out (cap := cap) B (n := s.size) (by rw [mixL_len, hlen])
      rw [show mixL s.data.toList s.size = unlab s.data.toList from by rw [← hlen, mixL_end]] at hbk
      rw [show labL s.data.toList s.size = (splitP s.data.toList).flatten from by rw [← hlen, labL_end]] at O
      obtain ⟨t, ht⟩ : ∃ t : ByteArray, t = ⟨(unlab s.data.toList).toArray⟩ := ⟨_, rfl⟩
      have htl : t.data.toList = unlab s.data.toList := by rw [ht]
      have hts : t.size ≤ 1048576 := by
        have : t.size = t.data.toList.length := by simp
        rw [this, htl, unlab_len]
        omega
      rw [← ht] at hbk
      have HTL := hide htl
      clear ht htl
      have HLB := hide (show isBd t.data.toList = true from by rw [HTL.out]; exact HLAB.out)
      clear B
      have HO := hide O
      clear O
      go_wp2_with fail
      refine (boRead_yesC t _ hts HLB.out).mono ?_
      rintro e w3 ⟨W, H, n, g, cap2, hgr, rfl, hA, hcp, hb3⟩
      have HCP := hide hcp
      clear hcp
      rw [HTL.out] at hgr hA
      have hn : (splitP s.data.toList).flatten.length = n := by rw [← hgr.2.2.2, flat_unlab, unlab_len]
      have hpos : 0 < (splitP s.data.toList).flatten.length := by
        have := flat_pos hgr.1
        rw [hgr.2.2.2] at this
        omega
      obtain ⟨g2, cap3, rfl, hq1, hq2⟩ := own_form HO.out hpos
      have hA2 := bytesAt_to hb3 (bytesAt_own HO.out) rfl
      have G3 := isG_to hb3 G rfl
      have q3 := below_after hb hb3 hb.size
      have hg1 := grid_ne_bytes G3 hA
      rw [hn]
      clear HO hb3 G hpos
      have HGR := hide hgr
      have HST := hide (show BytesAt (w3.alloc (.cells #[.int .i64 (W : Int), .int .i64 (H : Int), .slice (some ⟨g, 0, none⟩) n cap2] 38)) g (splitP (unlab s.data.toList)).flatten ∧ BytesAt (w3.alloc (.cells #[.int .i64 (W : Int), .int .i64 (H : Int), .slice (some ⟨g, 0, none⟩) n cap2] 38)) g2 (splitP s.data.toList).flatten ∧ IsG (w3.alloc (.cells #[.int .i64 (W : Int), .int .i64 (H : Int), .slice (some ⟨g, 0, none⟩) n cap2] 38)) w.heap.size 0 0 (.slice none 0 0) ∧ IsG (w3.alloc (.cells #[.int .i64 (W : Int), .int .i64 (H : Int), .slice (some ⟨g, 0, none⟩) n cap2] 38)) w3.heap.size (W : Int) (H : Int) (.slice (some ⟨g, 0, none⟩) n cap2) ∧ Below w.heap.size w (w3.alloc (.cells #[.int .i64 (W : Int), .int .i64 (H : Int), .slice (some ⟨g, 0, none⟩) n cap2] 38)) from ⟨hA.allocP _, hA2.allocP _, G3.alloc _, IsG.new, q3.alloc q3.size _⟩)
      clear hA hA2 G3 q3 hgr hbk hn
      go_upto_region 14 with (fail)
      obtain ⟨A1, A2, G1, G2, q4⟩ := HST.out
      clear HST
      generalize w3.heap.size = b3 at G2 ⊢
      generalize w3.alloc _ = w4 at A1 A2 G1 G2 q4 ⊢
      obtain ⟨l0, ⟨a0, a1, a2⟩, f0, f1, f2⟩ := G1.all
      obtain ⟨l2, ⟨e0, e1, e2⟩, -⟩ := G2.all
      go_wp2
      refine bodyPost_ret (ret_grid3 Tryd.results24 rfl rfl rfl (G1.set3 (W : Int) (H : Int) (.slice (some ⟨g, 0, none⟩) n cap2))) rfl ⟨W, H, n, g, cap2, g2, cap3, HGR.out, rfl, A1.other3 hg1 _ _ _, HCP.out, A2.other3 (by omega) _ _ _, below_set3 q4 (Nat.le_refl _) _ _ _⟩

set_option maxHeartbeats 3200000 in
theorem prRead_short_no (s : ByteArray) (w : World) (hs : s.size ≤ 42) (h : isLab s.data.toList = false) : Calls Tryd.prog 24 #[.string s] w fun e w' => ∃ v, e = .returned (.tuple #[.agg #[.int .i64 0, .int .i64 0, .slice none 0 0], v, .bool false]) ∧ Below w.heap.size w w' := by
  obtain ⟨i0, hi, hz0, hz1, hz2⟩ := info_parts info_byte
  have HI := hide hi
  have HZ0 := hide hz0
  have HZ1 := hide hz1
  have HZ2 := hide hz2
  clear hi hz0 hz1 hz2
  have HLAB := hide h
  clear h
  have hlen : s.data.toList.length = s.size := by simp
  have g0 := IsG.new (w := w) (x := 0) (y := 0) (v := .slice none 0 0)
  obtain ⟨cap, W1, hcv, hcap, B1, q1, hz⟩ := bytes_new s (w.alloc (.cells #[.int .i64 0, .int .i64 0, .slice none 0 0] 38))
  have HB1 := hide (show BufAt W1 (w.heap.size + 1) s.data.toList from by simpa using B1)
  have HG1 := hide (isG_to q1 g0 rfl)
  have HQ1 := hide (show Below w.heap.size w W1 from below_after (by go_grown) q1 (by simp))
  rw [show (w.alloc (.cells #[.int .i64 0, .int .i64 0, .slice none 0 0] 38)).heap.size = w.heap.size + 1 from by simp] at hcv
  clear B1 q1 g0 hz
  go_enter Tryd.func24, Tryd.ntmps24
  go_wp2
  clear hcv
  go_loopw [19, 7, 8, 6] (fun i _ _ vv wr => ∃ (k : Nat) (v : Value), k ≤ s.size ∧ i = .int .i64 (k : Int) ∧ v = vv ∧ PrI w wr s.data.toList k v) (fun i _ _ _ _ => s.size - (intOf i).toNat)
  case atStart => exact ⟨0, .slice none 0 0, Nat.zero_le _, rfl, rfl, HG1.out, by rw [mixL_zero]; exact HB1.out, World.ownsRow_nil _ _ _ _, HQ1.out⟩
  case round =>
    obtain ⟨k, v, hk, rfl, rfl, G, B, O, hb⟩ := hrel
    clear HB1 HQ1 HG1
    by_cases hlt : k < s.size
    · have hki : (k : Int) < (s.size : Int) := by omega
      have hc : s.data.toList[k]? = some (s.data.toList[k]'(by omega)) := List.getElem?_eq_getElem _
      generalize s.data.toList[k]'(by omega) = c at hc
      obtain ⟨c0, f0⟩ := B.cell (mixL_at hc)
      have HC := hide hc
      clear hc
      cases hd : isDig c
      · have HD := hide hd
        have B := (mixL_keep HC.out hd) ▸ B
        clear hd
        have HST := hide (show IsG wr w.heap.size 0 0 (.slice none 0 0) ∧ BufAt wr (w.heap.size + 1) (mixL s.data.toList (k + 1)) ∧ wr.ownsRow (w.heap.size + 2) 5 1 v (labL s.data.toList k).length (bytesV (labL s.data.toList k)) ∧ Below w.heap.size w wr from ⟨G, B, O, hb⟩)
        clear G B O hb
        go_upto_region 10 with (go_at_call 36; refine (prDigit_any c _).mono ?_; rintro e w2 ⟨rfl, rfl⟩; rw [HD.out])
        obtain ⟨G, B, O, hb⟩ := HST.out
        clear HST c0 f0
        by_cases h47 : (c.toNat : Int) = 47
        · obtain ⟨r1, r2⟩ := byte_eq h47
          have hc47 : s.data.toList[k]? = some 47 := by
            rw [HC.out]
            congr 1
            apply UInt8.toNat_inj.1
            have : c.toNat = 47 := by omega
            rw [this]; rfl
          have HL := hide (labL_skip hc47)
          have HST := hide (show PrI w wr s.data.toList (k + 1) v from ⟨G, B, by rw [HL.out]; exact O, hb⟩)
          clear hc47 h47 G B O hb
          go_wp2
          go_roundw
          case rel => exact ⟨k + 1, _, by omega, by go_num, rfl, HST.out⟩
          case measure => simp [intOf] <;> omega
        · obtain ⟨r1, r2⟩ := byte_ne h47

          have HCELL := hide (cell_one_newR wr (.int .u8 (c.toNat : Int)) 5)
          have H1C := hide (show ∀ u ∈ [Value.int .u8 (c.toNat : Int)], u.oneCell' = true from by
            intro u hu
            simp only [List.mem_singleton] at hu
            subst hu
            rfl)
          have hsz := hb.size
          have HJ := hide (show ∀ (v' : Value) (w4 : World), w4.ownsRow (w.heap.size + 2) 5 1 v' ((labL s.data.toList k).length + 1) (bytesV (labL s.data.toList k) ++ [.int .u8 (c.toNat : Int)]) → (wr.alloc (.cells #[.int .u8 (c.toNat : Int)] 5)).grownBy w4 v.ownBlock →
              IsG w4 w.heap.size 0 0 (.slice none 0 0) ∧ BufAt w4 (w.heap.size + 1) (mixL s.data.toList (k + 1)) ∧ Below w.heap.size w w4 from by
            intro v' w4 h1 h2
            have hne : ∀ j, j < w.heap.size + 2 → some j ≠ v.ownBlock := fun j hj e => by
              have := (O.lt j e.symm).1
              omega
            have hA : IsG (wr.alloc (.cells #[.int .u8 (c.toNat : Int)] 5)) w.heap.size 0 0 (.slice none 0 0) := G.alloc _
            have hB : BufAt (wr.alloc (.cells #[.int .u8 (c.toNat : Int)] 5)) (w.heap.size + 1) (mixL s.data.toList (k + 1)) := BufAt.alloc B _
            refine ⟨hA.kept h2 (hne _ (by omega)), hB.kept h2 (hne _ (by omega)), ?_⟩
            refine (hb.alloc hsz _).grown h2 (by show w.heap.size ≤ (World.alloc _ _).heap.size; simp; omega) (fun j hj => ?_)
            have := (O.lt j hj).1
            omega)
          have hB1 := B.lt
          have HO := hide O
          have HL := hide (labL_add HC.out h47)
          have hle := labL_le s.data.toList k
          generalize labL s.data.toList k = Q at HO HJ HL hle
          clear O G B hb
          go_upto_region 11 with (fail)
          go_wp2_with (at_builtin; refine wpList_append_own_at _ rfl _ _ 36 rfl (w.heap.size + 2) 5 i0 (.int .u8 0) 1 1 Tryd.underlying36 HI.out HZ0.out HZ1.out HZ2.out rfl (by decide) _ _ _ rfl (HO.out.alloc _) ⟨wr.heap.size, 0, none⟩ 1 1 [.int .u8 (c.toNat : Int)] rfl rfl ?c1 ?c2 ?c3 ?c4 ?c5 ?_)
          case c1 => exact HCELL.out
          case c2 => exact H1C.out
          case c3 => unfold maxLen; omega
          case c4 => omega
          case c5 => simp; omega
          · intro v' w4 hown4 hg4 _ _
            obtain ⟨G4, B4, Q4⟩ := HJ.out v' w4 hown4 hg4
            clear hg4
            have HO4 := hide hown4
            have HG4 := hide G4
            have HB4 := hide B4
            clear hown4 G4 B4
            go_wp2
            go_roundw
            case rel =>
              refine ⟨k + 1, _, by omega, by go_num, rfl, HG4.out, HB4.out, ?_, Q4⟩
              rw [HL.out, bytesV_snoc, List.length_append]
              exact HO4.out
            case measure => simp [intOf] <;> omega
      · have HD := hide hd
        have h47 := dig_not47 hd
        obtain ⟨r1, r2⟩ := byte_ne h47
        have hu := unl_yes hd
        clear hd
        have B2 := B.put (j := k) (by rw [mixL_len]; omega) 46
        rw [← hu, mixL_set HC.out] at B2
        rw [show ((unl c).toNat : Int) = 46 from by rw [hu]; rfl] at B2
        have HST := hide (show IsG (wr.setCell ⟨w.heap.size + 1, k, none⟩ (.int .u8 46)) w.heap.size 0 0 (.slice none 0 0) ∧ BufAt (wr.setCell ⟨w.heap.size + 1, k, none⟩ (.int .u8 46)) (w.heap.size + 1) (mixL s.data.toList (k + 1)) ∧ (wr.setCell ⟨w.heap.size + 1, k, none⟩ (.int .u8 46)).ownsRow (w.heap.size + 2) 5 1 v (labL s.data.toList k).length (bytesV (labL s.data.toList k)) ∧ Below w.heap.size w (wr.setCell ⟨w.heap.size + 1, k, none⟩ (.int .u8 46)) from ⟨G.other (by simp) _, B2, ownsRow_setCell_below O (by simp) _, hb.setCell (by simp) _⟩)
        clear G B O hb B2 hu
        go_upto_region 10 with (go_at_call 36; refine (prDigit_any c _).mono ?_; rintro e w2 ⟨rfl, rfl⟩; rw [HD.out])
        clear c0 f0
        obtain ⟨G, B, O, hb⟩ := HST.out
        clear HST
        generalize wr.setCell ⟨w.heap.size + 1, k, none⟩ (.int .u8 46) = wq at G B O hb ⊢
        clear wr
        rename World => wr

        have HCELL := hide (cell_one_newR wr (.int .u8 (c.toNat : Int)) 5)
        have H1C := hide (show ∀ u ∈ [Value.int .u8 (c.toNat : Int)], u.oneCell' = true from by
          intro u hu
          simp only [List.mem_singleton] at hu
          subst hu
          rfl)
        have hsz := hb.size
        have HJ := hide (show ∀ (v' : Value) (w4 : World), w4.ownsRow (w.heap.size + 2) 5 1 v' ((labL s.data.toList k).length + 1) (bytesV (labL s.data.toList k) ++ [.int .u8 (c.toNat : Int)]) → (wr.alloc (.cells #[.int .u8 (c.toNat : Int)] 5)).grownBy w4 v.ownBlock →
            IsG w4 w.heap.size 0 0 (.slice none 0 0) ∧ BufAt w4 (w.heap.size + 1) (mixL s.data.toList (k + 1)) ∧ Below w.heap.size w w4 from by
          intro v' w4 h1 h2
          have hne : ∀ j, j < w.heap.size + 2 → some j ≠ v.ownBlock := fun j hj e => by
            have := (O.lt j e.symm).1
            omega
          have hA : IsG (wr.alloc (.cells #[.int .u8 (c.toNat : Int)] 5)) w.heap.size 0 0 (.slice none 0 0) := G.alloc _
          have hB : BufAt (wr.alloc (.cells #[.int .u8 (c.toNat : Int)] 5)) (w.heap.size + 1) (mixL s.data.toList (k + 1)) := BufAt.alloc B _
          refine ⟨hA.kept h2 (hne _ (by omega)), hB.kept h2 (hne _ (by omega)), ?_⟩
          refine (hb.alloc hsz _).grown h2 (by show w.heap.size ≤ (World.alloc _ _).heap.size; simp; omega) (fun j hj => ?_)
          have := (O.lt j hj).1
          omega)
        have hB1 := B.lt
        have HO := hide O
        have HL := hide (labL_add HC.out h47)
        have hle := labL_le s.data.toList k
        generalize labL s.data.toList k = Q at HO HJ HL hle
        clear O G B hb
        go_upto_region 11 with (fail)
        go_wp2_with (at_builtin; refine wpList_append_own_at _ rfl _ _ 36 rfl (w.heap.size + 2) 5 i0 (.int .u8 0) 1 1 Tryd.underlying36 HI.out HZ0.out HZ1.out HZ2.out rfl (by decide) _ _ _ rfl (HO.out.alloc _) ⟨wr.heap.size, 0, none⟩ 1 1 [.int .u8 (c.toNat : Int)] rfl rfl ?c1 ?c2 ?c3 ?c4 ?c5 ?_)
        case c1 => exact HCELL.out
        case c2 => exact H1C.out
        case c3 => unfold maxLen; omega
        case c4 => omega
        case c5 => simp; omega
        · intro v' w4 hown4 hg4 _ _
          obtain ⟨G4, B4, Q4⟩ := HJ.out v' w4 hown4 hg4
          clear hg4
          have HO4 := hide hown4
          have HG4 := hide G4
          have HB4 := hide B4
          clear hown4 G4 B4
          go_wp2
          go_roundw
          case rel =>
            refine ⟨k + 1, _, by omega, by go_num, rfl, HG4.out, HB4.out, ?_, Q4⟩
            rw [HL.out, bytesV_snoc, List.length_append]
            exact HO4.out
          case measure => simp [intOf] <;> omega
    · obtain rfl : k = s.size := by omega
      have hbk := bytes_out (cap := cap) B (n := s.size) (by rw [mixL_len, hlen])
      rw [show mixL s.data.toList s.size = unlab s.data.toList from by rw [← hlen, mixL_end]] at hbk
      rw [show labL s.data.toList s.size = (splitP s.data.toList).flatten from by rw [← hlen, labL_end]] at O
      obtain ⟨t, ht⟩ : ∃ t : ByteArray, t = ⟨(unlab s.data.toList).toArray⟩ := ⟨_, rfl⟩
      have htl : t.data.toList = unlab s.data.toList := by rw [ht]
      have hts : t.size ≤ 1048576 := by
        have : t.size = t.data.toList.length := by simp
        rw [this, htl, unlab_len]
        omega
      rw [← ht] at hbk
      have HTL := hide htl
      clear ht htl
      have HLB := hide (show isBd t.data.toList = false from by rw [HTL.out]; exact HLAB.out)
      clear B
      clear O
      go_wp2_with fail
      refine (boRead_no t _ hts HLB.out).mono ?_
      rintro e w3 ⟨rfl, hb3⟩
      have G3 := isG_to hb3 G rfl
      have q3 := below_after hb hb3 hb.size
      clear hb3 G hbk
      have HST := hide (show IsG (w3.alloc (.cells #[.int .i64 0, .int .i64 0, .slice none 0 0] 38)) w.heap.size 0 0 (.slice none 0 0) ∧ IsG (w3.alloc (.cells #[.int .i64 0, .int .i64 0, .slice none 0 0] 38)) w3.heap.size 0 0 (.slice none 0 0) ∧ Below w.heap.size w (w3.alloc (.cells #[.int .i64 0, .int .i64 0, .slice none 0 0] 38)) from ⟨G3.alloc _, IsG.new, q3.alloc q3.size _⟩)
      clear G3 q3
      go_upto_region 14 with (fail)
      obtain ⟨G1, G2, q4⟩ := HST.out
      clear HST
      generalize w3.heap.size = b3 at G2 ⊢
      generalize w3.alloc _ = w4 at G1 G2 q4 ⊢
      obtain ⟨l0, ⟨a0, a1, a2⟩, f0, f1, f2⟩ := G1.all
      obtain ⟨l2, ⟨e0, e1, e2⟩, -⟩ := G2.all
      go_wp2
      refine bodyPost_ret (ret_grid3 Tryd.results24 rfl rfl rfl (G1.set3 0 0 (.slice none 0 0))) rfl ⟨_, rfl, below_set3 q4 (Nat.le_refl _) _ _ _⟩

theorem lab_len {l : List UInt8} (h : isLab l = true) : l.length ≤ 42 := by
  have := isBd_len h
  rwa [unlab_len] at this
theorem prRead_yes (s : ByteArray) (w : World) (h : isLab s.data.toList = true) : Calls Tryd.prog 24 #[.string s] w fun e w' => ∃ W H n g cap g2 cap2, GridOk (unlab s.data.toList) W H n ∧ e = .returned (.tuple #[gridV W H n g cap, .slice (some ⟨g2, 0, none⟩) n cap2, .bool true]) ∧ BytesAt w' g (splitP (unlab s.data.toList)).flatten ∧ n ≤ cap ∧ BytesAt w' g2 (splitP s.data.toList).flatten ∧ Below w.heap.size w w' :=
  prRead_short_yes s w (by have := lab_len h; simpa using this) h
theorem prRead_no (s : ByteArray) (w : World) (h : isLab s.data.toList = false) : Calls Tryd.prog 24 #[.string s] w fun e w' => ∃ v, e = .returned (.tuple #[.agg #[.int .i64 0, .int .i64 0, .slice none 0 0], v, .bool false]) ∧ Below w.heap.size w w' := by
  rcases Nat.lt_or_ge 42 s.size with h1 | h1
  · exact (prRead_long s w h1).mono fun e w' hp => ⟨_, hp⟩
  · exact prRead_short_no s w h1 h
end Go.Proofs.YtnpnhnkpnhcebaaDoor
