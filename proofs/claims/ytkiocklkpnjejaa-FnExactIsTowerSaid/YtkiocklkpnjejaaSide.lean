/- The numbers of a side of a tower: the model's clSide. -/
import Derived.Test.YtkiocklkpnjejaaTow
import Derived.Test.YtkiocklkpnjejaaCycI
namespace Go.Proofs.Ytkiocklkpnjejaa
set_option maxRecDepth 100000
set_option linter.all false
open Go.RowKit

/-- The number of a die towards a side. -/
def sdD (k : Nat) (d : D) : Int := (fl d).getD (k + 1) 0
def sideL (L : List D) (k : Nat) : List Int := L.map (sdD k)
theorem sideL_len (L : List D) (k : Nat) : (sideL L k).length = L.length := by simp [sideL]
theorem sideL_get {L : List D} {k i : Nat} {d : D} (h : L[i]? = some d) : (sideL L k)[i]? = some (sdD k d) := by
  unfold sideL
  rw [List.getElem?_map, h]
  rfl
theorem sd_fl (d : D) (k : Nat) (hk : k < 4) : (fl d)[k + 1]? = some (sdD k d) := by
  have : k + 1 < (fl d).length := by simp [fl]; omega
  unfold sdD
  rw [List.getD_eq_getElem?_getD, List.getElem?_eq_getElem this]
  rfl
theorem sd_good {d : D} (h : goodB d = true) (k : Nat) (hk : k < 4) : 0 ≤ sdD k d ∧ sdD k d ≤ 9 := by
  simp only [goodB, decide_eq_true_eq] at h
  match k, hk with
  | 0, _ => exact ⟨h.2.2.1, h.2.2.2.1⟩
  | 1, _ => exact ⟨h.2.2.2.2.1, h.2.2.2.2.2.1⟩
  | 2, _ => exact ⟨h.2.2.2.2.2.2.1, h.2.2.2.2.2.2.2.1⟩
  | 3, _ => exact ⟨h.2.2.2.2.2.2.2.2.1, h.2.2.2.2.2.2.2.2.2.1⟩
set_option maxHeartbeats 1600000 in
theorem clSide_any (g cap n : Nat) (L : List D) (k : Nat) (w : World) (hn : n = L.length) (h4 : n ≤ 1048576) (hk : k < 4) (hD : DAt w g 0 L) : Calls Try.prog 65 #[.slice (some ⟨g, 0, none⟩) n cap, .int .i64 (k : Int)] w fun e w' => ∃ v, e = .returned v ∧ w'.ownsRow w.heap.size 3 1 v n (ints (sideL L k)) ∧ Below w.heap.size w w' := by
  have HD := hide hD
  have HN := hide hn
  have hki : (k : Int) < 4 := by omega
  obtain ⟨i0, hi, hz0, hz1, hz2⟩ := info_parts info_intI
  have HI := hide hi
  have HZ0 := hide hz0
  have HZ1 := hide hz1
  have HZ2 := hide hz2
  clear hi hz0 hz1 hz2 hD hn
  have hk1 : (1 : Int) + (k : Int) = ((k + 1 : Nat) : Int) := by omega
  have hkw : IntKind.i64.wrap (1 + (k : Int)) = ((k + 1 : Nat) : Int) := by rw [IntWalk.i64_in _ (by omega)]; omega
  have hk5 : ((k + 1 : Nat) : Int) < 6 := by omega
  go_enter Try.func65, Try.ntmps65
  go_wp2
  go_loopw [10, 5, 7] (fun i v _ wr => ∃ m : Nat, m ≤ n ∧ i = .int .i64 (m : Int) ∧ wr.ownsRow w.heap.size 3 1 v m (ints (sideL (L.take m) k)) ∧ Below w.heap.size w wr) (fun i _ _ _ => n - (intOf i).toNat)
  case atStart => exact ⟨0, Nat.zero_le _, rfl, World.ownsRow_nil _ _ _ _, Below.refl _ _⟩
  case round =>
    obtain ⟨m, hm, rfl, O, q⟩ := hrel
    by_cases hlt : m < n
    · have hmi : (m : Int) < (n : Int) := by omega
      have hx : L[m]? = some (L[m]'(by have := HN.out; omega)) := List.getElem?_eq_getElem (by have := HN.out; omega)
      generalize L[m]'(by have := HN.out; omega) = d at hx
      obtain ⟨c0, c1, c2, c3, c4, c5⟩ := (dAt_to q HD.out rfl).cells0 hx
      have HS := hide (show sideL (L.take (m + 1)) k = sideL (L.take m) k ++ [sdD k d] from by rw [List.take_add_one, hx]; simp [sideL])
      have HF := hide (sd_fl d k hk)
      have HO := hide (O.alloc (.cells #[.int .i64 d.t, .int .i64 d.n, .int .i64 d.e, .int .i64 d.s, .int .i64 d.w, .int .i64 d.b] 30))
      have HQ := hide (q.alloc q.size (.cells #[.int .i64 d.t, .int .i64 d.n, .int .i64 d.e, .int .i64 d.s, .int .i64 d.w, .int .i64 d.b] 30))
      clear hx O q
      go_upto_region 5 with (fail)
      clear c0 c1 c2 c3 c4 c5
      have X := IsD.new (w := wr) (d := d) (ty := 30)
      obtain ⟨lx, ⟨c0, c1, c2, c3, c4, c5⟩, -⟩ := X.all
      clear X
      generalize wr.heap.size = b at c0 c1 c2 c3 c4 c5 lx ⊢
      generalize wr.alloc (.cells #[.int .i64 d.t, .int .i64 d.n, .int .i64 d.e, .int .i64 d.s, .int .i64 d.w, .int .i64 d.b] 30) = W2 at c0 c1 c2 c3 c4 c5 lx HO HQ ⊢
      go_wp2_with fail
      refine (diFaces_any d _).mono ?_
      rintro e w3 ⟨rfl, rfl⟩
      have A3 : At6 ((W2.alloc (.cells #[.int .i64 d.t, .int .i64 d.n, .int .i64 d.e, .int .i64 d.s, .int .i64 d.w, .int .i64 d.b] 30)).alloc (.cells #[.int .i64 d.t, .int .i64 d.n, .int .i64 d.e, .int .i64 d.s, .int .i64 d.w, .int .i64 d.b] 3)) (W2.heap.size + 1) (fl d) := by
        have := At6.new (w := W2.alloc (.cells #[.int .i64 d.t, .int .i64 d.n, .int .i64 d.e, .int .i64 d.s, .int .i64 d.w, .int .i64 d.b] 30)) (d := d) (ty := 3)
        simpa using this
      have HO3 := hide ((HO.out.alloc (.cells #[.int .i64 d.t, .int .i64 d.n, .int .i64 d.e, .int .i64 d.s, .int .i64 d.w, .int .i64 d.b] 30)).alloc (.cells #[.int .i64 d.t, .int .i64 d.n, .int .i64 d.e, .int .i64 d.s, .int .i64 d.w, .int .i64 d.b] 3))
      have HQ3 := hide ((HQ.out.alloc HQ.out.size (.cells #[.int .i64 d.t, .int .i64 d.n, .int .i64 d.e, .int .i64 d.s, .int .i64 d.w, .int .i64 d.b] 30)).alloc (by have := HQ.out.size; simp; omega) (.cells #[.int .i64 d.t, .int .i64 d.n, .int .i64 d.e, .int .i64 d.s, .int .i64 d.w, .int .i64 d.b] 3))
      have cx := A3.2 (k + 1) _ HF.out
      generalize sdD k d = x at HS cx
      clear c0 c1 c2 c3 c4 c5 lx A3 HF HO HQ
      obtain ⟨bq, hbq⟩ : ∃ bq, bq = W2.heap.size + 1 := ⟨_, rfl⟩
      rw [← hbq] at cx ⊢
      generalize (W2.alloc _).alloc _ = W3 at cx HO3 HQ3 ⊢
      clear hbq
      go_wp2_with (at_builtin; refine wpList_append_own_at _ rfl _ _ 27 rfl w.heap.size 3 i0 (.int .i64 0) 1 8 Try.underlying27 HI.out HZ0.out HZ1.out HZ2.out rfl (by decide) _ _ _ rfl (HO3.out.alloc _) ⟨_, 0, none⟩ 1 1 [.int .i64 x] rfl rfl (cell_one_newR _ _ _) (by intro u hu; simp only [List.mem_singleton] at hu; subst hu; rfl) (by unfold maxLen; omega) (by omega) (by have := HQ3.out.size; simp; omega) ?_; intro v' w4 hown hgr hnil hblk)
      have HO4 := hide (show w4.ownsRow w.heap.size 3 1 v' (m + 1) (ints (sideL (L.take (m + 1)) k)) from by
        rw [HS.out, ints_snoc]
        exact hown)
      have HQ4 := hide ((HQ3.out.alloc HQ3.out.size _).grown hgr (by have := HQ3.out.size; simp; omega) (fun j hj => (HO3.out.lt j hj).1))
      clear hown hgr hnil hblk HO3 HQ3 cx
      go_wp2
      go_roundw
      case rel => exact ⟨m + 1, by omega, by go_num, HO4.out, HQ4.out⟩
      case measure => simp [intOf] <;> omega
    · obtain rfl : m = n := by omega
      have HO := hide O
      rw [List.take_of_length_le (by have := HN.out; omega)] at HO
      clear O
      go_wp2
      go_returns
      exact ⟨_, rfl, HO.out, q⟩
/-- The numbers towards the four sides. -/
def sfV (d : D) : Value := .agg #[.int .i64 d.n, .int .i64 d.e, .int .i64 d.s, .int .i64 d.w]
def IsF4 (w : World) (b : Nat) (a c e f : Int) : Prop := w.heap[b]? = some (.cells #[.int .i64 a, .int .i64 c, .int .i64 e, .int .i64 f] 74 (0, 0))
theorem IsF4.new {w : World} {a c e f : Int} : IsF4 (w.alloc (.cells #[.int .i64 a, .int .i64 c, .int .i64 e, .int .i64 f] 74)) w.heap.size a c e f := by
  show (w.heap.push _)[w.heap.size]? = _
  simp
theorem IsF4.all {w : World} {b : Nat} {a c e f : Int} (h : IsF4 w b a c e f) : (w.cell? ⟨b, 0, none⟩ = some (.int .i64 a) ∧ w.cell? ⟨b, 1, none⟩ = some (.int .i64 c) ∧ w.cell? ⟨b, 2, none⟩ = some (.int .i64 e) ∧ w.cell? ⟨b, 3, none⟩ = some (.int .i64 f)) ∧ w.frozen? ⟨b, 0, none⟩ = false ∧ w.frozen? ⟨b, 1, none⟩ = false ∧ w.frozen? ⟨b, 2, none⟩ = false ∧ w.frozen? ⟨b, 3, none⟩ = false := by
  unfold IsF4 at h
  simp [World.cell?, World.frozen?, h]
theorem IsF4.set {w : World} {b : Nat} {a c e f : Int} (h : IsF4 w b a c e f) (a' c' e' f' : Int) : IsF4 ((((w.setCell ⟨b, 0, none⟩ (.int .i64 a')).setCell ⟨b, 1, none⟩ (.int .i64 c')).setCell ⟨b, 2, none⟩ (.int .i64 e')).setCell ⟨b, 3, none⟩ (.int .i64 f')) b a' c' e' f' := by
  have h1 := cells_set h 0 (by simp) (.int .i64 a')
  have h2 := cells_set h1 1 (by simp) (.int .i64 c')
  have h3 := cells_set h2 2 (by simp) (.int .i64 e')
  have h4 := cells_set h3 3 (by simp) (.int .i64 f')
  simpa [IsF4] using h4
theorem load_four {w : World} {b : Nat} {a c e f : Int} (h : IsF4 w b a c e f) : (loadVar 74 ⟨b, 0, none⟩).run Try.prog w = .ok (.agg #[.int .i64 a, .int .i64 c, .int .i64 e, .int .i64 f]) w := by
  obtain ⟨⟨c0, c1, c2, c3⟩, _⟩ := h.all
  simp [go_sem, c0, c1, c2, c3]
set_option maxRecDepth 100000 in
theorem ret_four {fn : Func} {p : Tmp} {tmps : Array Value} {w : World} {b : Nat} {a c e f : Int} (h : fn.results = #[.cell p 74]) (hp : tmps.getD p undef = .pointer (some ⟨b, 0, none⟩)) (hd : IsF4 w b a c e f) : (results fn tmps).run Try.prog w = .ok (.agg #[.int .i64 a, .int .i64 c, .int .i64 e, .int .i64 f]) w := by
  rw [results_cell h, hp]
  exact load_four hd
set_option maxHeartbeats 800000 in
theorem sideFacesOf_any (d : D) (w : World) : Calls Try.prog 68 #[D.v d] w fun e w' => e = .returned (sfV d) ∧ Below w.heap.size w w' := by
  have hz := (show IsF4 ((w.alloc (.cells #[.int .i64 d.t, .int .i64 d.n, .int .i64 d.e, .int .i64 d.s, .int .i64 d.w, .int .i64 d.b] 30)).alloc (.cells #[.int .i64 0, .int .i64 0, .int .i64 0, .int .i64 0] 74)) (w.heap.size + 1) 0 0 0 0 from by
    have := IsF4.new (w := w.alloc (.cells #[.int .i64 d.t, .int .i64 d.n, .int .i64 d.e, .int .i64 d.s, .int .i64 d.w, .int .i64 d.b] 30)) (a := 0) (c := 0) (e := 0) (f := 0)
    simpa using this)
  have hx := (IsD.new (w := w) (d := d) (ty := 30)).alloc (.cells #[.int .i64 0, .int .i64 0, .int .i64 0, .int .i64 0] 74)
  have hq : Below w.heap.size w ((w.alloc (.cells #[.int .i64 d.t, .int .i64 d.n, .int .i64 d.e, .int .i64 d.s, .int .i64 d.w, .int .i64 d.b] 30)).alloc (.cells #[.int .i64 0, .int .i64 0, .int .i64 0, .int .i64 0] 74)) := by go_grown
  go_enter Try.func68, Try.ntmps68
  go_upto_region 1 with (fail)
  generalize (w.alloc (.cells #[.int .i64 d.t, .int .i64 d.n, .int .i64 d.e, .int .i64 d.s, .int .i64 d.w, .int .i64 d.b] 30)).alloc (.cells #[.int .i64 0, .int .i64 0, .int .i64 0, .int .i64 0] 74) = w1 at hz hx hq ⊢
  obtain ⟨lx, ⟨c0, c1, c2, c3, c4, c5⟩, -⟩ := hx.all
  obtain ⟨⟨d0, d1, d2, d3⟩, f0, f1, f2, f3⟩ := hz.all
  clear hx
  go_wp2
  refine bodyPost_ret (ret_four Try.results68 rfl (hz.set d.n d.e d.s d.w)) rfl ⟨rfl, ?_⟩
  exact hq |>.setCell (by simp) _ |>.setCell (by simp) _ |>.setCell (by simp) _ |>.setCell (by simp) _
theorem index_side (d : D) : ∀ (k : Nat) (hk : k < 4) (wx : World), (Instr.index 74 (sfV d) (.int .i64 (k : Int))).run Try.prog wx = .ok (.int .i64 (sdD k d)) wx
  | 0, _, _ => by kernel_rfl
  | 1, _, _ => by kernel_rfl
  | 2, _, _ => by kernel_rfl
  | 3, _, _ => by kernel_rfl
end Go.Proofs.Ytkiocklkpnjejaa
