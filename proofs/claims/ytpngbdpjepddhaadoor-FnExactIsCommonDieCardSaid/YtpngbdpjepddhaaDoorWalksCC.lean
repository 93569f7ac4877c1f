/- The model's side of IsCommonDie. -/
import Derived.Test.YtpngbdpjepddhaaDoorWalksOP
import Derived.Test.YtpngbdpjepddhaaDoorShelf
import Derived.Test.YtpngbdpjepddhaaDoorHas
import Derived.Test.YtpngbdpjepddhaaDoorOpen
namespace Go.Proofs.YtpngbdpjepddhaaDoor
set_option maxRecDepth 100000
set_option linter.all false
open Go.RowKit Go.Joins Go.ChangeShapes Go.WideShapes

def flN (d : D) : List Int := [d.t, d.n, d.e, d.s, d.w, d.b]
theorem flN_get (d : D) (i : Nat) (h : i ≤ 5) : (flN d)[i]? = some (atN d i) := by
  rcases (by omega : i = 0 ∨ i = 1 ∨ i = 2 ∨ i = 3 ∨ i = 4 ∨ i = 5) with rfl | rfl | rfl | rfl | rfl | rfl <;> rfl
/-- As the model tells it: one place. -/
def okC (d : D) (i : Nat) : Prop := (1 ≤ atN d i ∧ atN d i ≤ 6) ∧ atN d i ∉ (flN d).take i ∧ atN d i + atN d (acN i) = 7
instance (d : D) (i : Nat) : Decidable (okC d i) := by unfold okC; infer_instance
def comS (d : D) : Bool := (List.range 6).all fun i => decide (okC d i)
theorem comS_iff (d : D) : comS d = true ↔ ∀ i, i < 6 → okC d i := by
  unfold comS
  simp [List.all_eq_true]
/-- As the program tells it: the first place of a number. -/
def fstP (d : D) (n : Int) : Option Nat := (flN d).findIdx? (fun x => decide (x = n))
def okI (d : D) (n : Int) : Prop := ∃ p, p < 6 ∧ atN d p = n ∧ (∀ q, q < p → atN d q ≠ n) ∧ atN d (acN p) = 7 - n
def comI (d : D) : Prop := ∀ n : Int, 1 ≤ n → n ≤ 6 → okI d n
theorem atN_mem (d : D) (i : Nat) (h : i < 6) : atN d i ∈ flN d := List.mem_of_getElem? (flN_get d i (by omega))
theorem mem_atN {d : D} {x : Int} (h : x ∈ flN d) : ∃ i, i < 6 ∧ atN d i = x := by
  obtain ⟨i, hi⟩ := List.mem_iff_getElem?.1 h
  have hl : i < 6 := by
    have := (List.getElem?_eq_some_iff.1 hi).1
    simpa [flN] using this
  exact ⟨i, hl, by rw [flN_get d i (by omega)] at hi; exact Option.some.inj hi⟩
theorem take_mem {d : D} {x : Int} {i : Nat} (hi : i ≤ 6) : x ∈ (flN d).take i ↔ ∃ q, q < i ∧ atN d q = x := by
  rw [List.mem_iff_getElem?]
  constructor
  · rintro ⟨q, hq⟩
    rw [List.getElem?_take] at hq
    split at hq
    · rename_i hlt
      rw [flN_get d q (by omega)] at hq
      exact ⟨q, hlt, Option.some.inj hq⟩
    · cases hq
  · rintro ⟨q, hq, e⟩
    exact ⟨q, by rw [List.getElem?_take, if_pos hq, flN_get d q (by omega), e]⟩
def six : List Int := [1, 2, 3, 4, 5, 6]
/-- All six numbers are among six faces: then each face is one of them, and no two are the same. -/
theorem faces_six {d : D} (h : ∀ n ∈ six, n ∈ flN d) (i : Nat) (hi : i < 6) : (1 ≤ atN d i ∧ atN d i ≤ 6) ∧ ∀ q, q < i → atN d q ≠ atN d i := by
  have key : ∀ n, n ∈ flN d → n ≠ atN d i → n ∈ (flN d).eraseIdx i := by
    intro n hn hne
    obtain ⟨j, hj, e⟩ := mem_atN hn
    rw [List.mem_iff_getElem?]
    rcases Nat.lt_or_ge j i with hlt | hge
    · exact ⟨j, by rw [List.getElem?_eraseIdx, if_pos hlt, flN_get d j (by omega), e]⟩
    · have hji : j ≠ i := fun e2 => hne (by rw [← e, e2])
      exact ⟨j - 1, by rw [List.getElem?_eraseIdx, if_neg (by omega), show j - 1 + 1 = j from by omega, flN_get d j (by omega), e]⟩
  have hlen : ((flN d).eraseIdx i).length = 5 := by
    rw [List.length_eraseIdx, if_pos (by simpa [flN] using hi)]
    rfl
  have hnd : six.Nodup := by decide
  constructor
  · by_cases hin : atN d i ∈ six
    · simp [six] at hin
      omega
    · have := nodup_leC six ((flN d).eraseIdx i) hnd (fun n hn => key n (h n hn) (fun e => hin (e ▸ hn)))
      rw [hlen] at this
      simp [six] at this
  · intro q hq e
    have := nodup_leC six ((flN d).eraseIdx i) hnd (fun n hn => by
      by_cases en : n = atN d i
      · rw [List.mem_iff_getElem?]
        exact ⟨q, by rw [List.getElem?_eraseIdx, if_pos hq, flN_get d q (by omega), e, en]⟩
      · exact key n (h n hn) en)
    rw [hlen] at this
    simp [six] at this
theorem com_same (d : D) : comS d = true ↔ comI d := by
  rw [comS_iff]
  unfold comI
  constructor
  · intro h n h1 h6
    -- the places are different and in 1 to 6: each number is there
    have hall : ∀ m ∈ six, m ∈ flN d := by
      have hsub : ∀ x ∈ flN d, x ∈ six := by
        intro x hx
        obtain ⟨i, hi, e⟩ := mem_atN hx
        have := (h i hi).1
        simp [six]
        omega
      have hnd : (flN d).Nodup := by
        have t1 := (h 1 (by omega)).2.1
        have t2 := (h 2 (by omega)).2.1
        have t3 := (h 3 (by omega)).2.1
        have t4 := (h 4 (by omega)).2.1
        have t5 := (h 5 (by omega)).2.1
        simp only [flN, atN, List.take, List.mem_cons, List.not_mem_nil, or_false, not_or] at t1 t2 t3 t4 t5
        simp only [flN, List.nodup_cons, List.mem_cons, List.not_mem_nil, or_false, not_or, not_false_eq_true, List.nodup_nil, and_true]
        omega
      intro m hm
      by_cases hin : m ∈ flN d
      · exact hin
      · have hms : (six.erase m).length = 5 := by rw [List.length_erase_of_mem hm]; rfl
        have := nodup_leC (flN d) (six.erase m) hnd (fun x hx => by
          rw [List.mem_erase_of_ne (fun e : x = m => hin (by rw [← e]; exact hx))]
          exact hsub x hx)
        rw [hms] at this
        simp [flN] at this
    have hn : n ∈ flN d := hall n (by simp [six]; omega)
    obtain ⟨p, hp, e⟩ := mem_atN hn
    have hf := faces_six hall p hp
    refine ⟨p, hp, e, fun q hq => ?_, ?_⟩
    · rw [← e]
      exact hf.2 q hq
    · have := (h p hp).2.2
      omega
  · intro h i hi
    have hall : ∀ n ∈ six, n ∈ flN d := by
      intro n hn
      obtain ⟨p, hp, e, _⟩ := h n (by simp [six] at hn; omega) (by simp [six] at hn; omega)
      rw [← e]
      exact atN_mem d p hp
    have hf := faces_six hall i hi
    refine ⟨hf.1, ?_, ?_⟩
    · rw [take_mem (by omega)]
      rintro ⟨q, hq, e⟩
      exact hf.2 q hq e
    · obtain ⟨p, hp, e, hfst, ho⟩ := h (atN d i) hf.1.1 hf.1.2
      have hpi : p = i := by
        rcases Nat.lt_trichotomy p i with hlt | heq | hgt
        · exact absurd e (hf.2 p hlt)
        · exact heq
        · exact absurd rfl (hfst i hgt)
      subst hpi
      omega

/-- Every number of the die is one of Go's int. -/
def inR (d : D) : Prop := ∀ i, -9223372036854775808 ≤ atN d i ∧ atN d i ≤ 9223372036854775807
set_option maxRecDepth 100000 in
/-- A die that comes in is six integers of Go's int. -/
theorem open_dieR {H : Type} {enc : TypeId × Value → H} {w : World} {base : Nat} {spare : Nat → Bool} {held : Bool} {r : Reach} {b0 : Nat} {v : Value} {x : DataW H} {p : List MemPlace}
    (hv : Value.okWide Tryd.prog w r b0 23 v) (h : DataW.Trod enc Tryd.prog w base spare held 23 v x p) : ∃ d : D, inR d ∧ v = D.v d := by
  obtain ⟨cs, rfl, hsz⟩ := okWide_struct Tryd.underlying23 hv
  obtain ⟨l⟩ := cs
  match l, hsz.trans cells_die with
  | [c0, c1, c2, c3', c4, c5], _ =>
    obtain ⟨fuel, hf⟩ := h
    obtain ⟨xs, n, _, hx, _, hlen, hg⟩ := DataW.trod_struct Tryd.underlying23 hf
    have c3 : Tryd.prog.cellsOf 3 = 1 := by kernel_rfl
    have one : ∀ (c : Value) (y : DataW H × List MemPlace), DataW.trod enc Tryd.prog w base spare held n 3 [c] = some y → ∃ a : Int, (-9223372036854775808 ≤ a ∧ a ≤ 9223372036854775807) ∧ c = .int .i64 a := by
      intro c y hy
      obtain ⟨a, e, _, hw⟩ := DataW.trod_int Tryd.underlying3 hy
      refine ⟨a, ?_, by simpa using e⟩
      have hm : IntKind.i64.min = -9223372036854775808 := by decide
      have hM : IntKind.i64.max = 9223372036854775807 := by decide
      simp only [Lit.wf, hm, hM, Bool.and_eq_true, decide_eq_true_eq] at hw
      exact hw
    have g0 := hg 0 _ rfl
    have g1 := hg 1 _ rfl
    have g2 := hg 2 _ rfl
    have g3 := hg 3 _ rfl
    have g4 := hg 4 _ rfl
    have g5 := hg 5 _ rfl
    simp only [Value.cells] at g0 g1 g2 g3 g4 g5
    have hl : ∀ j, j < 6 → ∃ y, xs[j]? = some y := fun j hj => ⟨xs[j]'(by simp_all), List.getElem?_eq_getElem _⟩
    obtain ⟨y0, e0⟩ := hl 0 (by omega)
    obtain ⟨y1, e1⟩ := hl 1 (by omega)
    obtain ⟨y2, e2⟩ := hl 2 (by omega)
    obtain ⟨y3, e3⟩ := hl 3 (by omega)
    obtain ⟨y4, e4⟩ := hl 4 (by omega)
    obtain ⟨y5, e5⟩ := hl 5 (by omega)
    obtain ⟨a0, r0, rfl⟩ := one c0 y0 (g0.trans e0)
    obtain ⟨a1, r1, rfl⟩ := one c1 y1 (g1.trans e1)
    obtain ⟨a2, r2, rfl⟩ := one c2 y2 (g2.trans e2)
    obtain ⟨a3, r3, rfl⟩ := one c3' y3 (g3.trans e3)
    obtain ⟨a4, r4, rfl⟩ := one c4 y4 (g4.trans e4)
    obtain ⟨a5, r5, rfl⟩ := one c5 y5 (g5.trans e5)
    exact ⟨⟨a0, a1, a2, a3, a4, a5⟩, fun i => by
      match i with
      | 0 => exact r0
      | 1 => exact r1
      | 2 => exact r2
      | 3 => exact r3
      | 4 => exact r4
      | _ + 5 => exact r5, rfl⟩
theorem comS_no {d : D} (i : Nat) (hi : i < 6) (h : ¬ okC d i) : comS d = false := by
  cases e : comS d
  · rfl
  · exact absurd ((comS_iff d).1 e i hi) h

set_option maxHeartbeats 6400000 in
theorem specCD_any (d : D) (w : World) (hr : inR d) : Calls Tryd.prog 9 #[D.v d] w fun e w' => e = .returned (.bool (comS d)) ∧ Below w.heap.size w w' := by
  have HR := hide hr
  clear hr
  have q1 : Below w.heap.size w (((w.alloc (.cells #[.int .i64 d.t, .int .i64 d.n, .int .i64 d.e, .int .i64 d.s, .int .i64 d.w, .int .i64 d.b] 26)).alloc (.cells #[.int .i64 d.t, .int .i64 d.n, .int .i64 d.e, .int .i64 d.s, .int .i64 d.w, .int .i64 d.b] 26)).alloc (.cells #[.int .i64 d.t, .int .i64 d.n, .int .i64 d.e, .int .i64 d.s, .int .i64 d.w, .int .i64 d.b] 3)) := by go_grown
  have g1 := IsD.new (w := (w.alloc (.cells #[.int .i64 d.t, .int .i64 d.n, .int .i64 d.e, .int .i64 d.s, .int .i64 d.w, .int .i64 d.b] 26)).alloc (.cells #[.int .i64 d.t, .int .i64 d.n, .int .i64 d.e, .int .i64 d.s, .int .i64 d.w, .int .i64 d.b] 26)) (d := d) (ty := 3)
  go_enter Tryd.func9, Tryd.ntmps9
  go_wp2_with fail
  refine (diFaces_any d _).mono ?_
  rintro e w1 ⟨rfl, rfl⟩
  simp only [World.size_alloc] at g1 ⊢
  generalize ((w.alloc (.cells #[.int .i64 d.t, .int .i64 d.n, .int .i64 d.e, .int .i64 d.s, .int .i64 d.w, .int .i64 d.b] 26)).alloc (.cells #[.int .i64 d.t, .int .i64 d.n, .int .i64 d.e, .int .i64 d.s, .int .i64 d.w, .int .i64 d.b] 26)).alloc (.cells #[.int .i64 d.t, .int .i64 d.n, .int .i64 d.e, .int .i64 d.s, .int .i64 d.w, .int .i64 d.b] 3) = w1 at q1 g1 ⊢
  generalize w.heap.size + 1 + 1 = b at g1 ⊢
  obtain ⟨l1, ⟨c0, c1, c2, c3, c4, c5⟩, -⟩ := g1.all
  have HC := hide (show ∀ j y, (flN d)[j]? = some y → w1.cell? ⟨b, j, none⟩ = some (.int .i64 y) from by
    intro j y hy
    have hj : j ≤ 5 := by
      have := (List.getElem?_eq_some_iff.1 hy).1
      simp [flN] at this
      omega
    rw [flN_get d j hj] at hy
    cases hy
    exact cells_at g1 j hj)
  have HQ := hide q1
  clear q1 g1 l1
  go_wp2
  refine wp_loop_rounds 7 ?_
  rw [rounds_succ]
  go_wp2_with fail
  refine (l1In_any d.t 1 6 _).mono ?_
  rintro e w' ⟨rfl, rfl⟩
  by_cases r0 : 1 ≤ d.t ∧ d.t ≤ 6
  case neg =>
    have HN := hide (comS_no (d := d) 0 (by omega) (fun h => r0 h.1))
    rw [decide_eq_false r0]
    clear r0
    go_wp2
    go_returns
    exact ⟨by rw [HN.out]; rfl, HQ.out⟩
  rw [decide_eq_true r0]
  go_wp2_with fail
  refine (l1HasC_any b 0 _ (flN d) d.t _ HC.out (by simp [flN]) (by omega)).mono ?_
  rintro e w' ⟨rfl, rfl⟩
  by_cases m0 : d.t ∈ (flN d).take 0
  case pos =>
    have HN := hide (comS_no (d := d) 0 (by omega) (fun h => h.2.1 m0))
    rw [decide_eq_true m0]
    clear m0 r0
    go_wp2
    go_returns
    exact ⟨by rw [HN.out]; rfl, HQ.out⟩
  rw [decide_eq_false m0]
  go_wp2_with fail
  refine (diAcross_any 0 _ (by omega)).mono ?_
  rintro e w' ⟨rfl, rfl⟩
  rw [show ((acN 0 : Nat) : Int) = 5 from rfl]
  have ra0 := HR.out 5
  have rb0 : -9223372036854775808 ≤ d.b ∧ d.b ≤ 9223372036854775807 := ra0
  by_cases s0 : d.t + d.b = 7
  case neg =>
    have HN := hide (comS_no (d := d) 0 (by omega) (fun h => s0 h.2.2))
    have hw7 : ¬ IntKind.i64.wrap (d.t + d.b) = 7 := by
      rw [IntKind.wrap_i64]
      omega
    obtain ⟨v, hv⟩ : ∃ v, IntKind.i64.wrap (d.t + d.b) = v := ⟨_, rfl⟩
    rw [hv] at hw7
    have e7 : (v != 7) = true := by simpa using hw7
    clear hw7 s0 r0 m0 ra0 rb0
    go_wp2
    go_returns
    exact ⟨by rw [HN.out]; rfl, HQ.out⟩
  have hw0 : IntKind.i64.wrap (d.t + d.b) = 7 := by rw [s0]; rfl
  have K0 := hide (show okC d 0 from ⟨r0, m0, s0⟩)
  clear s0 r0 m0 ra0 rb0
  go_wp2_with fail
  clear hw0
  rw [rounds_succ]
  go_wp2_with fail
  refine (l1In_any d.n 1 6 _).mono ?_
  rintro e w' ⟨rfl, rfl⟩
  by_cases r1 : 1 ≤ d.n ∧ d.n ≤ 6
  case neg =>
    have HN := hide (comS_no (d := d) 1 (by omega) (fun h => r1 h.1))
    rw [decide_eq_false r1]
    clear r1
    go_wp2
    go_returns
    exact ⟨by rw [HN.out]; rfl, HQ.out⟩
  rw [decide_eq_true r1]
  go_wp2_with fail
  refine (l1HasC_any b 1 _ (flN d) d.n _ HC.out (by simp [flN]) (by omega)).mono ?_
  rintro e w' ⟨rfl, rfl⟩
  by_cases m1 : d.n ∈ (flN d).take 1
  case pos =>
    have HN := hide (comS_no (d := d) 1 (by omega) (fun h => h.2.1 m1))
    rw [decide_eq_true m1]
    clear m1 r1
    go_wp2
    go_returns
    exact ⟨by rw [HN.out]; rfl, HQ.out⟩
  rw [decide_eq_false m1]
  go_wp2_with fail
  refine (diAcross_any 1 _ (by omega)).mono ?_
  rintro e w' ⟨rfl, rfl⟩
  rw [show ((acN 1 : Nat) : Int) = 3 from rfl]
  have ra1 := HR.out 3
  have rb1 : -9223372036854775808 ≤ d.s ∧ d.s ≤ 9223372036854775807 := ra1
  by_cases s1 : d.n + d.s = 7
  case neg =>
    have HN := hide (comS_no (d := d) 1 (by omega) (fun h => s1 h.2.2))
    have hw7 : ¬ IntKind.i64.wrap (d.n + d.s) = 7 := by
      rw [IntKind.wrap_i64]
      omega
    obtain ⟨v, hv⟩ : ∃ v, IntKind.i64.wrap (d.n + d.s) = v := ⟨_, rfl⟩
    rw [hv] at hw7
    have e7 : (v != 7) = true := by simpa using hw7
    clear hw7 s1 r1 m1 ra1 rb1
    go_wp2
    go_returns
    exact ⟨by rw [HN.out]; rfl, HQ.out⟩
  have hw1 : IntKind.i64.wrap (d.n + d.s) = 7 := by rw [s1]; rfl
  have K1 := hide (show okC d 1 from ⟨r1, m1, s1⟩)
  clear s1 r1 m1 ra1 rb1
  go_wp2_with fail
  clear hw1
  rw [rounds_succ]
  go_wp2_with fail
  refine (l1In_any d.e 1 6 _).mono ?_
  rintro e w' ⟨rfl, rfl⟩
  by_cases r2 : 1 ≤ d.e ∧ d.e ≤ 6
  case neg =>
    have HN := hide (comS_no (d := d) 2 (by omega) (fun h => r2 h.1))
    rw [decide_eq_false r2]
    clear r2
    go_wp2
    go_returns
    exact ⟨by rw [HN.out]; rfl, HQ.out⟩
  rw [decide_eq_true r2]
  go_wp2_with fail
  refine (l1HasC_any b 2 _ (flN d) d.e _ HC.out (by simp [flN]) (by omega)).mono ?_
  rintro e w' ⟨rfl, rfl⟩
  by_cases m2 : d.e ∈ (flN d).take 2
  case pos =>
    have HN := hide (comS_no (d := d) 2 (by omega) (fun h => h.2.1 m2))
    rw [decide_eq_true m2]
    clear m2 r2
    go_wp2
    go_returns
    exact ⟨by rw [HN.out]; rfl, HQ.out⟩
  rw [decide_eq_false m2]
  go_wp2_with fail
  refine (diAcross_any 2 _ (by omega)).mono ?_
  rintro e w' ⟨rfl, rfl⟩
  rw [show ((acN 2 : Nat) : Int) = 4 from rfl]
  have ra2 := HR.out 4
  have rb2 : -9223372036854775808 ≤ d.w ∧ d.w ≤ 9223372036854775807 := ra2
  by_cases s2 : d.e + d.w = 7
  case neg =>
    have HN := hide (comS_no (d := d) 2 (by omega) (fun h => s2 h.2.2))
    have hw7 : ¬ IntKind.i64.wrap (d.e + d.w) = 7 := by
      rw [IntKind.wrap_i64]
      omega
    obtain ⟨v, hv⟩ : ∃ v, IntKind.i64.wrap (d.e + d.w) = v := ⟨_, rfl⟩
    rw [hv] at hw7
    have e7 : (v != 7) = true := by simpa using hw7
    clear hw7 s2 r2 m2 ra2 rb2
    go_wp2
    go_returns
    exact ⟨by rw [HN.out]; rfl, HQ.out⟩
  have hw2 : IntKind.i64.wrap (d.e + d.w) = 7 := by rw [s2]; rfl
  have K2 := hide (show okC d 2 from ⟨r2, m2, s2⟩)
  clear s2 r2 m2 ra2 rb2
  go_wp2_with fail
  clear hw2
  rw [rounds_succ]
  go_wp2_with fail
  refine (l1In_any d.s 1 6 _).mono ?_
  rintro e w' ⟨rfl, rfl⟩
  by_cases r3 : 1 ≤ d.s ∧ d.s ≤ 6
  case neg =>
    have HN := hide (comS_no (d := d) 3 (by omega) (fun h => r3 h.1))
    rw [decide_eq_false r3]
    clear r3
    go_wp2
    go_returns
    exact ⟨by rw [HN.out]; rfl, HQ.out⟩
  rw [decide_eq_true r3]
  go_wp2_with fail
  refine (l1HasC_any b 3 _ (flN d) d.s _ HC.out (by simp [flN]) (by omega)).mono ?_
  rintro e w' ⟨rfl, rfl⟩
  by_cases m3 : d.s ∈ (flN d).take 3
  case pos =>
    have HN := hide (comS_no (d := d) 3 (by omega) (fun h => h.2.1 m3))
    rw [decide_eq_true m3]
    clear m3 r3
    go_wp2
    go_returns
    exact ⟨by rw [HN.out]; rfl, HQ.out⟩
  rw [decide_eq_false m3]
  go_wp2_with fail
  refine (diAcross_any 3 _ (by omega)).mono ?_
  rintro e w' ⟨rfl, rfl⟩
  rw [show ((acN 3 : Nat) : Int) = 1 from rfl]
  have ra3 := HR.out 1
  have rb3 : -9223372036854775808 ≤ d.n ∧ d.n ≤ 9223372036854775807 := ra3
  by_cases s3 : d.s + d.n = 7
  case neg =>
    have HN := hide (comS_no (d := d) 3 (by omega) (fun h => s3 h.2.2))
    have hw7 : ¬ IntKind.i64.wrap (d.s + d.n) = 7 := by
      rw [IntKind.wrap_i64]
      omega
    obtain ⟨v, hv⟩ : ∃ v, IntKind.i64.wrap (d.s + d.n) = v := ⟨_, rfl⟩
    rw [hv] at hw7
    have e7 : (v != 7) = true := by simpa using hw7
    clear hw7 s3 r3 m3 ra3 rb3
    go_wp2
    go_returns
    exact ⟨by rw [HN.out]; rfl, HQ.out⟩
  have hw3 : IntKind.i64.wrap (d.s + d.n) = 7 := by rw [s3]; rfl
  have K3 := hide (show okC d 3 from ⟨r3, m3, s3⟩)
  clear s3 r3 m3 ra3 rb3
  go_wp2_with fail
  clear hw3
  rw [rounds_succ]
  go_wp2_with fail
  refine (l1In_any d.w 1 6 _).mono ?_
  rintro e w' ⟨rfl, rfl⟩
  by_cases r4 : 1 ≤ d.w ∧ d.w ≤ 6
  case neg =>
    have HN := hide (comS_no (d := d) 4 (by omega) (fun h => r4 h.1))
    rw [decide_eq_false r4]
    clear r4
    go_wp2
    go_returns
    exact ⟨by rw [HN.out]; rfl, HQ.out⟩
  rw [decide_eq_true r4]
  go_wp2_with fail
  refine (l1HasC_any b 4 _ (flN d) d.w _ HC.out (by simp [flN]) (by omega)).mono ?_
  rintro e w' ⟨rfl, rfl⟩
  by_cases m4 : d.w ∈ (flN d).take 4
  case pos =>
    have HN := hide (comS_no (d := d) 4 (by omega) (fun h => h.2.1 m4))
    rw [decide_eq_true m4]
    clear m4 r4
    go_wp2
    go_returns
    exact ⟨by rw [HN.out]; rfl, HQ.out⟩
  rw [decide_eq_false m4]
  go_wp2_with fail
  refine (diAcross_any 4 _ (by omega)).mono ?_
  rintro e w' ⟨rfl, rfl⟩
  rw [show ((acN 4 : Nat) : Int) = 2 from rfl]
  have ra4 := HR.out 2
  have rb4 : -9223372036854775808 ≤ d.e ∧ d.e ≤ 9223372036854775807 := ra4
  by_cases s4 : d.w + d.e = 7
  case neg =>
    have HN := hide (comS_no (d := d) 4 (by omega) (fun h => s4 h.2.2))
    have hw7 : ¬ IntKind.i64.wrap (d.w + d.e) = 7 := by
      rw [IntKind.wrap_i64]
      omega
    obtain ⟨v, hv⟩ : ∃ v, IntKind.i64.wrap (d.w + d.e) = v := ⟨_, rfl⟩
    rw [hv] at hw7
    have e7 : (v != 7) = true := by simpa using hw7
    clear hw7 s4 r4 m4 ra4 rb4
    go_wp2
    go_returns
    exact ⟨by rw [HN.out]; rfl, HQ.out⟩
  have hw4 : IntKind.i64.wrap (d.w + d.e) = 7 := by rw [s4]; rfl
  have K4 := hide (show okC d 4 from ⟨r4, m4, s4⟩)
  clear s4 r4 m4 ra4 rb4
  go_wp2_with fail
  clear hw4
  rw [rounds_succ]
  go_wp2_with fail
  refine (l1In_any d.b 1 6 _).mono ?_
  rintro e w' ⟨rfl, rfl⟩
  by_cases r5 : 1 ≤ d.b ∧ d.b ≤ 6
  case neg =>
    have HN := hide (comS_no (d := d) 5 (by omega) (fun h => r5 h.1))
    rw [decide_eq_false r5]
    clear r5
    go_wp2
    go_returns
    exact ⟨by rw [HN.out]; rfl, HQ.out⟩
  rw [decide_eq_true r5]
  go_wp2_with fail
  refine (l1HasC_any b 5 _ (flN d) d.b _ HC.out (by simp [flN]) (by omega)).mono ?_
  rintro e w' ⟨rfl, rfl⟩
  by_cases m5 : d.b ∈ (flN d).take 5
  case pos =>
    have HN := hide (comS_no (d := d) 5 (by omega) (fun h => h.2.1 m5))
    rw [decide_eq_true m5]
    clear m5 r5
    go_wp2
    go_returns
    exact ⟨by rw [HN.out]; rfl, HQ.out⟩
  rw [decide_eq_false m5]
  go_wp2_with fail
  refine (diAcross_any 5 _ (by omega)).mono ?_
  rintro e w' ⟨rfl, rfl⟩
  rw [show ((acN 5 : Nat) : Int) = 0 from rfl]
  have ra5 := HR.out 0
  have rb5 : -9223372036854775808 ≤ d.t ∧ d.t ≤ 9223372036854775807 := ra5
  by_cases s5 : d.b + d.t = 7
  case neg =>
    have HN := hide (comS_no (d := d) 5 (by omega) (fun h => s5 h.2.2))
    have hw7 : ¬ IntKind.i64.wrap (d.b + d.t) = 7 := by
      rw [IntKind.wrap_i64]
      omega
    obtain ⟨v, hv⟩ : ∃ v, IntKind.i64.wrap (d.b + d.t) = v := ⟨_, rfl⟩
    rw [hv] at hw7
    have e7 : (v != 7) = true := by simpa using hw7
    clear hw7 s5 r5 m5 ra5 rb5
    go_wp2
    go_returns
    exact ⟨by rw [HN.out]; rfl, HQ.out⟩
  have hw5 : IntKind.i64.wrap (d.b + d.t) = 7 := by rw [s5]; rfl
  have K5 := hide (show okC d 5 from ⟨r5, m5, s5⟩)
  clear s5 r5 m5 ra5 rb5
  go_wp2_with fail
  clear hw5
  have HY := hide (show comS d = true from (comS_iff d).2 (by
    intro i hi
    rcases (by omega : i = 0 ∨ i = 1 ∨ i = 2 ∨ i = 3 ∨ i = 4 ∨ i = 5) with rfl | rfl | rfl | rfl | rfl | rfl
    · exact K0.out
    · exact K1.out
    · exact K2.out
    · exact K3.out
    · exact K4.out
    · exact K5.out))
  rw [rounds_succ]
  go_wp2
  go_returns
  exact ⟨by rw [HY.out]; rfl, HQ.out⟩
end Go.Proofs.YtpngbdpjepddhaaDoor
