/- The walks of the laws of DistanceTo and CountShortest. -/
import Derived.Test.YthdkhikkdcjifaaDoorWyV
namespace Go.Proofs.YthdkhikkdcjifaaDoor
set_option maxRecDepth 100000
set_option linter.all false
open Go.RowKit Go.Maps Go.ChangeMaps

set_option maxHeartbeats 1600000 in
theorem specDistanceTo_any (s : ByteArray) (t u : St) (w : World) (hs : s.size ≤ 1048576) : Calls Tryd.prog 19 #[.string s, St.v t, St.v u] w fun e w' => e = .returned (.tuple #[.int .i64 (dtV s t u), .bool (ndB s t u).isSome]) ∧ Below w.heap.size w w' := by
  have S0 : IsS ((w.alloc (.cells #[.int .i64 t.x, .int .i64 t.y, .int .i64 t.d.t, .int .i64 t.d.n, .int .i64 t.d.e, .int .i64 t.d.s, .int .i64 t.d.w, .int .i64 t.d.b] 30)).alloc (.cells #[.int .i64 u.x, .int .i64 u.y, .int .i64 u.d.t, .int .i64 u.d.n, .int .i64 u.d.e, .int .i64 u.d.s, .int .i64 u.d.w, .int .i64 u.d.b] 30)) w.heap.size t 30 := (IsS.new (s := t)).alloc _
  have T0 : IsS ((w.alloc (.cells #[.int .i64 t.x, .int .i64 t.y, .int .i64 t.d.t, .int .i64 t.d.n, .int .i64 t.d.e, .int .i64 t.d.s, .int .i64 t.d.w, .int .i64 t.d.b] 30)).alloc (.cells #[.int .i64 u.x, .int .i64 u.y, .int .i64 u.d.t, .int .i64 u.d.n, .int .i64 u.d.e, .int .i64 u.d.s, .int .i64 u.d.w, .int .i64 u.d.b] 30)) (w.alloc (.cells #[.int .i64 t.x, .int .i64 t.y, .int .i64 t.d.t, .int .i64 t.d.n, .int .i64 t.d.e, .int .i64 t.d.s, .int .i64 t.d.w, .int .i64 t.d.b] 30)).heap.size u 30 := IsS.new
  simp only [World.size_alloc] at T0
  have q0 : Below w.heap.size w ((w.alloc (.cells #[.int .i64 t.x, .int .i64 t.y, .int .i64 t.d.t, .int .i64 t.d.n, .int .i64 t.d.e, .int .i64 t.d.s, .int .i64 t.d.w, .int .i64 t.d.b] 30)).alloc (.cells #[.int .i64 u.x, .int .i64 u.y, .int .i64 u.d.t, .int .i64 u.d.n, .int .i64 u.d.e, .int .i64 u.d.s, .int .i64 u.d.w, .int .i64 u.d.b] 30)) := by go_grown
  have HW := hide (fun wx => wyTo_any s t u wx hs)
  obtain ⟨z0, hz0⟩ : ∃ z, z = dtV s t u := ⟨_, rfl⟩
  obtain ⟨z1, hz1⟩ : ∃ z, z = (ndB s t u).isSome := ⟨_, rfl⟩
  rw [← hz0, ← hz1]
  have HZ0 := hide hz0
  have HZ1 := hide hz1
  clear hz0 hz1
  obtain ⟨l0, ⟨c0, c1, c2, c3, c4, c5, c6, c7⟩, -⟩ := S0.all
  obtain ⟨m0, ⟨d0, d1, d2, d3, d4, d5, d6, d7⟩, -⟩ := T0.all
  go_enter Tryd.func19, Tryd.ntmps19
  go_wp2_with fail
  refine (HW.out _).mono ?_
  rintro e w1 (⟨hno, _, rfl, hb1⟩ | ⟨g1, c1', L, at_, hpos, hir, hcore, hat, rfl, hown, hb1⟩)
  · have q1 := below_to hb1 q0 q0.size rfl rfl rfl rfl
    have HR0 := hide (show z0 = 0 from by rw [HZ0.out]; unfold dtV; rw [hno]; simp only [Option.elim_none])
    have HR1 := hide (show z1 = false from by rw [HZ1.out, hno]; rfl)
    clear hno
    go_wp2
    go_returns
    exact ⟨by rw [HR0.out, HR1.out]; rfl, q1⟩
  · have q1 := below_to hb1 q0 q0.size rfl rfl rfl rfl
    have hask := ir_ask hir
    clear hir
    cases hf : findI (wysB s t) u with
    | none =>
      have hn : ndB s t u = none := by unfold ndB; rw [if_pos hask, hf]; rfl
      have HR0 := hide (show z0 = 0 from by rw [HZ0.out]; unfold dtV; rw [hn]; simp only [Option.elim_none])
      have HR1 := hide (show z1 = false from by rw [HZ1.out, hn]; rfl)
      rw [hf] at hat
      have hat' : at_ = -1 := hat
      rw [hat']
      clear hn hf hat hat' hcore hask hown
      go_wp2
      go_returns
      exact ⟨by rw [HR0.out, HR1.out]; rfl, q1⟩
    | some i =>
      obtain ⟨q, hq, hqs⟩ := findI_some hf
      have hn : ndB s t u = some q := by unfold ndB; rw [if_pos hask, hf]; exact hq
      have hil : i < L.length := by have := (List.getElem?_eq_some_iff.1 hq).1; have := core_len hcore; omega
      have hx : L[i]? = some (L[i]'hil) := List.getElem?_eq_getElem hil
      generalize L[i]'hil = x at hx
      obtain ⟨e1, e2, e3, e4, e5⟩ := core_at hcore hx hq
      have HR0 := hide (HZ0.out.trans ((dtV_some hn).trans (congrArg (fun m : Nat => (m : Int)) e2.symm)))
      have HR1 := hide (show z1 = true from by rw [HZ1.out, hn]; rfl)
      rw [hf] at hat
      have hat' : at_ = (i : Int) := hat
      rw [hat']
      obtain ⟨l1, a0, a1, a2, a3, a4, a5, a6, a7, a8, a9, a10, a11, a12, a13, a14, a15⟩ := row_nd hown hx
      have hii : (i : Int) < (L.length : Int) := by omega
      have hi0 : ¬ ((i : Int) < 0) := by omega
      clear hn hf hat hat' hcore hask hown hq hqs hx e1 e2 e3 e4 e5
      go_wp2
      go_returns
      exact ⟨by rw [HR0.out, HR1.out]; rfl, q1⟩
set_option maxHeartbeats 1600000 in
theorem specCountShortest_any (s : ByteArray) (t u : St) (w : World) (hs : s.size ≤ 1048576) : Calls Tryd.prog 23 #[.string s, St.v t, St.v u] w fun e w' => e = .returned (.tuple #[.int .i64 (csV s t u), .bool (ndB s t u).isSome]) ∧ Below w.heap.size w w' := by
  have S0 : IsS ((w.alloc (.cells #[.int .i64 t.x, .int .i64 t.y, .int .i64 t.d.t, .int .i64 t.d.n, .int .i64 t.d.e, .int .i64 t.d.s, .int .i64 t.d.w, .int .i64 t.d.b] 30)).alloc (.cells #[.int .i64 u.x, .int .i64 u.y, .int .i64 u.d.t, .int .i64 u.d.n, .int .i64 u.d.e, .int .i64 u.d.s, .int .i64 u.d.w, .int .i64 u.d.b] 30)) w.heap.size t 30 := (IsS.new (s := t)).alloc _
  have T0 : IsS ((w.alloc (.cells #[.int .i64 t.x, .int .i64 t.y, .int .i64 t.d.t, .int .i64 t.d.n, .int .i64 t.d.e, .int .i64 t.d.s, .int .i64 t.d.w, .int .i64 t.d.b] 30)).alloc (.cells #[.int .i64 u.x, .int .i64 u.y, .int .i64 u.d.t, .int .i64 u.d.n, .int .i64 u.d.e, .int .i64 u.d.s, .int .i64 u.d.w, .int .i64 u.d.b] 30)) (w.alloc (.cells #[.int .i64 t.x, .int .i64 t.y, .int .i64 t.d.t, .int .i64 t.d.n, .int .i64 t.d.e, .int .i64 t.d.s, .int .i64 t.d.w, .int .i64 t.d.b] 30)).heap.size u 30 := IsS.new
  simp only [World.size_alloc] at T0
  have q0 : Below w.heap.size w ((w.alloc (.cells #[.int .i64 t.x, .int .i64 t.y, .int .i64 t.d.t, .int .i64 t.d.n, .int .i64 t.d.e, .int .i64 t.d.s, .int .i64 t.d.w, .int .i64 t.d.b] 30)).alloc (.cells #[.int .i64 u.x, .int .i64 u.y, .int .i64 u.d.t, .int .i64 u.d.n, .int .i64 u.d.e, .int .i64 u.d.s, .int .i64 u.d.w, .int .i64 u.d.b] 30)) := by go_grown
  have HW := hide (fun wx => wyTo_any s t u wx hs)
  obtain ⟨z0, hz0⟩ : ∃ z, z = csV s t u := ⟨_, rfl⟩
  obtain ⟨z1, hz1⟩ : ∃ z, z = (ndB s t u).isSome := ⟨_, rfl⟩
  rw [← hz0, ← hz1]
  have HZ0 := hide hz0
  have HZ1 := hide hz1
  clear hz0 hz1
  obtain ⟨l0, ⟨c0, c1, c2, c3, c4, c5, c6, c7⟩, -⟩ := S0.all
  obtain ⟨m0, ⟨d0, d1, d2, d3, d4, d5, d6, d7⟩, -⟩ := T0.all
  go_enter Tryd.func23, Tryd.ntmps23
  go_wp2_with fail
  refine (HW.out _).mono ?_
  rintro e w1 (⟨hno, _, rfl, hb1⟩ | ⟨g1, c1', L, at_, hpos, hir, hcore, hat, rfl, hown, hb1⟩)
  · have q1 := below_to hb1 q0 q0.size rfl rfl rfl rfl
    have HR0 := hide (show z0 = 0 from by rw [HZ0.out]; unfold csV; rw [hno]; simp only [Option.elim_none])
    have HR1 := hide (show z1 = false from by rw [HZ1.out, hno]; rfl)
    clear hno
    go_wp2
    go_returns
    exact ⟨by rw [HR0.out, HR1.out]; rfl, q1⟩
  · have q1 := below_to hb1 q0 q0.size rfl rfl rfl rfl
    have hask := ir_ask hir
    clear hir
    cases hf : findI (wysB s t) u with
    | none =>
      have hn : ndB s t u = none := by unfold ndB; rw [if_pos hask, hf]; rfl
      have HR0 := hide (show z0 = 0 from by rw [HZ0.out]; unfold csV; rw [hn]; simp only [Option.elim_none])
      have HR1 := hide (show z1 = false from by rw [HZ1.out, hn]; rfl)
      rw [hf] at hat
      have hat' : at_ = -1 := hat
      rw [hat']
      clear hn hf hat hat' hcore hask hown
      go_wp2
      go_returns
      exact ⟨by rw [HR0.out, HR1.out]; rfl, q1⟩
    | some i =>
      obtain ⟨q, hq, hqs⟩ := findI_some hf
      have hn : ndB s t u = some q := by unfold ndB; rw [if_pos hask, hf]; exact hq
      have hil : i < L.length := by have := (List.getElem?_eq_some_iff.1 hq).1; have := core_len hcore; omega
      have hx : L[i]? = some (L[i]'hil) := List.getElem?_eq_getElem hil
      generalize L[i]'hil = x at hx
      obtain ⟨e1, e2, e3, e4, e5⟩ := core_at hcore hx hq
      have HR0 := hide (HZ0.out.trans ((csV_some hn).trans ((cntN_eq q).symm.trans e3.symm)))
      have HR1 := hide (show z1 = true from by rw [HZ1.out, hn]; rfl)
      rw [hf] at hat
      have hat' : at_ = (i : Int) := hat
      rw [hat']
      obtain ⟨l1, a0, a1, a2, a3, a4, a5, a6, a7, a8, a9, a10, a11, a12, a13, a14, a15⟩ := row_nd hown hx
      have hii : (i : Int) < (L.length : Int) := by omega
      have hi0 : ¬ ((i : Int) < 0) := by omega
      clear hn hf hat hat' hcore hask hown hq hqs hx e1 e2 e3 e4 e5
      go_wp2
      go_returns
      exact ⟨by rw [HR0.out, HR1.out]; rfl, q1⟩
set_option maxHeartbeats 1600000 in
theorem implDistanceTo_any (s : ByteArray) (t u : St) (hw : wfS u) (w : World) (hs : s.size ≤ 1048576) (hg : Glob w) : Calls Tryd.prog 20 #[.string s, St.v t, St.v u] w fun e w' => e = .returned (.tuple #[.int .i64 (dtV s t u), .bool (ndB s t u).isSome]) ∧ Below w.heap.size w w' := by
  have S0 : IsS ((w.alloc (.cells #[.int .i64 t.x, .int .i64 t.y, .int .i64 t.d.t, .int .i64 t.d.n, .int .i64 t.d.e, .int .i64 t.d.s, .int .i64 t.d.w, .int .i64 t.d.b] 30)).alloc (.cells #[.int .i64 u.x, .int .i64 u.y, .int .i64 u.d.t, .int .i64 u.d.n, .int .i64 u.d.e, .int .i64 u.d.s, .int .i64 u.d.w, .int .i64 u.d.b] 30)) w.heap.size t 30 := (IsS.new (s := t)).alloc _
  have T0 : IsS ((w.alloc (.cells #[.int .i64 t.x, .int .i64 t.y, .int .i64 t.d.t, .int .i64 t.d.n, .int .i64 t.d.e, .int .i64 t.d.s, .int .i64 t.d.w, .int .i64 t.d.b] 30)).alloc (.cells #[.int .i64 u.x, .int .i64 u.y, .int .i64 u.d.t, .int .i64 u.d.n, .int .i64 u.d.e, .int .i64 u.d.s, .int .i64 u.d.w, .int .i64 u.d.b] 30)) (w.alloc (.cells #[.int .i64 t.x, .int .i64 t.y, .int .i64 t.d.t, .int .i64 t.d.n, .int .i64 t.d.e, .int .i64 t.d.s, .int .i64 t.d.w, .int .i64 t.d.b] 30)).heap.size u 30 := IsS.new
  simp only [World.size_alloc] at T0
  have q0 : Below w.heap.size w ((w.alloc (.cells #[.int .i64 t.x, .int .i64 t.y, .int .i64 t.d.t, .int .i64 t.d.n, .int .i64 t.d.e, .int .i64 t.d.s, .int .i64 t.d.w, .int .i64 t.d.b] 30)).alloc (.cells #[.int .i64 u.x, .int .i64 u.y, .int .i64 u.d.t, .int .i64 u.d.n, .int .i64 u.d.e, .int .i64 u.d.s, .int .i64 u.d.w, .int .i64 u.d.b] 30)) := by go_grown
  have HG := hide (glob_to (w0 := w) q0 hg rfl)
  have HW := hide (fun wx hx => routeTo_any s t u hw wx hs hx)
  obtain ⟨r, hr⟩ : ∃ r, r = (ndB s t u).elim zeroR rtOf := ⟨_, rfl⟩
  have HR0 := hide (show dtV s t u = (r.word.length : Int) from by
    unfold dtV
    rw [hr]
    cases ndB s t u with
    | none => simp [zeroR]
    | some q =>
      rw [Option.elim_some, Option.elim_some]
      show (q.far : Int) = ((wdB q.hd).length : Int)
      rw [wdB_len]
      rfl)
  rw [← hr] at HW
  generalize dtV s t u = z0 at HR0 ⊢
  generalize (ndB s t u).isSome = z1 at HW ⊢
  clear hr hg
  obtain ⟨l0, ⟨c0, c1, c2, c3, c4, c5, c6, c7⟩, -⟩ := S0.all
  obtain ⟨m0, ⟨d0, d1, d2, d3, d4, d5, d6, d7⟩, -⟩ := T0.all
  go_enter Tryd.func20, Tryd.ntmps20
  go_wp2_with fail
  refine (HW.out _ HG.out).mono ?_
  rintro e w1 ⟨rfl, hb1⟩
  have q1 := below_to hb1 q0 q0.size rfl rfl rfl rfl
  go_wp2
  go_returns
  exact ⟨by rw [HR0.out]; rfl, q1.alloc q1.size _⟩
set_option maxHeartbeats 1600000 in
theorem implCountShortest_any (s : ByteArray) (t u : St) (hw : wfS u) (w : World) (hs : s.size ≤ 1048576) (hg : Glob w) : Calls Tryd.prog 24 #[.string s, St.v t, St.v u] w fun e w' => e = .returned (.tuple #[.int .i64 (csV s t u), .bool (ndB s t u).isSome]) ∧ Below w.heap.size w w' := by
  have S0 : IsS ((w.alloc (.cells #[.int .i64 t.x, .int .i64 t.y, .int .i64 t.d.t, .int .i64 t.d.n, .int .i64 t.d.e, .int .i64 t.d.s, .int .i64 t.d.w, .int .i64 t.d.b] 30)).alloc (.cells #[.int .i64 u.x, .int .i64 u.y, .int .i64 u.d.t, .int .i64 u.d.n, .int .i64 u.d.e, .int .i64 u.d.s, .int .i64 u.d.w, .int .i64 u.d.b] 30)) w.heap.size t 30 := (IsS.new (s := t)).alloc _
  have T0 : IsS ((w.alloc (.cells #[.int .i64 t.x, .int .i64 t.y, .int .i64 t.d.t, .int .i64 t.d.n, .int .i64 t.d.e, .int .i64 t.d.s, .int .i64 t.d.w, .int .i64 t.d.b] 30)).alloc (.cells #[.int .i64 u.x, .int .i64 u.y, .int .i64 u.d.t, .int .i64 u.d.n, .int .i64 u.d.e, .int .i64 u.d.s, .int .i64 u.d.w, .int .i64 u.d.b] 30)) (w.alloc (.cells #[.int .i64 t.x, .int .i64 t.y, .int .i64 t.d.t, .int .i64 t.d.n, .int .i64 t.d.e, .int .i64 t.d.s, .int .i64 t.d.w, .int .i64 t.d.b] 30)).heap.size u 30 := IsS.new
  simp only [World.size_alloc] at T0
  have q0 : Below w.heap.size w ((w.alloc (.cells #[.int .i64 t.x, .int .i64 t.y, .int .i64 t.d.t, .int .i64 t.d.n, .int .i64 t.d.e, .int .i64 t.d.s, .int .i64 t.d.w, .int .i64 t.d.b] 30)).alloc (.cells #[.int .i64 u.x, .int .i64 u.y, .int .i64 u.d.t, .int .i64 u.d.n, .int .i64 u.d.e, .int .i64 u.d.s, .int .i64 u.d.w, .int .i64 u.d.b] 30)) := by go_grown
  have HG := hide (glob_to (w0 := w) q0 hg rfl)
  have HW := hide (fun wx hx => routeTo_any s t u hw wx hs hx)
  obtain ⟨r, hr⟩ : ∃ r, r = (ndB s t u).elim zeroR rtOf := ⟨_, rfl⟩
  have HR0 := hide (show csV s t u = r.count from by
    unfold csV
    rw [hr]
    cases ndB s t u with
    | none => simp [zeroR]
    | some q =>
      rw [Option.elim_some, Option.elim_some, rtOf_count])
  rw [← hr] at HW
  generalize csV s t u = z0 at HR0 ⊢
  generalize (ndB s t u).isSome = z1 at HW ⊢
  clear hr hg
  obtain ⟨l0, ⟨c0, c1, c2, c3, c4, c5, c6, c7⟩, -⟩ := S0.all
  obtain ⟨m0, ⟨d0, d1, d2, d3, d4, d5, d6, d7⟩, -⟩ := T0.all
  go_enter Tryd.func24, Tryd.ntmps24
  go_wp2_with fail
  refine (HW.out _ HG.out).mono ?_
  rintro e w1 ⟨rfl, hb1⟩
  have q1 := below_to hb1 q0 q0.size rfl rfl rfl rfl
  go_wp2
  go_returns
  exact ⟨by rw [HR0.out]; rfl, q1.alloc q1.size _⟩
set_option maxHeartbeats 3200000 in
theorem walk_DistanceTo (v0 : ByteArray) (hv0 : v0.size ≤ maxLen) (t0 : St) (hxt0 : (Lit.int .i64 t0.x).wf = true) (hyt0 : (Lit.int .i64 t0.y).wf = true) (t1 : St) (hwt1 : wfS t1)  (w : World) (hg : Glob w) : Calls Tryd.prog 5 #[.string v0, St.v t0, St.v t1] w fun e w' => e = .returned (.bool true) ∧ Below w.heap.size w w' := by
  have HGL := hide hg
  clear hg
  by_cases h0 : v0.size ≤ 1048576
  · have HS0 := hide h0
    obtain ⟨z0, hz0⟩ : ∃ z, z = dtV v0 t0 t1 := ⟨_, rfl⟩
    have HZ0 := hide hz0
    clear hz0
    have e0 : (z0 != z0) = false := by simp
    obtain ⟨z1, hz1⟩ : ∃ z, z = (ndB v0 t0 t1).isSome := ⟨_, rfl⟩
    have HZ1 := hide hz1
    clear hz1
    have e1 : (z1 != z1) = false := by simp
    have B0 : IsS ((w.alloc (.cells #[.int .i64 t0.x, .int .i64 t0.y, .int .i64 t0.d.t, .int .i64 t0.d.n, .int .i64 t0.d.e, .int .i64 t0.d.s, .int .i64 t0.d.w, .int .i64 t0.d.b] 25)).alloc (.cells #[.int .i64 t1.x, .int .i64 t1.y, .int .i64 t1.d.t, .int .i64 t1.d.n, .int .i64 t1.d.e, .int .i64 t1.d.s, .int .i64 t1.d.w, .int .i64 t1.d.b] 25)) w.heap.size t0 25 := (IsS.new (s := t0)).alloc _
    have B1 : IsS ((w.alloc (.cells #[.int .i64 t0.x, .int .i64 t0.y, .int .i64 t0.d.t, .int .i64 t0.d.n, .int .i64 t0.d.e, .int .i64 t0.d.s, .int .i64 t0.d.w, .int .i64 t0.d.b] 25)).alloc (.cells #[.int .i64 t1.x, .int .i64 t1.y, .int .i64 t1.d.t, .int .i64 t1.d.n, .int .i64 t1.d.e, .int .i64 t1.d.s, .int .i64 t1.d.w, .int .i64 t1.d.b] 25)) (w.alloc (.cells #[.int .i64 t0.x, .int .i64 t0.y, .int .i64 t0.d.t, .int .i64 t0.d.n, .int .i64 t0.d.e, .int .i64 t0.d.s, .int .i64 t0.d.w, .int .i64 t0.d.b] 25)).heap.size t1 25 := IsS.new (s := t1)
    simp only [World.size_alloc] at B0 B1
    have q0 : Below w.heap.size w ((w.alloc (.cells #[.int .i64 t0.x, .int .i64 t0.y, .int .i64 t0.d.t, .int .i64 t0.d.n, .int .i64 t0.d.e, .int .i64 t0.d.s, .int .i64 t0.d.w, .int .i64 t0.d.b] 25)).alloc (.cells #[.int .i64 t1.x, .int .i64 t1.y, .int .i64 t1.d.t, .int .i64 t1.d.n, .int .i64 t1.d.e, .int .i64 t1.d.s, .int .i64 t1.d.w, .int .i64 t1.d.b] 25)) := by go_grown
    go_enter Tryd.func5, Tryd.ntmps5
    go_upto_region 3 with (fail)
    generalize ((w.alloc (.cells #[.int .i64 t0.x, .int .i64 t0.y, .int .i64 t0.d.t, .int .i64 t0.d.n, .int .i64 t0.d.e, .int .i64 t0.d.s, .int .i64 t0.d.w, .int .i64 t0.d.b] 25)).alloc (.cells #[.int .i64 t1.x, .int .i64 t1.y, .int .i64 t1.d.t, .int .i64 t1.d.n, .int .i64 t1.d.e, .int .i64 t1.d.s, .int .i64 t1.d.w, .int .i64 t1.d.b] 25)) = w0 at B0 B1 q0 ⊢
    obtain ⟨l0, ⟨a0, a1, a2, a3, a4, a5, a6, a7⟩, -⟩ := B0.all
    obtain ⟨l1, ⟨b0, b1, b2, b3, b4, b5, b6, b7⟩, -⟩ := B1.all
    skip
    go_region_held3 (fun w' => w'.cell? ⟨w.heap.size, 0, none⟩ = some (.int .i64 t0.x) ∧ w'.cell? ⟨w.heap.size, 1, none⟩ = some (.int .i64 t0.y) ∧ w'.cell? ⟨w.heap.size, 2, none⟩ = some (.int .i64 t0.d.t) ∧ w'.cell? ⟨w.heap.size, 3, none⟩ = some (.int .i64 t0.d.n) ∧ w'.cell? ⟨w.heap.size, 4, none⟩ = some (.int .i64 t0.d.e) ∧ w'.cell? ⟨w.heap.size, 5, none⟩ = some (.int .i64 t0.d.s) ∧ w'.cell? ⟨w.heap.size, 6, none⟩ = some (.int .i64 t0.d.w) ∧ w'.cell? ⟨w.heap.size, 7, none⟩ = some (.int .i64 t0.d.b) ∧ w'.cell? ⟨w.heap.size + 1, 0, none⟩ = some (.int .i64 t1.x) ∧ w'.cell? ⟨w.heap.size + 1, 1, none⟩ = some (.int .i64 t1.y) ∧ w'.cell? ⟨w.heap.size + 1, 2, none⟩ = some (.int .i64 t1.d.t) ∧ w'.cell? ⟨w.heap.size + 1, 3, none⟩ = some (.int .i64 t1.d.n) ∧ w'.cell? ⟨w.heap.size + 1, 4, none⟩ = some (.int .i64 t1.d.e) ∧ w'.cell? ⟨w.heap.size + 1, 5, none⟩ = some (.int .i64 t1.d.s) ∧ w'.cell? ⟨w.heap.size + 1, 6, none⟩ = some (.int .i64 t1.d.w) ∧ w'.cell? ⟨w.heap.size + 1, 7, none⟩ = some (.int .i64 t1.d.b)) (first | (refine ⟨?_, ?_, ?_, ?_, ?_, ?_, ?_, ?_, ?_, ?_, ?_, ?_, ?_, ?_, ?_, ?_⟩ <;> with_reducible assumption) | (refine ⟨?_, ?_, ?_, ?_, ?_, ?_, ?_, ?_, ?_, ?_, ?_, ?_, ?_, ?_, ?_, ?_⟩ <;> assumption))
      (first
        | (go_at_call 15; (with_reducible refine (toState_any t0 _).mono ?_); rintro e w1 ⟨rfl, hb1⟩; have hB1 : Below w0.drew.heap.size w0.drew w1 := (by with_reducible exact hb1); have C0 := isS_to hB1 B0 rfl; have C1 := isS_to hB1 B1 rfl; have q1 := below_to hB1 q0 q0.size rfl rfl rfl rfl; obtain ⟨m0, ⟨c0, c1, c2, c3, c4, c5, c6, c7⟩, -⟩ := C0.all; obtain ⟨m1, ⟨d0, d1, d2, d3, d4, d5, d6, d7⟩, -⟩ := C1.all; clear hb1)
        | (go_at_call 15; (with_reducible refine (toState_any t1 _).mono ?_); rintro e w2 ⟨rfl, hb2⟩; have D0 := isS_to hb2 C0 rfl; have D1 := isS_to hb2 C1 rfl; have q2 := below_to hb2 q1 q1.size rfl rfl rfl rfl; have hgl := hide (glob_to q2 HGL.out rfl); obtain ⟨n0, ⟨f0, f1, f2, f3, f4, f5, f6, f7⟩, -⟩ := D0.all; obtain ⟨n1, ⟨g0, g1, g2, g3, g4, g5, g6, g7⟩, -⟩ := D1.all; clear hb2)
        | (go_at_call 19; refine (specDistanceTo_any v0 t0 t1 _ HS0.out).mono ?_; rintro e w3 ⟨rfl, hb3⟩; rw [← HZ0.out, ← HZ1.out]; have E0 := isS_to hb3 D0 rfl; have E1 := isS_to hb3 D1 rfl; have q3 := below_to hb3 q2 q2.size rfl rfl rfl rfl; obtain ⟨o0, ⟨i0, i1, i2, i3, i4, i5, i6, i7⟩, -⟩ := E0.all; obtain ⟨o1, ⟨j0, j1, j2, j3, j4, j5, j6, j7⟩, -⟩ := E1.all; clear hb3))
    clear a0 a1 a2 a3 a4 a5 a6 a7 b0 b1 b2 b3 b4 b5 b6 b7 l0 l1 c0 c1 c2 c3 c4 c5 c6 c7 d0 d1 d2 d3 d4 d5 d6 d7 m0 m1 f0 f1 f2 f3 f4 f5 f6 f7 g0 g1 g2 g3 g4 g5 g6 g7 n0 n1 i0 i1 i2 i3 i4 i5 i6 i7 j0 j1 j2 j3 j4 j5 j6 j7 o0 o1 B0 B1 C0 C1 D0 D1 q0 q1 q2 hgl
    have B0 := E0
    have B1 := E1
    have q0 := q3
    clear E0 E1 q3
    generalize w3 = w0 at B0 B1 q0 ⊢
    obtain ⟨l0, ⟨a0, a1, a2, a3, a4, a5, a6, a7⟩, -⟩ := B0.all
    obtain ⟨l1, ⟨b0, b1, b2, b3, b4, b5, b6, b7⟩, -⟩ := B1.all
    go_wp2_with fail
    go_region_held3 (fun w' => w'.cell? ⟨w.heap.size, 0, none⟩ = some (.int .i64 t0.x) ∧ w'.cell? ⟨w.heap.size, 1, none⟩ = some (.int .i64 t0.y) ∧ w'.cell? ⟨w.heap.size, 2, none⟩ = some (.int .i64 t0.d.t) ∧ w'.cell? ⟨w.heap.size, 3, none⟩ = some (.int .i64 t0.d.n) ∧ w'.cell? ⟨w.heap.size, 4, none⟩ = some (.int .i64 t0.d.e) ∧ w'.cell? ⟨w.heap.size, 5, none⟩ = some (.int .i64 t0.d.s) ∧ w'.cell? ⟨w.heap.size, 6, none⟩ = some (.int .i64 t0.d.w) ∧ w'.cell? ⟨w.heap.size, 7, none⟩ = some (.int .i64 t0.d.b) ∧ w'.cell? ⟨w.heap.size + 1, 0, none⟩ = some (.int .i64 t1.x) ∧ w'.cell? ⟨w.heap.size + 1, 1, none⟩ = some (.int .i64 t1.y) ∧ w'.cell? ⟨w.heap.size + 1, 2, none⟩ = some (.int .i64 t1.d.t) ∧ w'.cell? ⟨w.heap.size + 1, 3, none⟩ = some (.int .i64 t1.d.n) ∧ w'.cell? ⟨w.heap.size + 1, 4, none⟩ = some (.int .i64 t1.d.e) ∧ w'.cell? ⟨w.heap.size + 1, 5, none⟩ = some (.int .i64 t1.d.s) ∧ w'.cell? ⟨w.heap.size + 1, 6, none⟩ = some (.int .i64 t1.d.w) ∧ w'.cell? ⟨w.heap.size + 1, 7, none⟩ = some (.int .i64 t1.d.b)) (first | (refine ⟨?_, ?_, ?_, ?_, ?_, ?_, ?_, ?_, ?_, ?_, ?_, ?_, ?_, ?_, ?_, ?_⟩ <;> with_reducible assumption) | (refine ⟨?_, ?_, ?_, ?_, ?_, ?_, ?_, ?_, ?_, ?_, ?_, ?_, ?_, ?_, ?_, ?_⟩ <;> assumption))
      (first
        | (go_at_call 15; (with_reducible refine (toState_any t0 _).mono ?_); rintro e w1 ⟨rfl, hb1⟩; have hB1 : Below w0.drew.heap.size w0.drew w1 := (by with_reducible exact hb1); have C0 := isS_to hB1 B0 rfl; have C1 := isS_to hB1 B1 rfl; have q1 := below_to hB1 q0 q0.size rfl rfl rfl rfl; obtain ⟨m0, ⟨c0, c1, c2, c3, c4, c5, c6, c7⟩, -⟩ := C0.all; obtain ⟨m1, ⟨d0, d1, d2, d3, d4, d5, d6, d7⟩, -⟩ := C1.all; clear hb1)
        | (go_at_call 15; (with_reducible refine (toState_any t1 _).mono ?_); rintro e w2 ⟨rfl, hb2⟩; have D0 := isS_to hb2 C0 rfl; have D1 := isS_to hb2 C1 rfl; have q2 := below_to hb2 q1 q1.size rfl rfl rfl rfl; have hgl := hide (glob_to q2 HGL.out rfl); obtain ⟨n0, ⟨f0, f1, f2, f3, f4, f5, f6, f7⟩, -⟩ := D0.all; obtain ⟨n1, ⟨g0, g1, g2, g3, g4, g5, g6, g7⟩, -⟩ := D1.all; clear hb2)
        | (go_at_call 20; refine (implDistanceTo_any v0 t0 t1 hwt1 _ HS0.out hgl.out).mono ?_; rintro e w3 ⟨rfl, hb3⟩; rw [← HZ0.out, ← HZ1.out]; have E0 := isS_to hb3 D0 rfl; have E1 := isS_to hb3 D1 rfl; have q3 := below_to hb3 q2 q2.size rfl rfl rfl rfl; obtain ⟨o0, ⟨i0, i1, i2, i3, i4, i5, i6, i7⟩, -⟩ := E0.all; obtain ⟨o1, ⟨j0, j1, j2, j3, j4, j5, j6, j7⟩, -⟩ := E1.all; clear hb3))
    clear a0 a1 a2 a3 a4 a5 a6 a7 b0 b1 b2 b3 b4 b5 b6 b7 l0 l1 c0 c1 c2 c3 c4 c5 c6 c7 d0 d1 d2 d3 d4 d5 d6 d7 m0 m1 f0 f1 f2 f3 f4 f5 f6 f7 g0 g1 g2 g3 g4 g5 g6 g7 n0 n1 i0 i1 i2 i3 i4 i5 i6 i7 j0 j1 j2 j3 j4 j5 j6 j7 o0 o1 B0 B1 C0 C1 D0 D1 q0 q1 q2 hgl
    have B0 := E0
    have B1 := E1
    have q0 := q3
    clear E0 E1 q3
    generalize w3 = w0 at B0 B1 q0 ⊢
    go_wp2
    go_returns
    exact ⟨rfl, q0⟩
  · go_enter Tryd.func5, Tryd.ntmps5
    go_wp2
    go_returns
    exact ⟨rfl, by go_grown⟩
set_option maxHeartbeats 3200000 in
theorem walk_CountShortest (v0 : ByteArray) (hv0 : v0.size ≤ maxLen) (t0 : St) (hxt0 : (Lit.int .i64 t0.x).wf = true) (hyt0 : (Lit.int .i64 t0.y).wf = true) (t1 : St) (hwt1 : wfS t1)  (w : World) (hg : Glob w) : Calls Tryd.prog 7 #[.string v0, St.v t0, St.v t1] w fun e w' => e = .returned (.bool true) ∧ Below w.heap.size w w' := by
  have HGL := hide hg
  clear hg
  by_cases h0 : v0.size ≤ 1048576
  · have HS0 := hide h0
    obtain ⟨z0, hz0⟩ : ∃ z, z = csV v0 t0 t1 := ⟨_, rfl⟩
    have HZ0 := hide hz0
    clear hz0
    have e0 : (z0 != z0) = false := by simp
    obtain ⟨z1, hz1⟩ : ∃ z, z = (ndB v0 t0 t1).isSome := ⟨_, rfl⟩
    have HZ1 := hide hz1
    clear hz1
    have e1 : (z1 != z1) = false := by simp
    have B0 : IsS ((w.alloc (.cells #[.int .i64 t0.x, .int .i64 t0.y, .int .i64 t0.d.t, .int .i64 t0.d.n, .int .i64 t0.d.e, .int .i64 t0.d.s, .int .i64 t0.d.w, .int .i64 t0.d.b] 25)).alloc (.cells #[.int .i64 t1.x, .int .i64 t1.y, .int .i64 t1.d.t, .int .i64 t1.d.n, .int .i64 t1.d.e, .int .i64 t1.d.s, .int .i64 t1.d.w, .int .i64 t1.d.b] 25)) w.heap.size t0 25 := (IsS.new (s := t0)).alloc _
    have B1 : IsS ((w.alloc (.cells #[.int .i64 t0.x, .int .i64 t0.y, .int .i64 t0.d.t, .int .i64 t0.d.n, .int .i64 t0.d.e, .int .i64 t0.d.s, .int .i64 t0.d.w, .int .i64 t0.d.b] 25)).alloc (.cells #[.int .i64 t1.x, .int .i64 t1.y, .int .i64 t1.d.t, .int .i64 t1.d.n, .int .i64 t1.d.e, .int .i64 t1.d.s, .int .i64 t1.d.w, .int .i64 t1.d.b] 25)) (w.alloc (.cells #[.int .i64 t0.x, .int .i64 t0.y, .int .i64 t0.d.t, .int .i64 t0.d.n, .int .i64 t0.d.e, .int .i64 t0.d.s, .int .i64 t0.d.w, .int .i64 t0.d.b] 25)).heap.size t1 25 := IsS.new (s := t1)
    simp only [World.size_alloc] at B0 B1
    have q0 : Below w.heap.size w ((w.alloc (.cells #[.int .i64 t0.x, .int .i64 t0.y, .int .i64 t0.d.t, .int .i64 t0.d.n, .int .i64 t0.d.e, .int .i64 t0.d.s, .int .i64 t0.d.w, .int .i64 t0.d.b] 25)).alloc (.cells #[.int .i64 t1.x, .int .i64 t1.y, .int .i64 t1.d.t, .int .i64 t1.d.n, .int .i64 t1.d.e, .int .i64 t1.d.s, .int .i64 t1.d.w, .int .i64 t1.d.b] 25)) := by go_grown
    go_enter Tryd.func7, Tryd.ntmps7
    go_upto_region 3 with (fail)
    generalize ((w.alloc (.cells #[.int .i64 t0.x, .int .i64 t0.y, .int .i64 t0.d.t, .int .i64 t0.d.n, .int .i64 t0.d.e, .int .i64 t0.d.s, .int .i64 t0.d.w, .int .i64 t0.d.b] 25)).alloc (.cells #[.int .i64 t1.x, .int .i64 t1.y, .int .i64 t1.d.t, .int .i64 t1.d.n, .int .i64 t1.d.e, .int .i64 t1.d.s, .int .i64 t1.d.w, .int .i64 t1.d.b] 25)) = w0 at B0 B1 q0 ⊢
    obtain ⟨l0, ⟨a0, a1, a2, a3, a4, a5, a6, a7⟩, -⟩ := B0.all
    obtain ⟨l1, ⟨b0, b1, b2, b3, b4, b5, b6, b7⟩, -⟩ := B1.all
    skip
    go_region_held3 (fun w' => w'.cell? ⟨w.heap.size, 0, none⟩ = some (.int .i64 t0.x) ∧ w'.cell? ⟨w.heap.size, 1, none⟩ = some (.int .i64 t0.y) ∧ w'.cell? ⟨w.heap.size, 2, none⟩ = some (.int .i64 t0.d.t) ∧ w'.cell? ⟨w.heap.size, 3, none⟩ = some (.int .i64 t0.d.n) ∧ w'.cell? ⟨w.heap.size, 4, none⟩ = some (.int .i64 t0.d.e) ∧ w'.cell? ⟨w.heap.size, 5, none⟩ = some (.int .i64 t0.d.s) ∧ w'.cell? ⟨w.heap.size, 6, none⟩ = some (.int .i64 t0.d.w) ∧ w'.cell? ⟨w.heap.size, 7, none⟩ = some (.int .i64 t0.d.b) ∧ w'.cell? ⟨w.heap.size + 1, 0, none⟩ = some (.int .i64 t1.x) ∧ w'.cell? ⟨w.heap.size + 1, 1, none⟩ = some (.int .i64 t1.y) ∧ w'.cell? ⟨w.heap.size + 1, 2, none⟩ = some (.int .i64 t1.d.t) ∧ w'.cell? ⟨w.heap.size + 1, 3, none⟩ = some (.int .i64 t1.d.n) ∧ w'.cell? ⟨w.heap.size + 1, 4, none⟩ = some (.int .i64 t1.d.e) ∧ w'.cell? ⟨w.heap.size + 1, 5, none⟩ = some (.int .i64 t1.d.s) ∧ w'.cell? ⟨w.heap.size + 1, 6, none⟩ = some (.int .i64 t1.d.w) ∧ w'.cell? ⟨w.heap.size + 1, 7, none⟩ = some (.int .i64 t1.d.b)) (first | (refine ⟨?_, ?_, ?_, ?_, ?_, ?_, ?_, ?_, ?_, ?_, ?_, ?_, ?_, ?_, ?_, ?_⟩ <;> with_reducible assumption) | (refine ⟨?_, ?_, ?_, ?_, ?_, ?_, ?_, ?_, ?_, ?_, ?_, ?_, ?_, ?_, ?_, ?_⟩ <;> assumption))
      (first
        | (go_at_call 15; (with_reducible refine (toState_any t0 _).mono ?_); rintro e w1 ⟨rfl, hb1⟩; have hB1 : Below w0.drew.heap.size w0.drew w1 := (by with_reducible exact hb1); have C0 := isS_to hB1 B0 rfl; have C1 := isS_to hB1 B1 rfl; have q1 := below_to hB1 q0 q0.size rfl rfl rfl rfl; obtain ⟨m0, ⟨c0, c1, c2, c3, c4, c5, c6, c7⟩, -⟩ := C0.all; obtain ⟨m1, ⟨d0, d1, d2, d3, d4, d5, d6, d7⟩, -⟩ := C1.all; clear hb1)
        | (go_at_call 15; (with_reducible refine (toState_any t1 _).mono ?_); rintro e w2 ⟨rfl, hb2⟩; have D0 := isS_to hb2 C0 rfl; have D1 := isS_to hb2 C1 rfl; have q2 := below_to hb2 q1 q1.size rfl rfl rfl rfl; have hgl := hide (glob_to q2 HGL.out rfl); obtain ⟨n0, ⟨f0, f1, f2, f3, f4, f5, f6, f7⟩, -⟩ := D0.all; obtain ⟨n1, ⟨g0, g1, g2, g3, g4, g5, g6, g7⟩, -⟩ := D1.all; clear hb2)
        | (go_at_call 23; refine (specCountShortest_any v0 t0 t1 _ HS0.out).mono ?_; rintro e w3 ⟨rfl, hb3⟩; rw [← HZ0.out, ← HZ1.out]; have E0 := isS_to hb3 D0 rfl; have E1 := isS_to hb3 D1 rfl; have q3 := below_to hb3 q2 q2.size rfl rfl rfl rfl; obtain ⟨o0, ⟨i0, i1, i2, i3, i4, i5, i6, i7⟩, -⟩ := E0.all; obtain ⟨o1, ⟨j0, j1, j2, j3, j4, j5, j6, j7⟩, -⟩ := E1.all; clear hb3))
    clear a0 a1 a2 a3 a4 a5 a6 a7 b0 b1 b2 b3 b4 b5 b6 b7 l0 l1 c0 c1 c2 c3 c4 c5 c6 c7 d0 d1 d2 d3 d4 d5 d6 d7 m0 m1 f0 f1 f2 f3 f4 f5 f6 f7 g0 g1 g2 g3 g4 g5 g6 g7 n0 n1 i0 i1 i2 i3 i4 i5 i6 i7 j0 j1 j2 j3 j4 j5 j6 j7 o0 o1 B0 B1 C0 C1 D0 D1 q0 q1 q2 hgl
    have B0 := E0
    have B1 := E1
    have q0 := q3
    clear E0 E1 q3
    generalize w3 = w0 at B0 B1 q0 ⊢
    obtain ⟨l0, ⟨a0, a1, a2, a3, a4, a5, a6, a7⟩, -⟩ := B0.all
    obtain ⟨l1, ⟨b0, b1, b2, b3, b4, b5, b6, b7⟩, -⟩ := B1.all
    go_wp2_with fail
    go_region_held3 (fun w' => w'.cell? ⟨w.heap.size, 0, none⟩ = some (.int .i64 t0.x) ∧ w'.cell? ⟨w.heap.size, 1, none⟩ = some (.int .i64 t0.y) ∧ w'.cell? ⟨w.heap.size, 2, none⟩ = some (.int .i64 t0.d.t) ∧ w'.cell? ⟨w.heap.size, 3, none⟩ = some (.int .i64 t0.d.n) ∧ w'.cell? ⟨w.heap.size, 4, none⟩ = some (.int .i64 t0.d.e) ∧ w'.cell? ⟨w.heap.size, 5, none⟩ = some (.int .i64 t0.d.s) ∧ w'.cell? ⟨w.heap.size, 6, none⟩ = some (.int .i64 t0.d.w) ∧ w'.cell? ⟨w.heap.size, 7, none⟩ = some (.int .i64 t0.d.b) ∧ w'.cell? ⟨w.heap.size + 1, 0, none⟩ = some (.int .i64 t1.x) ∧ w'.cell? ⟨w.heap.size + 1, 1, none⟩ = some (.int .i64 t1.y) ∧ w'.cell? ⟨w.heap.size + 1, 2, none⟩ = some (.int .i64 t1.d.t) ∧ w'.cell? ⟨w.heap.size + 1, 3, none⟩ = some (.int .i64 t1.d.n) ∧ w'.cell? ⟨w.heap.size + 1, 4, none⟩ = some (.int .i64 t1.d.e) ∧ w'.cell? ⟨w.heap.size + 1, 5, none⟩ = some (.int .i64 t1.d.s) ∧ w'.cell? ⟨w.heap.size + 1, 6, none⟩ = some (.int .i64 t1.d.w) ∧ w'.cell? ⟨w.heap.size + 1, 7, none⟩ = some (.int .i64 t1.d.b)) (first | (refine ⟨?_, ?_, ?_, ?_, ?_, ?_, ?_, ?_, ?_, ?_, ?_, ?_, ?_, ?_, ?_, ?_⟩ <;> with_reducible assumption) | (refine ⟨?_, ?_, ?_, ?_, ?_, ?_, ?_, ?_, ?_, ?_, ?_, ?_, ?_, ?_, ?_, ?_⟩ <;> assumption))
      (first
        | (go_at_call 15; (with_reducible refine (toState_any t0 _).mono ?_); rintro e w1 ⟨rfl, hb1⟩; have hB1 : Below w0.drew.heap.size w0.drew w1 := (by with_reducible exact hb1); have C0 := isS_to hB1 B0 rfl; have C1 := isS_to hB1 B1 rfl; have q1 := below_to hB1 q0 q0.size rfl rfl rfl rfl; obtain ⟨m0, ⟨c0, c1, c2, c3, c4, c5, c6, c7⟩, -⟩ := C0.all; obtain ⟨m1, ⟨d0, d1, d2, d3, d4, d5, d6, d7⟩, -⟩ := C1.all; clear hb1)
        | (go_at_call 15; (with_reducible refine (toState_any t1 _).mono ?_); rintro e w2 ⟨rfl, hb2⟩; have D0 := isS_to hb2 C0 rfl; have D1 := isS_to hb2 C1 rfl; have q2 := below_to hb2 q1 q1.size rfl rfl rfl rfl; have hgl := hide (glob_to q2 HGL.out rfl); obtain ⟨n0, ⟨f0, f1, f2, f3, f4, f5, f6, f7⟩, -⟩ := D0.all; obtain ⟨n1, ⟨g0, g1, g2, g3, g4, g5, g6, g7⟩, -⟩ := D1.all; clear hb2)
        | (go_at_call 24; refine (implCountShortest_any v0 t0 t1 hwt1 _ HS0.out hgl.out).mono ?_; rintro e w3 ⟨rfl, hb3⟩; rw [← HZ0.out, ← HZ1.out]; have E0 := isS_to hb3 D0 rfl; have E1 := isS_to hb3 D1 rfl; have q3 := below_to hb3 q2 q2.size rfl rfl rfl rfl; obtain ⟨o0, ⟨i0, i1, i2, i3, i4, i5, i6, i7⟩, -⟩ := E0.all; obtain ⟨o1, ⟨j0, j1, j2, j3, j4, j5, j6, j7⟩, -⟩ := E1.all; clear hb3))
    clear a0 a1 a2 a3 a4 a5 a6 a7 b0 b1 b2 b3 b4 b5 b6 b7 l0 l1 c0 c1 c2 c3 c4 c5 c6 c7 d0 d1 d2 d3 d4 d5 d6 d7 m0 m1 f0 f1 f2 f3 f4 f5 f6 f7 g0 g1 g2 g3 g4 g5 g6 g7 n0 n1 i0 i1 i2 i3 i4 i5 i6 i7 j0 j1 j2 j3 j4 j5 j6 j7 o0 o1 B0 B1 C0 C1 D0 D1 q0 q1 q2 hgl
    have B0 := E0
    have B1 := E1
    have q0 := q3
    clear E0 E1 q3
    generalize w3 = w0 at B0 B1 q0 ⊢
    go_wp2
    go_returns
    exact ⟨rfl, q0⟩
  · go_enter Tryd.func7, Tryd.ntmps7
    go_wp2
    go_returns
    exact ⟨rfl, by go_grown⟩
end Go.Proofs.YthdkhikkdcjifaaDoor
