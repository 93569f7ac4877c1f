/- The contract of bestRoute: the least of a map's routes. -/
import Derived.Test.YthdkhikkdcjifaaDoorRoj
namespace Go.Proofs.YthdkhikkdcjifaaDoor
set_option maxRecDepth 100000
set_option linter.all false
open Go.RowKit Go.Maps Go.ChangeMaps

/-- The entry with the least route. -/
structure LeastS (L : List SE) (x0 : SE) : Prop where
  mem : x0 ∈ L
  lt : ∀ y ∈ L, y ≠ x0 → cmpRt x0.1.2 y.1.2 < 0 ∧ ¬ cmpRt y.1.2 x0.1.2 < 0
/-- What holds of the best one of those that have come. -/
structure BestI (L : List SE) (seen : List Nat) (bs : St) (br : Rt) : Prop where
  some : br.count ≠ 0 → ∃ y ∈ L, y.2 ∈ seen ∧ bs = y.1.1 ∧ br = y.1.2
  none : br.count = 0 → bs = zeroS ∧ br = zeroR ∧ ∀ x ∈ L, x.2 ∉ seen
  least : ∀ x0, LeastS L x0 → x0.2 ∈ seen → bs = x0.1.1 ∧ br = x0.1.2
theorem born_eq {L : List SE} {c : Nat} (hL : OkL L c) {x y : SE} (hx : x ∈ L) (hy : y ∈ L) (e : x.2 = y.2) : x = y := by
  obtain ⟨i, hi⟩ := List.mem_iff_getElem?.1 hx
  obtain ⟨j, hj⟩ := List.mem_iff_getElem?.1 hy
  have h1 : (L.map (·.2))[i]? = some x.2 := by simp [hi]
  have h2 : (L.map (·.2))[j]? = some x.2 := by simp [hj, e]
  have := (List.getElem?_inj (List.getElem?_eq_some_iff.1 h1).1 hL.born).1 (h1.trans h2.symm)
  subst this
  rw [hi] at hj
  exact Option.some.inj hj
theorem BestI.start (L : List SE) : BestI L [] zeroS zeroR := ⟨fun h => absurd rfl h, fun _ => ⟨rfl, rfl, fun _ _ => by simp⟩, fun _ _ h => by cases h⟩
theorem BestI.first {L : List SE} {c : Nat} {seen : List Nat} {bs : St} {br : Rt} (h : BestI L seen bs br) (hL : OkL L c) (hc : ∀ x ∈ L, x.1.2.count ≠ 0) (h0 : br.count = 0) {x : SE} (hx : x ∈ L) : BestI L (seen ++ [x.2]) x.1.1 x.1.2 := by
  refine ⟨fun _ => ⟨x, hx, by simp, rfl, rfl⟩, fun e => absurd e (hc x hx), fun x0 hl hs => ?_⟩
  rcases List.mem_append.1 hs with hs | hs
  · exact absurd hs ((h.none h0).2.2 x0 hl.mem)
  · rw [born_eq hL hl.mem hx (by simpa using hs)]
    exact ⟨rfl, rfl⟩
theorem BestI.better {L : List SE} {c : Nat} {seen : List Nat} {bs : St} {br : Rt} (h : BestI L seen bs br) (hL : OkL L c) (hc : ∀ x ∈ L, x.1.2.count ≠ 0) {x : SE} (hx : x ∈ L) (hn : x.2 ∉ seen) (hlt : cmpRt x.1.2 br < 0) : BestI L (seen ++ [x.2]) x.1.1 x.1.2 := by
  refine ⟨fun _ => ⟨x, hx, by simp, rfl, rfl⟩, fun e => absurd e (hc x hx), fun x0 hl hs => ?_⟩
  rcases List.mem_append.1 hs with hs | hs
  · obtain ⟨_, e⟩ := h.least x0 hl hs
    rw [e] at hlt
    exact absurd hlt (hl.lt x hx (fun e' => hn (e' ▸ hs))).2
  · rw [born_eq hL hl.mem hx (by simpa using hs)]
    exact ⟨rfl, rfl⟩
theorem BestI.keep {L : List SE} {c : Nat} {seen : List Nat} {bs : St} {br : Rt} (h : BestI L seen bs br) (hL : OkL L c) (h0 : br.count ≠ 0) {x : SE} (hx : x ∈ L) (hn : x.2 ∉ seen) (hlt : ¬ cmpRt x.1.2 br < 0) : BestI L (seen ++ [x.2]) bs br := by
  obtain ⟨y, hy, hys, e1, e2⟩ := h.some h0
  refine ⟨fun _ => ⟨y, hy, List.mem_append_left _ hys, e1, e2⟩, fun e => absurd e h0, fun x0 hl hs => ?_⟩
  rcases List.mem_append.1 hs with hs | hs
  · exact h.least x0 hl hs
  · have e := born_eq hL hl.mem hx (by simpa using hs)
    subst e
    rw [e2] at hlt
    exact absurd (hl.lt y hy (fun e' => hn (e' ▸ hys))).1 hlt
theorem IsS.set8R {w : World} {b b' : Nat} {s : St} {ty : TypeId} (h : IsS w b s ty) (hne : b ≠ b') (u0 u1 u2 : Value) : IsS (((w.setCell ⟨b', 0, none⟩ u0).setCell ⟨b', 1, none⟩ u1).setCell ⟨b', 2, none⟩ u2) b s ty := ((h.other hne u0).other hne u1).other hne u2
theorem IsR.other8 {w : World} {b b' : Nat} {r : Rt} (h : IsR w b r) (hne : b ≠ b') (u0 u1 u2 u3 u4 u5 u6 u7 : Value) : IsR ((((((((w.setCell ⟨b', 0, none⟩ u0).setCell ⟨b', 1, none⟩ u1).setCell ⟨b', 2, none⟩ u2).setCell ⟨b', 3, none⟩ u3).setCell ⟨b', 4, none⟩ u4).setCell ⟨b', 5, none⟩ u5).setCell ⟨b', 6, none⟩ u6).setCell ⟨b', 7, none⟩ u7) b r :=
  (((((((h.other hne u0).other hne u1).other hne u2).other hne u3).other hne u4).other hne u5).other hne u6).other hne u7
theorem RgS.set3 {w : World} {b r b' : Nat} {L : List SE} {c : Nat} {seen : List Nat} (h : RgS w b r L c seen) (hb : b ≠ b') (hr : r ≠ b') (u0 u1 u2 : Value) : RgS (((w.setCell ⟨b', 0, none⟩ u0).setCell ⟨b', 1, none⟩ u1).setCell ⟨b', 2, none⟩ u2) b r L c seen := ((h.other hb hr u0).other hb hr u1).other hb hr u2
theorem RgS.set8 {w : World} {b r b' : Nat} {L : List SE} {c : Nat} {seen : List Nat} (h : RgS w b r L c seen) (hb : b ≠ b') (hr : r ≠ b') (u0 u1 u2 u3 u4 u5 u6 u7 : Value) : RgS ((((((((w.setCell ⟨b', 0, none⟩ u0).setCell ⟨b', 1, none⟩ u1).setCell ⟨b', 2, none⟩ u2).setCell ⟨b', 3, none⟩ u3).setCell ⟨b', 4, none⟩ u4).setCell ⟨b', 5, none⟩ u5).setCell ⟨b', 6, none⟩ u6).setCell ⟨b', 7, none⟩ u7) b r L c seen :=
  (((((((h.other hb hr u0).other hb hr u1).other hb hr u2).other hb hr u3).other hb hr u4).other hb hr u5).other hb hr u6).other hb hr u7
/-- What holds at the head of a round. -/
structure BsW (w : World) (b : Nat) (L : List SE) (c : Nat) (seen : List Nat) (bs : St) (br : Rt) (wr : World) : Prop where
  rg : RgS wr b (w.heap.size + 4) L c seen
  z0 : IsS wr w.heap.size zeroS 30
  z1 : IsR wr (w.heap.size + 1) zeroR
  at_ : IsS wr (w.heap.size + 2) bs 30
  best : IsR wr (w.heap.size + 3) br
  below : Below w.heap.size w wr
theorem BsW.to {w wr w0 w1 : World} {b : Nat} {L : List SE} {c : Nat} {seen : List Nat} {bs : St} {br : Rt} (hb : Below w0.heap.size w0 w1) (h : BsW w b L c seen bs br wr) (e : w0.heap = wr.heap) (e1 : w0.os = wr.os) (e2 : w0.tape = wr.tape) (e3 : w0.output = wr.output) : BsW w b L c seen bs br w1 :=
  ⟨rgS_to hb h.rg e, isS_to hb h.z0 e, isR_to hb h.z1 e, isS_to hb h.at_ e, isR_to hb h.best e, below_to hb h.below h.below.size e e1 e2 e3⟩
theorem BsW.drew {w wr : World} {b : Nat} {L : List SE} {c : Nat} {seen : List Nat} {bs : St} {br : Rt} (h : BsW w b L c seen bs br wr) : BsW w b L c seen bs br wr.drew :=
  ⟨⟨h.rg.map, h.rg.it⟩, h.z0, h.z1, h.at_, h.best, h.below.drew⟩
theorem BsW.put {w wr : World} {b : Nat} {L : List SE} {c : Nat} {seen : List Nat} {bs : St} {br : Rt} (h : BsW w b L c seen bs br wr) (hbw : b < w.heap.size) (s : St) (r : Rt) : BsW w b L c seen s r (((((((((((wr.setCell ⟨w.heap.size + 2, 0, none⟩ (.int .i64 s.x)).setCell ⟨w.heap.size + 2, 1, none⟩ (.int .i64 s.y)).setCell ⟨w.heap.size + 2, 2, none⟩ (.int .i64 s.d.t)).setCell ⟨w.heap.size + 2, 3, none⟩ (.int .i64 s.d.n)).setCell ⟨w.heap.size + 2, 4, none⟩ (.int .i64 s.d.e)).setCell ⟨w.heap.size + 2, 5, none⟩ (.int .i64 s.d.s)).setCell ⟨w.heap.size + 2, 6, none⟩ (.int .i64 s.d.w)).setCell ⟨w.heap.size + 2, 7, none⟩ (.int .i64 s.d.b)).setCell ⟨w.heap.size + 3, 0, none⟩ (.string ⟨r.word.toArray⟩)).setCell ⟨w.heap.size + 3, 1, none⟩ (.int .i64 r.cost)).setCell ⟨w.heap.size + 3, 2, none⟩ (.int .i64 r.count)) := by
  refine ⟨?_, ?_, ?_, ?_, ?_, ?_⟩
  · exact (h.rg.set8 (by omega) (by omega) _ _ _ _ _ _ _ _).set3 (by omega) (by omega) _ _ _
  · exact IsS.set8R ((((((((h.z0.other (by show _ ≠ w.heap.size + 2; omega) _).other (by show _ ≠ w.heap.size + 2; omega) _).other (by show _ ≠ w.heap.size + 2; omega) _).other (by show _ ≠ w.heap.size + 2; omega) _).other (by show _ ≠ w.heap.size + 2; omega) _).other (by show _ ≠ w.heap.size + 2; omega) _).other (by show _ ≠ w.heap.size + 2; omega) _).other (by show _ ≠ w.heap.size + 2; omega) _) (by omega) _ _ _
  · exact (((h.z1.other8 (by omega) _ _ _ _ _ _ _ _).other (by show _ ≠ w.heap.size + 3; omega) _).other (by show _ ≠ w.heap.size + 3; omega) _).other (by show _ ≠ w.heap.size + 3; omega) _
  · exact IsS.set8R (h.at_.set8 s) (by omega) _ _ _
  · exact (h.best.other8 (by omega) _ _ _ _ _ _ _ _).set3 r
  · exact bSet3 (below_set8 h.below (by omega) s) (by omega) _ _ _
theorem IsS.drew {w : World} {b : Nat} {s : St} {ty : TypeId} (h : IsS w b s ty) : IsS w.drew b s ty := h
theorem IsR.drew {w : World} {b : Nat} {r : Rt} (h : IsR w b r) : IsR w.drew b r := h
theorem BestI.done {L : List SE} {c : Nat} (_ : OkL L c) {seen : List Nat} {bs : St} {br : Rt} (h : BestI L seen bs br) (hall : ∀ x ∈ L, x.2 ∈ seen) : (L = [] → bs = zeroS ∧ br = zeroR) ∧ (∀ x0, LeastS L x0 → bs = x0.1.1 ∧ br = x0.1.2) := by
  refine ⟨fun e => ?_, fun x0 hl => h.least x0 hl (hall x0 hl.mem)⟩
  by_cases h0 : br.count = 0
  · exact ⟨(h.none h0).1, (h.none h0).2.1⟩
  · obtain ⟨y, hy, _⟩ := h.some h0
    rw [e] at hy
    cases hy
theorem results_cell_cell {fn : Func} {p u : Tmp} {ty tu : TypeId} (h : fn.results = #[.cell p ty, .cell u tu]) (tmps : Array Value) (P : Program) (w : World) :
    (results fn tmps).run P w = ((asAddr (tmps.getD p undef)).run P w).andThen fun a w₁ => ((loadVar ty a).run P w₁).andThen fun v w₂ => ((asAddr (tmps.getD u undef)).run P w₂).andThen fun a' w₃ => ((loadVar tu a').run P w₃).andThen fun x w₄ => .ok (.tuple #[v, x]) w₄ := by
  simp only [results, h]
  simp [Sem.run_bind, Result.andThen]
theorem IsS.kept {w w1 : World} {b : Nat} {s : St} {ty : TypeId} {row : Option Nat} (h : IsS w b s ty) (hg : w.grownBy w1 row) (hne : some b ≠ row) : IsS w1 b s ty := (hg.block b h.lt hne).trans h
theorem ret_bst {fn : Func} {p u : Tmp} {tmps : Array Value} {w : World} {b b' : Nat} {s : St} {r : Rt} {ty : TypeId} (h : fn.results = #[.cell p 30, .cell u 73]) (hp : tmps.getD p undef = .pointer (some ⟨b, 0, none⟩)) (hu : tmps.getD u undef = .pointer (some ⟨b', 0, none⟩)) (hs : IsS w b s ty) (hr : IsR w b' r) : (results fn tmps).run Tryd.prog w = .ok (.tuple #[St.v s, Rt.v r]) w := by
  rw [results_cell_cell h, hp, hu]
  show ((loadVar 30 ⟨b, 0, none⟩).run Tryd.prog w).andThen _ = _
  rw [hs.load]
  show ((loadVar 73 ⟨b', 0, none⟩).run Tryd.prog w).andThen _ = _
  rw [hr.load]
  rfl
set_option maxHeartbeats 3200000 in
theorem bestRoute_any (b : Nat) (L : List SE) (c : Nat) (hL : OkL L c) (hc : ∀ x ∈ L, x.1.2.count ≠ 0) (hw : ∀ x ∈ L, wdOk x.1.2) (w : World) (hm : MapR w b L c) : Calls Tryd.prog 84 #[.map (some b)] w fun e w' => ∃ s r, e = .returned (.tuple #[St.v s, Rt.v r]) ∧ (L = [] → s = zeroS ∧ r = zeroR) ∧ (∀ x0, LeastS L x0 → s = x0.1.1 ∧ r = x0.1.2) ∧ Below w.heap.size w w' := by
  have HL := hide hL
  have HC := hide hc
  have HW := hide hw
  have hbw := hm.lt
  clear hL hc hw
  have A0 : IsS (w.alloc (.cells #[.int .i64 0, .int .i64 0, .int .i64 0, .int .i64 0, .int .i64 0, .int .i64 0, .int .i64 0, .int .i64 0] 30)) w.heap.size zeroS 30 := IsS.new (s := zeroS)
  have A1 : IsR ((w.alloc (.cells #[.int .i64 0, .int .i64 0, .int .i64 0, .int .i64 0, .int .i64 0, .int .i64 0, .int .i64 0, .int .i64 0] 30)).alloc (.cells #[.string ⟨#[]⟩, .int .i64 0, .int .i64 0] 73)) (w.alloc (.cells #[.int .i64 0, .int .i64 0, .int .i64 0, .int .i64 0, .int .i64 0, .int .i64 0, .int .i64 0, .int .i64 0] 30)).heap.size zeroR := IsR.new (r := zeroR)
  have A2 : IsS (((w.alloc (.cells #[.int .i64 0, .int .i64 0, .int .i64 0, .int .i64 0, .int .i64 0, .int .i64 0, .int .i64 0, .int .i64 0] 30)).alloc (.cells #[.string ⟨#[]⟩, .int .i64 0, .int .i64 0] 73)).alloc (.cells #[.int .i64 0, .int .i64 0, .int .i64 0, .int .i64 0, .int .i64 0, .int .i64 0, .int .i64 0, .int .i64 0] 30)) ((w.alloc (.cells #[.int .i64 0, .int .i64 0, .int .i64 0, .int .i64 0, .int .i64 0, .int .i64 0, .int .i64 0, .int .i64 0] 30)).alloc (.cells #[.string ⟨#[]⟩, .int .i64 0, .int .i64 0] 73)).heap.size zeroS 30 := IsS.new (s := zeroS)
  have A3 : IsR ((((w.alloc (.cells #[.int .i64 0, .int .i64 0, .int .i64 0, .int .i64 0, .int .i64 0, .int .i64 0, .int .i64 0, .int .i64 0] 30)).alloc (.cells #[.string ⟨#[]⟩, .int .i64 0, .int .i64 0] 73)).alloc (.cells #[.int .i64 0, .int .i64 0, .int .i64 0, .int .i64 0, .int .i64 0, .int .i64 0, .int .i64 0, .int .i64 0] 30)).alloc (.cells #[.string ⟨#[]⟩, .int .i64 0, .int .i64 0] 73)) (((w.alloc (.cells #[.int .i64 0, .int .i64 0, .int .i64 0, .int .i64 0, .int .i64 0, .int .i64 0, .int .i64 0, .int .i64 0] 30)).alloc (.cells #[.string ⟨#[]⟩, .int .i64 0, .int .i64 0] 73)).alloc (.cells #[.int .i64 0, .int .i64 0, .int .i64 0, .int .i64 0, .int .i64 0, .int .i64 0, .int .i64 0, .int .i64 0] 30)).heap.size zeroR := IsR.new (r := zeroR)
  simp only [World.size_alloc] at A1 A2 A3
  have B0 : IsS ((((w.alloc (.cells #[.int .i64 0, .int .i64 0, .int .i64 0, .int .i64 0, .int .i64 0, .int .i64 0, .int .i64 0, .int .i64 0] 30)).alloc (.cells #[.string ⟨#[]⟩, .int .i64 0, .int .i64 0] 73)).alloc (.cells #[.int .i64 0, .int .i64 0, .int .i64 0, .int .i64 0, .int .i64 0, .int .i64 0, .int .i64 0, .int .i64 0] 30)).alloc (.cells #[.string ⟨#[]⟩, .int .i64 0, .int .i64 0] 73)) w.heap.size zeroS 30 := ((A0.alloc _).alloc _).alloc _
  have B1 : IsR ((((w.alloc (.cells #[.int .i64 0, .int .i64 0, .int .i64 0, .int .i64 0, .int .i64 0, .int .i64 0, .int .i64 0, .int .i64 0] 30)).alloc (.cells #[.string ⟨#[]⟩, .int .i64 0, .int .i64 0] 73)).alloc (.cells #[.int .i64 0, .int .i64 0, .int .i64 0, .int .i64 0, .int .i64 0, .int .i64 0, .int .i64 0, .int .i64 0] 30)).alloc (.cells #[.string ⟨#[]⟩, .int .i64 0, .int .i64 0] 73)) (w.heap.size + 1) zeroR := (A1.alloc _).alloc _
  have B2 : IsS ((((w.alloc (.cells #[.int .i64 0, .int .i64 0, .int .i64 0, .int .i64 0, .int .i64 0, .int .i64 0, .int .i64 0, .int .i64 0] 30)).alloc (.cells #[.string ⟨#[]⟩, .int .i64 0, .int .i64 0] 73)).alloc (.cells #[.int .i64 0, .int .i64 0, .int .i64 0, .int .i64 0, .int .i64 0, .int .i64 0, .int .i64 0, .int .i64 0] 30)).alloc (.cells #[.string ⟨#[]⟩, .int .i64 0, .int .i64 0] 73)) (w.heap.size + 2) zeroS 30 := A2.alloc _
  have M0 := (((hm.alloc (.cells #[.int .i64 0, .int .i64 0, .int .i64 0, .int .i64 0, .int .i64 0, .int .i64 0, .int .i64 0, .int .i64 0] 30)).alloc (.cells #[.string ⟨#[]⟩, .int .i64 0, .int .i64 0] 73)).alloc (.cells #[.int .i64 0, .int .i64 0, .int .i64 0, .int .i64 0, .int .i64 0, .int .i64 0, .int .i64 0, .int .i64 0] 30)).alloc (.cells #[.string ⟨#[]⟩, .int .i64 0, .int .i64 0] 73)
  have q0 : Below w.heap.size w ((((w.alloc (.cells #[.int .i64 0, .int .i64 0, .int .i64 0, .int .i64 0, .int .i64 0, .int .i64 0, .int .i64 0, .int .i64 0] 30)).alloc (.cells #[.string ⟨#[]⟩, .int .i64 0, .int .i64 0] 73)).alloc (.cells #[.int .i64 0, .int .i64 0, .int .i64 0, .int .i64 0, .int .i64 0, .int .i64 0, .int .i64 0, .int .i64 0] 30)).alloc (.cells #[.string ⟨#[]⟩, .int .i64 0, .int .i64 0] 73)) := by go_grown
  have hz : ((((w.alloc (.cells #[.int .i64 0, .int .i64 0, .int .i64 0, .int .i64 0, .int .i64 0, .int .i64 0, .int .i64 0, .int .i64 0] 30)).alloc (.cells #[.string ⟨#[]⟩, .int .i64 0, .int .i64 0] 73)).alloc (.cells #[.int .i64 0, .int .i64 0, .int .i64 0, .int .i64 0, .int .i64 0, .int .i64 0, .int .i64 0, .int .i64 0] 30)).alloc (.cells #[.string ⟨#[]⟩, .int .i64 0, .int .i64 0] 73)).heap.size = w.heap.size + 4 := by simp
  clear A0 A1 A2 hm
  go_enter Tryd.func84, Tryd.ntmps84
  go_upto_region 3 with (fail)
  generalize ((((w.alloc (.cells #[.int .i64 0, .int .i64 0, .int .i64 0, .int .i64 0, .int .i64 0, .int .i64 0, .int .i64 0, .int .i64 0] 30)).alloc (.cells #[.string ⟨#[]⟩, .int .i64 0, .int .i64 0] 73)).alloc (.cells #[.int .i64 0, .int .i64 0, .int .i64 0, .int .i64 0, .int .i64 0, .int .i64 0, .int .i64 0, .int .i64 0] 30)).alloc (.cells #[.string ⟨#[]⟩, .int .i64 0, .int .i64 0] 73)) = W0 at A3 B0 B1 B2 M0 q0 hz ⊢
  go_wp2_with (at_range; refine wpList_range_S rfl _ rfl b L c rfl M0 ?_; intro hrg0)
  have I0 : BsW w b L c [] zeroS zeroR (W0.alloc (.mapIter (some b) c #[] c)) := ⟨by rw [← hz]; exact hrg0, B0.alloc _, B1.alloc _, B2.alloc _, A3.alloc _, q0.alloc q0.size _⟩
  clear B0 B1 B2 M0 A3 q0 hrg0
  rw [hz]
  generalize W0.alloc (.mapIter (some b) c #[] c) = W1 at I0 ⊢
  clear hz
  go_frame
  go_loopw [10] (fun _ wr => ∃ (seen : List Nat) (bs : St) (br : Rt), BsW w b L c seen bs br wr ∧ Hid (BestI L seen bs br)) (fun _ wr => wr.rangeLeft b (w.heap.size + 4))
  case atStart => exact ⟨[], zeroS, zeroR, I0, BestI.start L⟩
  case round =>
    clear I0
    obtain ⟨seen, bs, br, hI, hB⟩ := hrel
    go_wp2_with (at_next; refine wpList_next_S rfl _ rfl b (w.heap.size + 4) L c seen rfl HL.out hI.rg ?_ ?_)
    · intro hall
      have HALL := hide (show ∀ x ∈ L, x.2 ∈ seen from fun x hx => hall x.1.1 x.1.2 x.2 hx)
      clear hall
      obtain ⟨l0, ⟨a0, a1, a2, a3, a4, a5, a6, a7⟩, f0, f1, f2, f3, f4, f5, f6, f7⟩ := hI.z0.all
      obtain ⟨l1, ⟨b0, b1, b2⟩, g0, g1, g2⟩ := hI.z1.all
      obtain ⟨l2, ⟨c0, c1, c2, c3, c4, c5, c6, c7⟩, -⟩ := hI.at_.all
      obtain ⟨l3, ⟨d0, d1, d2⟩, -⟩ := hI.best.all
      go_wp2_with fail
      go_region
      go_wp2
      have I3 := BestI.done HL.out hB.out HALL.out
      refine bodyPost_ret (ret_bst Tryd.results84 rfl rfl (IsS.drew (IsS.set8R (hI.z0.set8 bs) (by omega) _ _ _)) (IsR.drew ((hI.z1.other8 (by omega) _ _ _ _ _ _ _ _).set3 br))) rfl ⟨bs, br, rfl, I3.1, I3.2, ?_⟩
      exact (bSet3 (below_set8 hI.below (Nat.le_refl _) bs) (by omega) _ _ _).drew
    · intro xs xr xi w2 hx hni hrg2 hlt hg2 hs2 hen
      have I2 : BsW w b L c (seen ++ [xi]) bs br w2 := ⟨hrg2, hI.z0.kept hg2 (by simp), hI.z1.kept hg2 (by simp), hI.at_.kept hg2 (by simp), hI.best.kept hg2 (by simp), hI.below.grown hg2 hI.below.size (fun k hk => by cases hk; omega)⟩
      have HX := hide hx
      have HNI := hide hni
      have HLT := hide (show (leftOf (L.map entS).toArray (seen ++ [xi]).toArray).size < wr.rangeLeft b (w.heap.size + 4) from by rw [← hrg2.left_eq]; exact hlt)
      clear hx hni hg2 hs2 hI hrg2 hlt
      have N6 : IsS ((w2.alloc (.cells #[.int .i64 xs.x, .int .i64 xs.y, .int .i64 xs.d.t, .int .i64 xs.d.n, .int .i64 xs.d.e, .int .i64 xs.d.s, .int .i64 xs.d.w, .int .i64 xs.d.b] 30)).alloc (.cells #[.string ⟨xr.word.toArray⟩, .int .i64 xr.cost, .int .i64 xr.count] 73)) w2.heap.size xs 30 := (IsS.new (s := xs)).alloc _
      have N7 : IsR ((w2.alloc (.cells #[.int .i64 xs.x, .int .i64 xs.y, .int .i64 xs.d.t, .int .i64 xs.d.n, .int .i64 xs.d.e, .int .i64 xs.d.s, .int .i64 xs.d.w, .int .i64 xs.d.b] 30)).alloc (.cells #[.string ⟨xr.word.toArray⟩, .int .i64 xr.cost, .int .i64 xr.count] 73)) (w2.alloc (.cells #[.int .i64 xs.x, .int .i64 xs.y, .int .i64 xs.d.t, .int .i64 xs.d.n, .int .i64 xs.d.e, .int .i64 xs.d.s, .int .i64 xs.d.w, .int .i64 xs.d.b] 30)).heap.size xr := IsR.new
      simp only [World.size_alloc] at N7
      have I3 := I2.to (w0 := w2) (w1 := ((w2.alloc (.cells #[.int .i64 xs.x, .int .i64 xs.y, .int .i64 xs.d.t, .int .i64 xs.d.n, .int .i64 xs.d.e, .int .i64 xs.d.s, .int .i64 xs.d.w, .int .i64 xs.d.b] 30)).alloc (.cells #[.string ⟨xr.word.toArray⟩, .int .i64 xr.cost, .int .i64 xr.count] 73))) (by go_grown) rfl rfl rfl rfl
      go_upto_region 6 with (fail)
      generalize ((w2.alloc (.cells #[.int .i64 xs.x, .int .i64 xs.y, .int .i64 xs.d.t, .int .i64 xs.d.n, .int .i64 xs.d.e, .int .i64 xs.d.s, .int .i64 xs.d.w, .int .i64 xs.d.b] 30)).alloc (.cells #[.string ⟨xr.word.toArray⟩, .int .i64 xr.cost, .int .i64 xr.count] 73)) = w3 at N6 N7 I3 ⊢
      have hge := I2.rg.rlt
      generalize w2.heap.size = F at hge N6 N7 ⊢
      clear I2
      obtain ⟨l6, ⟨a0, a1, a2, a3, a4, a5, a6, a7⟩, -⟩ := N6.all
      obtain ⟨l7, ⟨b0, b1, b2⟩, -⟩ := N7.all
      obtain ⟨l2, ⟨c0, c1, c2, c3, c4, c5, c6, c7⟩, f0, f1, f2, f3, f4, f5, f6, f7⟩ := I3.at_.all
      obtain ⟨l3, ⟨d0, d1, d2⟩, g0, g1, g2⟩ := I3.best.all
      by_cases h0 : br.count = 0
      · have e0 : (br.count == 0) = true := by simpa using h0
        have HN := hide (hB.out.first HL.out HC.out h0 HX.out)
        have I4 := (I3.put hbw xs xr).drew
        clear h0 I3
        go_wp2_with fail
        go_region
        go_wp2
        go_roundw
        case rel => exact ⟨seen ++ [xi], xs, xr, I4, HN.out⟩
        case measure => rw [I4.rg.left_eq]; exact HLT.out
      · have e0 : (br.count == 0) = false := by simpa using h0
        have HO1 := hide (HW.out _ HX.out)
        have HO2 := hide (show wdOk br from by
          obtain ⟨y, hy, _, _, e2⟩ := hB.out.some h0
          rw [e2]
          exact HW.out y hy)
        have HC2 := hide (fun wx => compareRoutes_any xr br HO1.out HO2.out wx)
        by_cases hlt : cmpRt xr br < 0
        · have HN := hide (hB.out.better HL.out HC.out HX.out HNI.out hlt)
          generalize cmpRt xr br = cc at hlt HC2
          clear h0
          go_wp2_with (go_at_call 107; fail)
          refine (HC2.out _).mono ?_
          rintro e w4 ⟨rfl, hb4⟩
          have I4 := I3.to hb4 rfl rfl rfl rfl
          have M6 := isS_to hb4 N6 rfl
          have M7 := isR_to hb4 N7 rfl
          clear a0 a1 a2 a3 a4 a5 a6 a7 b0 b1 b2 c0 c1 c2 c3 c4 c5 c6 c7 f0 f1 f2 f3 f4 f5 f6 f7 d0 d1 d2 g0 g1 g2 l6 l7 l2 l3 I3 N6 N7 hb4
          obtain ⟨l6, ⟨a0, a1, a2, a3, a4, a5, a6, a7⟩, -⟩ := M6.all
          obtain ⟨l7, ⟨b0, b1, b2⟩, -⟩ := M7.all
          obtain ⟨l2, ⟨c0, c1, c2, c3, c4, c5, c6, c7⟩, f0, f1, f2, f3, f4, f5, f6, f7⟩ := I4.at_.all
          obtain ⟨l3, ⟨d0, d1, d2⟩, g0, g1, g2⟩ := I4.best.all
          have I5 := (I4.put hbw xs xr).drew
          clear I4
          go_wp2_with fail
          go_region
          go_wp2
          go_roundw
          case rel => exact ⟨seen ++ [xi], xs, xr, I5, HN.out⟩
          case measure => rw [I5.rg.left_eq]; exact HLT.out
        · have HN := hide (hB.out.keep HL.out h0 HX.out HNI.out hlt)
          generalize cmpRt xr br = cc at hlt HC2
          clear h0
          go_wp2_with (go_at_call 107; fail)
          refine (HC2.out _).mono ?_
          rintro e w4 ⟨rfl, hb4⟩
          have I4 := I3.to hb4 rfl rfl rfl rfl
          clear a0 a1 a2 a3 a4 a5 a6 a7 b0 b1 b2 c0 c1 c2 c3 c4 c5 c6 c7 f0 f1 f2 f3 f4 f5 f6 f7 d0 d1 d2 g0 g1 g2 l6 l7 l2 l3 I3 N6 N7 hb4
          go_wp2
          go_roundw
          case rel => exact ⟨seen ++ [xi], bs, br, I4, HN.out⟩
          case measure => rw [I4.rg.left_eq]; exact HLT.out
end Go.Proofs.YthdkhikkdcjifaaDoor
