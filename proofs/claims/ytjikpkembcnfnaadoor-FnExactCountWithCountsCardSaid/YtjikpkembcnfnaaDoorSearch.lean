/- The contract of the model's search. -/
import Derived.Test.YtjikpkembcnfnaaDoorFirst
import Derived.Test.YtjikpkembcnfnaaDoorEql
import Derived.Deep.RegionLaw
namespace Go.Proofs.YtjikpkembcnfnaaDoor
set_option maxRecDepth 100000
set_option linter.all false
open Go.RowKit Go.Maps

theorem rollK_C : ∀ (j : Nat) (hj : j < 4) (x : D), rollK (j : Int) x = rollC ((fourDirs[j]'hj).toNat : Int) x
  | 0, _, _ => rfl
  | 1, _, _ => rfl
  | 2, _, _ => rfl
  | 3, _, _ => rfl
theorem stepN_get {q p : D × List UInt8} {j n : Nat} {L : Found} (h : L[n]? = some p) : (stepN q j L)[n]? = some p := by
  obtain ⟨M, hM⟩ := stepN_pre q j L
  rw [hM]
  have := (List.getElem?_eq_some_iff.1 h).1
  rw [List.getElem?_append_left this]
  exact h
theorem known_take (M : Found) (i : Nat) (p : D × List UInt8) (h : M[i]? = some p) (x : D) : known (M.take (i + 1)) x = (known (M.take i) x || decide (p.1 = x)) := by
  have hi := (List.getElem?_eq_some_iff.1 h).1
  rw [List.take_succ_eq_append_getElem hi]
  have : M[i]'hi = p := (List.getElem?_eq_some_iff.1 h).2
  simp [known, this]

def wordsL (L : Found) : List Value := L.map fun p => .string ⟨p.2.toArray⟩
theorem wordsL_snoc (L : Found) (p : D × List UInt8) : wordsL (L ++ [p]) = wordsL L ++ [.string ⟨p.2.toArray⟩] := by simp [wordsL]

/-- The two slices of the model's search: the dice and the words of what has been found. -/
structure InvS (w wr : World) (v u : Value) (L : Found) : Prop where
  row : wr.ownsRow w.heap.size 30 6 v L.length (cellsL L)
  wrd : wr.ownsRow w.heap.size 9 1 u L.length (wordsL L)
  below : Below w.heap.size w wr

theorem InvS.slices {w wr : World} {v u : Value} {L : Found} (h : InvS w wr v u L) (hp : 0 < L.length) :
    ∃ g cap g' cap', v = .slice (some ⟨g, 0, none⟩) L.length cap ∧ u = .slice (some ⟨g', 0, none⟩) L.length cap' := by
  rcases h.row.2 with ⟨_, h0⟩ | ⟨g, cap, cur, hv, _⟩
  · omega
  · rcases h.wrd.2 with ⟨_, h0⟩ | ⟨g', cap', cur', hu, _⟩
    · omega
    · exact ⟨g, cap, g', cap', hv, hu⟩
theorem InvS.apart {w wr : World} {v u : Value} {L : Found} (h : InvS w wr v u L) : v.ownBlock = none ∨ v.ownBlock ≠ u.ownBlock := by
  rcases h.row.2 with ⟨h0, _⟩ | ⟨g, cap, cur, hv, _, hh, _⟩
  · rw [h0]; exact .inl rfl
  · rcases h.wrd.2 with ⟨h0, _⟩ | ⟨g', cap', cur', hu, _, hh', _⟩
    · rw [hv, h0]
      exact .inr (by simp [Value.ownBlock])
    · refine .inr (fun e => ?_)
      rw [hv, hu] at e
      have e' : g = g' := by simpa [Value.ownBlock] using e
      subst e'
      rw [hh] at hh'
      have := Option.some.inj hh'
      simp at this
theorem apart_rows {w : World} {B n m : Nat} {v u : Value} {xs ys : List Value} (h1 : w.ownsRow B 30 6 v n xs) (h2 : w.ownsRow B 9 1 u m ys) : v.ownBlock = none ∨ v.ownBlock ≠ u.ownBlock := by
  rcases h1.2 with ⟨h0, _⟩ | ⟨g, cap, cur, hv, _, hh, _⟩
  · rw [h0]; exact .inl rfl
  · rcases h2.2 with ⟨h0, _⟩ | ⟨g', cap', cur', hu, _, hh', _⟩
    · rw [hv, h0]
      exact .inr (by simp [Value.ownBlock])
    · refine .inr (fun e => ?_)
      rw [hv, hu] at e
      have e' : g = g' := by simpa [Value.ownBlock] using e
      subst e'
      rw [hh] at hh'
      have := Option.some.inj hh'
      simp at this
theorem InvS.cell {w wr : World} {g cap n : Nat} {u : Value} {L : Found} (h : InvS w wr (.slice (some ⟨g, 0, none⟩) L.length cap) u L) {p : D × List UInt8} (hn : L[n]? = some p) :
    wr.cell? ⟨g, n * 6, none⟩ = some (.int .i64 p.1.t) ∧ wr.cell? ⟨g, n * 6 + 1, none⟩ = some (.int .i64 p.1.n) ∧ wr.cell? ⟨g, n * 6 + 2, none⟩ = some (.int .i64 p.1.e) ∧
    wr.cell? ⟨g, n * 6 + 3, none⟩ = some (.int .i64 p.1.s) ∧ wr.cell? ⟨g, n * 6 + 4, none⟩ = some (.int .i64 p.1.w) ∧ wr.cell? ⟨g, n * 6 + 5, none⟩ = some (.int .i64 p.1.b) := by
  have hc := h.row.cells (g := g) rfl
  have hh : ∀ j u, j < 6 → (dcells p.1)[j]? = some u → wr.cell? ⟨g, n * 6 + j, none⟩ = some u := by
    intro j u hj hu
    have h1 := hc (n * 6 + j) u ((cellsL_get L n p hn j hj).trans hu)
    have e : (⟨g, 0, none⟩ : Addr).add (n * 6 + j) = ⟨g, n * 6 + j, none⟩ := by
      unfold Addr.add
      split
      · rename_i h0
        simp
      · simp
    rw [e] at h1
    exact h1
  exact ⟨hh 0 _ (by omega) rfl, hh 1 _ (by omega) rfl, hh 2 _ (by omega) rfl, hh 3 _ (by omega) rfl, hh 4 _ (by omega) rfl, hh 5 _ (by omega) rfl⟩
theorem InvS.word {w wr : World} {g cap n : Nat} {v : Value} {L : Found} (h : InvS w wr v (.slice (some ⟨g, 0, none⟩) L.length cap) L) {p : D × List UInt8} (hn : L[n]? = some p) :
    wr.cell? ⟨g, n, none⟩ = some (.string ⟨p.2.toArray⟩) := by
  have h1 := h.wrd.cells (g := g) rfl n (.string ⟨p.2.toArray⟩) (by simp [wordsL, hn])
  have e : (⟨g, 0, none⟩ : Addr).add n = ⟨g, n, none⟩ := by
    unfold Addr.add
    split
    · rename_i h0
      simp
    · simp
  rw [e] at h1
  exact h1
theorem word_cell {wr : World} {B g cap k n : Nat} {L : Found} (h : wr.ownsRow B 9 1 (.slice (some ⟨g, 0, none⟩) k cap) k (wordsL L)) {p : D × List UInt8} (hn : L[n]? = some p) :
    wr.cell? ⟨g, n, none⟩ = some (.string ⟨p.2.toArray⟩) := by
  have h1 := h.cells (g := g) rfl n (.string ⟨p.2.toArray⟩) (by simp [wordsL, hn])
  have e : (⟨g, 0, none⟩ : Addr).add n = ⟨g, n, none⟩ := by
    unfold Addr.add
    split
    · rename_i h0
      simp
    · simp
  rw [e] at h1
  exact h1
theorem own_drew {w : World} {B : Nat} {e : TypeId} {z : Nat} {v : Value} {n : Nat} {xs : List Value} (h : w.ownsRow B e z v n xs) : w.drew.ownsRow B e z v n xs := h
theorem InvS.kept {w wr w1 : World} {v u : Value} {L : Found} (h : InvS w wr v u L) (x : World) (e : x.heap = wr.heap) (e1 : x.os = wr.os) (e2 : x.tape = wr.tape) (e3 : x.output = wr.output) (hb : Below x.heap.size x w1) : InvS w w1 v u L := by
  have gb : wr.grownBy w1 none := ⟨hb.os.trans e1, hb.tape.trans e2, hb.output.trans e3, by rw [← e]; exact hb.size, fun k hk _ => by rw [hb.block k (by rw [e]; exact hk), e]⟩
  have q : Below w.heap.size w wr := h.below
  refine ⟨?_, ?_, q.grown gb q.size (fun k hk => by cases hk)⟩
  · refine h.row.kept gb ?_
    cases hv : v.ownBlock
    · exact .inl rfl
    · exact .inr (by simp)
  · refine h.wrd.kept gb ?_
    cases hv : u.ownBlock
    · exact .inl rfl
    · exact .inr (by simp)

/-- append on a slice of the call's own, as one step of a region that draws its order. -/
theorem step_append_own {P : Program} {ops : Array Oper} {o : Oper} {a : Act} {w : World} {K : Act → World → Prop} {Q : Exit → Act → World → Prop} {E : Prop} (hg : o.guard = none) (s x : Operand) (t : TypeId)
    (ho : o.op = .call { callee := .builtin .append, args := #[s, x], argTypes := #[t, t] })
    (base : Nat) (e : TypeId) (i : TypeInfo) (z : Value) (size bytes : Nat) (ht : P.underlying t = some (.slice e)) (hi : P.info? e = some i) (hz : i.zero = some z)
    (hsize : i.size = size) (hby : i.bytes = bytes) (hzs : z.cells.size = size) (hsz : 0 < size)
    (v : Value) (n : Nat) (xs : List Value) (hs : a.eval s = v) (hown : w.ownsRow base e size v n xs)
    (ad : Addr) (m c : Nat) (news : List Value) (hx : a.eval x = .slice (some ad) m c) (hl : news.length = m * size) (hnews : ∀ j u, news[j]? = some u → w.cell? (ad.add j) = some u) (h1 : ∀ u ∈ news, u.oneCell' = true)
    (h63 : n + m ≤ maxLen) (hbytes : (n + m) * bytes ≤ 140737488355328) (hbase : base ≤ w.heap.size)
    (h : ∀ v' w', w'.ownsRow base e size v' (n + m) (xs ++ news) → w.grownBy w' v.ownBlock → K (a.put o.dst v') w') :
    if Region.wanted o (yielded ops a.tmps) = true then Oper.wp P o a w K Q else E := by
  have hw : Region.wanted o (yielded ops a.tmps) = true := by simp [Region.wanted, hg]
  rw [if_pos hw]
  exact wp_append_own w s x t ho base e i z size bytes ht hi hz hsize hby hzs hsz v n xs hs hown ad m c news hx hl hnews h1 h63 hbytes hbase fun v' w' h2 h3 _ => h v' w' h2 h3

theorem diDirs_any (w : World) : Calls Tryd.prog 88 #[] w fun e w' => e = .returned (.string ⟨#[110, 101, 115, 119]⟩) ∧ w = w' := by
  go_enter Tryd.func88, Tryd.ntmps88
  go_wp2
  go_ret
  exact ⟨rfl, rfl⟩
theorem info_str : (Tryd.prog.info? 9).map (fun i => (i.zero, i.size, i.bytes)) = some (some (.string ⟨#[]⟩), 1, 16) := by kernel_rfl

/-- What the model's search hands back. -/
def Searched (d : D) (w : World) (e : Ending) (w' : World) : Prop := ∃ v u, e = .returned (.tuple #[v, u]) ∧ InvS w w' v u (bfs d)

set_option maxHeartbeats 2000000 in
theorem diSearch_any (d : D) (w : World) : Calls Tryd.prog 67 #[D.v d] w (Searched d w) := by
  go_enter Tryd.func67, Tryd.ntmps67
  go_wp2
  go_loopw [4, 5, 6] (fun v u i wr => ∃ (n : Nat) (L : Found), 0 < L.length ∧ n ≤ L.length ∧ i = .int .i64 (n : Int) ∧ Good d L ∧ bfs d = go (25 - n) n L ∧ InvS w wr v u L) (fun _ _ i _ => 25 - (intOf i).toNat)
  case atStart =>
    refine ⟨0, [(d, [])], by simp, by simp, rfl, Good.start d, rfl, ?_, ?_, by go_grown⟩
    · refine ⟨by rw [cellsL_len], .inr ⟨w.heap.size + 1, 1, #[.int .i64 d.t, .int .i64 d.n, .int .i64 d.e, .int .i64 d.s, .int .i64 d.w, .int .i64 d.b], rfl, by omega, ?_, Nat.le_refl _, by unfold maxLen; omega, rfl, rfl⟩⟩
      have h := (IsD.new2 (w := w) (o := .cells #[.int .i64 d.t, .int .i64 d.n, .int .i64 d.e, .int .i64 d.s, .int .i64 d.w, .int .i64 d.b] 30) (d := d) (ty := 30)).alloc (.cells #[.string ⟨#[]⟩] 9)
      exact h
    · refine ⟨by simp [wordsL], .inr ⟨w.heap.size + 2, 1, #[.string ⟨#[]⟩], rfl, by omega, ?_, Nat.le_refl _, by unfold maxLen; omega, rfl, rfl⟩⟩
      have h := (MapKept.heap_alloc ((w.alloc (.cells #[.int .i64 d.t, .int .i64 d.n, .int .i64 d.e, .int .i64 d.s, .int .i64 d.w, .int .i64 d.b] 30)).alloc (.cells #[.int .i64 d.t, .int .i64 d.n, .int .i64 d.e, .int .i64 d.s, .int .i64 d.w, .int .i64 d.b] 30)) (.cells #[.string ⟨#[]⟩] 9)).1
      simpa using h
  case round =>
    obtain ⟨n, L, hpos, hn, rfl, hG, hgo, hI⟩ := hrel
    have h24 := hG.le
    have HGO := hide hgo
    clear hgo
    obtain ⟨g, cap, g', cap', rfl, rfl⟩ := hI.slices hpos
    by_cases hlt : n < L.length
    · have hp : L[n]? = some (L[n]'hlt) := List.getElem?_eq_getElem hlt
      have hlt' := hlt
      generalize hpp : L[n]'hlt = p at hp
      have HP := hide hpp
      have HP2 := hide hp
      clear hpp hp
      go_wp2_with fail
      obtain ⟨wo, hwo⟩ : ∃ wo : World, wo = wr := ⟨_, rfl⟩
      rw [← hwo] at hI ⊢
      clear hwo
      have hpm : p ∈ L := List.mem_of_getElem? HP2.out
      go_loopw [4, 5, 7] (fun v u i wi => ∃ j : Nat, j ≤ 4 ∧ i = .int .i64 (j : Int) ∧ InvS w wi v u (stepN p j L)) (fun _ _ i _ => 4 - (intOf i).toNat)
      case atStart => exact ⟨0, by omega, rfl, hI⟩
      case round =>
        obtain ⟨j, hj, rfl, hI⟩ := hrel
        have hMp : 0 < (stepN p j L).length := by have := stepN_len p j L; omega
        have hnp := stepN_get (q := p) (j := j) HP2.out
        have hnM : n < (stepN p j L).length := by have := stepN_len p j L; omega
        generalize hL' : stepN p j L = M at hI hMp hnp hnM
        have hGM : Good d M := by rw [← hL']; exact stepN_good hG hpm j
        have HL := hide hL'
        have HNP := hide hnp
        clear hL' hnp
        obtain ⟨g, cap, g', cap', rfl, rfl⟩ := hI.slices hMp
        have h24M := hGM.le
        by_cases hlt : j < 4
        · have hst := hide (stepN_succ p j hlt L)
          have HK4 := hide (rollK_C j hlt p.1)
          have ds := dir_slice j hlt
          generalize hc : fourDirs[j]'hlt = c at ds hst HK4
          have HC := hide hc
          clear hc
          obtain ⟨c0, c1, c2, c3, c4, c5⟩ := hI.cell HNP.out
          go_wp2_with fail
          clear c0 c1 c2 c3 c4 c5
          refine (diRoll_any _ p.1 _).mono ?_
          rintro e w1 ⟨rfl, hb1⟩
          rw [HK4.out]
          generalize hx : rollC c.toNat p.1 = x
          have HX := hide hx
          clear hx
          have hI1 := hI.kept wr rfl rfl rfl rfl hb1
          clear hI hb1
          go_wp2_with fail
          have hI2 : InvS w (w1.alloc (.cells #[.int .i64 x.t, .int .i64 x.n, .int .i64 x.e, .int .i64 x.s, .int .i64 x.w, .int .i64 x.b] 30)) _ _ M := hI1.kept w1 rfl rfl rfl rfl ((Below.refl _ _).alloc (Nat.le_refl _) _)
          have hT : IsD (w1.alloc (.cells #[.int .i64 x.t, .int .i64 x.n, .int .i64 x.e, .int .i64 x.s, .int .i64 x.w, .int .i64 x.b] 30)) w1.heap.size x 30 := IsD.new
          generalize w1.alloc (.cells #[.int .i64 x.t, .int .i64 x.n, .int .i64 x.e, .int .i64 x.s, .int .i64 x.w, .int .i64 x.b] 30) = wq at hI2 hT ⊢
          generalize w1.heap.size = bt at hT ⊢
          clear hI1
          go_loopw [9, 33] (fun f i wi => ∃ q : Nat, q ≤ M.length ∧ i = .int .i64 (q : Int) ∧ f = .bool (known (M.take q) x) ∧ Below wq.heap.size wq wi) (fun _ i _ => M.length - (intOf i).toNat)
          case atStart => exact ⟨0, by omega, rfl, by simp [known], Below.refl _ _⟩
          case round =>
            obtain ⟨q, hq, rfl, rfl, hbq⟩ := hrel
            have hI3 := hI2.kept wq rfl rfl rfl rfl hbq
            have hT3 := isD_to hbq hT rfl
            by_cases hql : q < M.length
            · have hr : M[q]? = some (M[q]'hql) := List.getElem?_eq_getElem hql
              generalize M[q]'hql = r at hr
              have hkt := hide (known_take M q r hr x)
              obtain ⟨c0, c1, c2, c3, c4, c5⟩ := hI3.cell hr
              obtain ⟨lT, ⟨t0, t1, t2, t3, t4, t5⟩, -⟩ := hT3.all
              have heq := fun wx => eql_die r.1 x wx
              clear hr
              have hBQ : ∀ o, Below wq.heap.size wq (wr.alloc o) := fun o => hbq.alloc hbq.size o
              cases hk : known (M.take q) x
              · have HK := hide hk
                clear hk hbq hI3 hT3
                go_wp2
                go_roundw
                case rel => exact ⟨q + 1, by omega, by go_num, by rw [hkt.out, HK.out]; simp, hBQ _⟩
                case measure => simp [intOf]; omega
              · have HK := hide hk
                clear hk hbq hI3 hT3
                go_wp2
                go_roundw
                case rel => exact ⟨q + 1, by omega, by go_num, by rw [hkt.out, HK.out]; simp, hBQ _⟩
                case measure => simp [intOf]; omega
            · have hqM : q = M.length := by omega
              subst hqM
              have htk : M.take M.length = M := List.take_length
              rw [htk]
              clear htk hbq hI2 hT hq
              obtain ⟨lT, ⟨t0, t1, t2, t3, t4, t5⟩, -⟩ := hT3.all
              cases hk : known M x
              · have HK := hide hk
                clear hk
                obtain ⟨i0, hi, hz0, hz1, hz2⟩ := info_parts info_die
                obtain ⟨i1, hj', hy0, hy1, hy2⟩ := info_parts info_str
                go_upto_region 17 with (at_builtin; refine wpList_append_own_at _ rfl _ _ 40 rfl w.heap.size 30 i0 (.agg #[.int .i64 0, .int .i64 0, .int .i64 0, .int .i64 0, .int .i64 0, .int .i64 0]) 6 48 Tryd.underlying40 hi hz0 hz1 hz2 rfl (by decide) _ _ _ rfl (hI3.row.alloc _) ⟨wr.heap.size, 0, none⟩ 1 1 (dcells x) rfl rfl ?c1 ?c2 ?c3 ?c4 ?c5 ?_)
                case c1 => exact dcells_cell IsD.new
                case c2 => exact dcells_one _
                case c3 => unfold maxLen; omega
                case c4 => omega
                case c5 => have := hI3.below.size; simp; omega
                · intro v' w3 hown3 hg3 _ _
                  clear hi hz0 hz1 hz2 t0 t1 t2 t3 t4 t5 lT hT3
                  have hap : (Value.slice (some ⟨g', 0, none⟩) M.length cap').ownBlock ≠ (Value.slice (some ⟨g, 0, none⟩) M.length cap).ownBlock := by
                    rcases hI3.apart with h | h
                    · simp [Value.ownBlock] at h
                    · exact fun e => h e.symm
                  have wrd3 : w3.ownsRow w.heap.size 9 1 (.slice (some ⟨g', 0, none⟩) M.length cap') M.length (wordsL M) := (hI3.wrd.alloc _).kept hg3 (.inr hap)
                  have b3 : Below w.heap.size w w3 := (hI3.below.alloc hI3.below.size _).grown hg3 (by have := hI3.below.size; simp; omega) (fun k hk => (hI3.row.lt k hk).1)
                  have row3 : w3.ownsRow w.heap.size 30 6 v' (M ++ [(x, p.2 ++ [c])]).length (cellsL (M ++ [(x, p.2 ++ [c])])) := by
                    rw [cellsL_snoc, List.length_append]
                    exact hown3
                  have e1 : stepN p (j + 1) L = M ++ [(x, p.2 ++ [c])] := by
                    rw [hst.out, HL.out]
                    unfold stepF
                    rw [HX.out, if_neg (by rw [HK.out]; simp)]
                  have E1 := hide e1
                  have hwc := word_cell wrd3 HNP.out
                  have hnMi : (n : Int) < (M.length : Int) := by omega
                  have hshort : p.2.length ≤ 24 := by have := hGM.short p (List.mem_of_getElem? HNP.out); omega
                  have ha : ¬ 9223372036854775807 < p.2.length + 1 := by omega
                  have q1 : IntKind.i64.wrap ((j : Int) + 1) = (j : Int) + 1 := IntWalk.i64_in _ (by omega)
                  clear e1 hap hg3 hown3 hI3
                  have hcell : ∀ (k : Nat) (u : Value), [Value.string ((⟨p.2.toArray⟩ : ByteArray) ++ ⟨#[c]⟩)][k]? = some u → (w3.alloc (.cells #[.string ((⟨p.2.toArray⟩ : ByteArray) ++ ⟨#[c]⟩)] 9)).cell? ((⟨w3.heap.size, 0, none⟩ : Addr).add k) = some u := cell_one_new _ _ _
                  have HCELL := hide hcell
                  clear hcell
                  have h1c : ∀ u ∈ [Value.string ((⟨p.2.toArray⟩ : ByteArray) ++ ⟨#[c]⟩)], u.oneCell' = true := by
                    intro u hu
                    simp only [List.mem_singleton] at hu
                    subst hu
                    rfl
                  have H1C := hide h1c
                  clear h1c
                  have hz3 := b3.size
                  have hap3 := apart_rows row3 wrd3
                  have es : (⟨p.2.toArray⟩ : ByteArray) ++ ⟨#[c]⟩ = ⟨(p.2 ++ [c]).toArray⟩ := by
                    apply ByteArray.ext
                    simp
                  have fin : ∀ (w4 : World) (u' : Value), w4.ownsRow w.heap.size 9 1 u' (M.length + 1) (wordsL M ++ [.string ((⟨p.2.toArray⟩ : ByteArray) ++ ⟨#[c]⟩)]) →
                      (w3.alloc (.cells #[.string ((⟨p.2.toArray⟩ : ByteArray) ++ ⟨#[c]⟩)] 9)).drew.grownBy w4 (Value.slice (some ⟨g', 0, none⟩) M.length cap').ownBlock → InvS w w4 v' u' (M ++ [(x, p.2 ++ [c])]) := by
                    intro w4 u' h1 h2
                    refine ⟨?_, ?_, ?_⟩
                    · exact (own_drew (row3.alloc _)).kept h2 hap3
                    · rw [wordsL_snoc, List.length_append]
                      rw [es] at h1
                      exact h1
                    · exact (b3.alloc b3.size _).drew.grown h2 (by show w.heap.size ≤ (World.alloc _ _).heap.size; simp; omega) (fun k hk => (wrd3.lt k hk).1)
                  have FIN := hide fin
                  clear fin es hap3
                  have HJ := hide hj'
                  have HY0 := hide hy0
                  have HY1 := hide hy1
                  have HY2 := hide hy2
                  clear hj' hy0 hy1 hy2
                  go_wp2_with fail
                  go_region_law (first | (refine step_append_own rfl (.tmp 50) (.tmp 61) 96 rfl w.heap.size 9 i1 (.string ⟨#[]⟩) 1 16 Tryd.underlying96 HJ.out HY0.out HY1.out HY2.out rfl (by decide) _ _ _ (by simp [Act.eval]) (own_drew (wrd3.alloc _)) ⟨w3.heap.size, 0, none⟩ 1 1 [.string ((⟨p.2.toArray⟩ : ByteArray) ++ ⟨#[c]⟩)] (by simp [Act.eval]) rfl HCELL.out H1C.out (by unfold maxLen; omega) (by omega) (by simp; omega) ?_; intro u' w4 hown4 hg4) | (go_simp; go_at_call 88; refine (diDirs_any _).mono ?_; rintro e w' ⟨rfl, rfl⟩))
                  all_goals
                    have I4 := hide (FIN.out _ _ hown4 hg4)
                    clear hown4 hg4
                    go_wp2
                    go_roundw
                    case rel => exact ⟨j + 1, by omega, by go_num, by rw [E1.out]; exact I4.out⟩
                    case measure => simp [intOf]; omega
              · have HK := hide hk
                clear hk
                have e1 : stepN p (j + 1) L = M := by
                  rw [hst.out, HL.out]
                  unfold stepF
                  rw [HX.out, if_pos HK.out]
                have E1 := hide e1
                clear e1
                go_wp2
                go_roundw
                case rel => exact ⟨j + 1, by omega, by go_num, by rw [E1.out]; exact hI3⟩
                case measure => simp [intOf]; omega
        · have hj4 : j = 4 := by omega
          subst hj4
          have hM1 : n + 1 ≤ M.length := by
            have := stepN_len p 4 L
            rw [HL.out] at this
            omega
          have hG1 : bfs d = go (25 - (n + 1)) (n + 1) M := by
            rw [HGO.out, show 25 - n = (25 - (n + 1)) + 1 from by omega, go_next hlt', HP.out, HL.out]
          have HG1 := hide hG1
          clear hG1
          go_wp2
          go_roundw
          case rel => exact ⟨n + 1, M, by omega, hM1, by go_num, hGM, HG1.out, hI⟩
          case measure => simp [intOf]; omega
    · have hnl : ¬ ((n : Int) < (L.length : Int)) := by omega
      have HLT := hide hlt
      clear hlt
      go_wp2
      go_returns
      have e : bfs d = L := by rw [HGO.out, go_done HLT.out]
      exact ⟨_, _, rfl, by rw [e]; exact hI⟩
end Go.Proofs.YtjikpkembcnfnaaDoor
