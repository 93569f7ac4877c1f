/- What the program's rolledOver holds: the wiped text, the landings. -/
import Derived.Test.YtkknjokacinlaaaGreatDoorNetP
import Derived.Test.YtkknjokacinlaaaGreatDoorRoll4
import Derived.Test.YtkknjokacinlaaaGreatDoorFaces
import Derived.Test.YtkknjokacinlaaaGreatDoorScope
import Derived.ScopeJumps
import Derived.Maps.AppendAt
import Derived.Deep.Cut
import Derived.Deep.RegionHeld3
import Derived.StillTailTactics
namespace Go.Proofs.YtkknjokacinlaaaGreatDoor
set_option maxRecDepth 100000
set_option linter.all false
open Go.RowKit

theorem skip_seqN {P : Program} {x : Code} {Q : Exit → Act → World → Prop} {a : Act} {w : World} (h : x.wp P Q a w) : (Code.seq .skip x).wp P Q a w := wp_seq (wp_skip h)
/-- rolledOver's body, within its scope. -/
noncomputable def rdC : Code := match Tryz.f36.body with | some (.seq _ (.scope c)) => c | _ => .skip
/-- The frame of rolledOver at its label. -/
def RF (a : Act) (rows lv : Value) (n : Nat) : Prop :=
  ∃ U : Nat → Value, a = { tmps := #[rows, U 1, U 2, U 3, lv, .int .i64 (n : Int), U 6, U 7, U 8, U 9, U 10, U 11, U 12, U 13, U 14, U 15, U 16, U 17, U 18, U 19, U 20, U 21, U 22, U 23, U 24, U 25, U 26, U 27, U 28, U 29, U 30, U 31, U 32, U 33, U 34, U 35, U 36, U 37, U 38, U 39, U 40, U 41, U 42, U 43, U 44, U 45, U 46, U 47, U 48, U 49, U 50, U 51, U 52, U 53, U 54, U 55, U 56, U 57, U 58], defers := [] }
theorem tmps_listN (t : Array Value) : t = ((List.range t.size).map (fun i => t.getD i undef)).toArray := by
  apply Array.ext
  · simp
  · intro i h1 h2
    simp [Array.getD, h1]
theorem rf_of {a : Act} {rows lv : Value} {n : Nat} (hs : a.tmps.size = 59) (hd : a.defers = []) (h0 : a.tmps.getD 0 undef = rows) (h4 : a.tmps.getD 4 undef = lv) (h5 : a.tmps.getD 5 undef = .int .i64 (n : Int)) : RF a rows lv n := by
  refine ⟨fun i => a.tmps.getD i undef, ?_⟩
  obtain ⟨t, d⟩ := a
  simp only at hs hd h0 h4 h5
  subst hd
  have e := tmps_listN t
  rw [hs] at e
  rw [← h0, ← h4, ← h5]
  congr 1
theorem RF.here {a : Act} {rows lv : Value} {n : Nat} (h : RF a rows lv n) : a.tmps.getD 5 undef = .int .i64 (n : Int) := by
  obtain ⟨U, rfl⟩ := h
  rfl

/-- What rolledOver holds: the rows h cut out of the signs g, the landings so far; only g is written of what was there. -/
structure RW (l : List UInt8) (W H h g : Nat) (w0 w : World) (Q : List Lg) (lv : Value) : Prop where
  lab : ∃ L, Wiped l W H Q L ∧ LabAt w h g L W H
  row : w.ownsRow w0.heap.size 59 10 lv Q.length (ldCells (Q.map (ldOf l)))
  bel : w0.grownBy w (some g)
theorem own_below {w w1 : World} {B : Nat} {e : TypeId} {z : Nat} {v : Value} {n : Nat} {xs : List Value} (h : w.ownsRow B e z v n xs) (hb : Below w.heap.size w w1) : w1.ownsRow B e z v n xs :=
  h.kept (grown_below hb none) (by cases v.ownBlock <;> simp)
theorem RW.to {l : List UInt8} {W H h g : Nat} {w0 w w1 : World} {Q : List Lg} {lv : Value} (t : RW l W H h g w0 w Q lv) (hb : Below w.heap.size w w1) : RW l W H h g w0 w1 Q lv := by
  obtain ⟨L, a, b⟩ := t.lab
  exact ⟨⟨L, a, labAt_to hb b rfl⟩, own_below t.row hb, grown_trans t.bel (grown_below hb _)⟩
theorem RW.drew {l : List UInt8} {W H h g : Nat} {w0 w : World} {Q : List Lg} {lv : Value} (t : RW l W H h g w0 w Q lv) : RW l W H h g w0 w.drew Q lv := t.to (Below.refl _ _).drew
theorem RW.alloc {l : List UInt8} {W H h g : Nat} {w0 w : World} {Q : List Lg} {lv : Value} (t : RW l W H h g w0 w Q lv) (o : Obj) : RW l W H h g w0 (w.alloc o) Q lv := t.to ((Below.refl _ _).alloc (Nat.le_refl _) _)
theorem labAt_kept {w w1 : World} {h g : Nat} {L : List UInt8} {W H : Nat} {row : Option Nat} (hl : LabAt w h g L W H) (hk : w.grownBy w1 row) (hh : some h ≠ row) (hg : some g ≠ row) : LabAt w1 h g L W H := by
  obtain ⟨h1, h2, h3⟩ := hl
  refine ⟨Nat.lt_of_lt_of_le h1 hk.size, h2.kept hk hg, fun k hk' => ?_⟩
  rw [World.cell?_of_block (a := ⟨h, k, none⟩) (hk.block h h1 hh)]
  exact h3 k hk'
theorem grown_new {a b c : World} {g : Option Nat} {r : Option Nat} (h : a.grownBy b g) (k : b.grownBy c r) (hr : ∀ j, r = some j → a.heap.size ≤ j) : a.grownBy c g :=
  ⟨k.os.trans h.os, k.tape.trans h.tape, k.output.trans h.output, Nat.le_trans h.size k.size, fun j hj hne => (k.block j (Nat.lt_of_lt_of_le hj h.size) (fun e => by have := hr j e.symm; omega)).trans (h.block j hj hne)⟩
/-- A landing more. -/
theorem RW.add {l : List UInt8} {W H h g : Nat} {w0 w w2 w4 : World} {Q : List Lg} {lv v' : Value} {fb : Nat} {p p' : Ld} {x y r : Nat} {d : D} {L : List UInt8} {o : Obj} {ty : TypeId} (hh : h < w0.heap.size) (hg : g < w0.heap.size) (hne : h ≠ g)
    (HW : Wiped l W H Q L) (HL : LabAt w h g L W H) (HO : w.ownsRow w0.heap.size 59 10 lv Q.length (ldCells (Q.map (ldOf l)))) (HB : w0.grownBy w (some g)) (F : IsL w fb p ty) (hfb : lv.ownBlock ≠ some fb) (hf0 : w0.heap.size ≤ fb) (hx : x < W) (hy : y < H)
    (B2 : BufAt w2 g (putN W L ⟨(x : Int), (y : Int), d⟩)) (G2 : w.grownBy w2 (some g)) (O4 : w4.ownsRow w0.heap.size 59 10 v' (Q.length + 1) (ldCells (Q.map (ldOf l)) ++ ldC p')) (G4 : (w2.alloc o).grownBy w4 lv.ownBlock) (h4 : v'.ownBlock = lv.ownBlock ∨ v'.ownBlock = some (w2.heap.size + 1))
    (hp : p' = ldOf l (⟨(x : Int), (y : Int), d⟩, r)) : RW l W H h g w0 w4 (Q ++ [(⟨(x : Int), (y : Int), d⟩, r)]) v' ∧ IsL w4 fb p ty ∧ v'.ownBlock ≠ some fb := by
  have hlt : ∀ j, lv.ownBlock = some j → w0.heap.size ≤ j := fun j hj => (HO.lt j hj).1
  have hgw : g < w.heap.size := Nat.lt_of_lt_of_le hg HB.size
  have e2 : LabAt w2 h g (putN W L ⟨(x : Int), (y : Int), d⟩) W H := by
    obtain ⟨h1, h2, h3⟩ := HL
    refine ⟨Nat.lt_of_lt_of_le h1 G2.size, B2, fun k hk' => ?_⟩
    rw [World.cell?_of_block (a := ⟨h, k, none⟩) (G2.block h h1 (fun e => hne (Option.some.inj e)))]
    exact h3 k hk'
  have e3 : LabAt (w2.alloc o) h g (putN W L ⟨(x : Int), (y : Int), d⟩) W H := labAt_to ((Below.refl _ _).alloc (Nat.le_refl _) _) e2 rfl
  have f2 : IsL w2 fb p ty := F.kept G2 (fun e => by have := Option.some.inj e; omega)
  have ga : w2.grownBy (w2.alloc o) none := grown_below ((Below.refl _ _).alloc (Nat.le_refl _) _) none
  refine ⟨⟨⟨_, HW.put rfl rfl hx hy r, labAt_kept e3 G4 (fun e => by have := hlt h e.symm; omega) (fun e => by have := hlt g e.symm; omega)⟩, ?_, ?_⟩, (f2.alloc o).kept G4 (fun e => hfb e.symm), ?_⟩
  · rw [List.length_append, List.length_singleton, List.map_append, List.map_singleton, ldCells_snoc, ← hp]
    exact O4
  · exact grown_new (grown_new (grown_trans HB G2) ga (fun j e => by cases e)) G4 hlt
  · intro e
    rcases h4 with h4 | h4
    · exact hfb (h4 ▸ e)
    · rw [h4] at e
      have h5 := Option.some.inj e
      have h6 := f2.lt
      omega
theorem rw_cutA {l : List UInt8} {W H h g : Nat} {w0 wr w2 : World} {Q : List Lg} {lv : Value} {fb : Nat} {p : Ld} {r : St} (T : RW l W H h g w0 wr Q lv) (F : IsL wr fb p 59) (hb : Below (wr.alloc (.cells #[.int .i64 0, .int .i64 0, .int .i64 0, .int .i64 0, .int .i64 0, .int .i64 0, .int .i64 0, .int .i64 0] 57)).drew.heap.size (wr.alloc (.cells #[.int .i64 0, .int .i64 0, .int .i64 0, .int .i64 0, .int .i64 0, .int .i64 0, .int .i64 0, .int .i64 0] 57)).drew w2) (N : IsS w2 wr.heap.size ⟨0, 0, ⟨0, 0, 0, 0, 0, 0⟩⟩ 57) :
    IsS ((((((((w2.setCell ⟨wr.heap.size, 0, none⟩ (.int .i64 r.x)).setCell ⟨wr.heap.size, 1, none⟩ (.int .i64 r.y)).setCell ⟨wr.heap.size, 2, none⟩ (.int .i64 r.d.t)).setCell ⟨wr.heap.size, 3, none⟩ (.int .i64 r.d.n)).setCell ⟨wr.heap.size, 4, none⟩ (.int .i64 r.d.e)).setCell ⟨wr.heap.size, 5, none⟩ (.int .i64 r.d.s)).setCell ⟨wr.heap.size, 6, none⟩ (.int .i64 r.d.w)).setCell ⟨wr.heap.size, 7, none⟩ (.int .i64 r.d.b)) wr.heap.size r 57 ∧ RW l W H h g w0 ((((((((w2.setCell ⟨wr.heap.size, 0, none⟩ (.int .i64 r.x)).setCell ⟨wr.heap.size, 1, none⟩ (.int .i64 r.y)).setCell ⟨wr.heap.size, 2, none⟩ (.int .i64 r.d.t)).setCell ⟨wr.heap.size, 3, none⟩ (.int .i64 r.d.n)).setCell ⟨wr.heap.size, 4, none⟩ (.int .i64 r.d.e)).setCell ⟨wr.heap.size, 5, none⟩ (.int .i64 r.d.s)).setCell ⟨wr.heap.size, 6, none⟩ (.int .i64 r.d.w)).setCell ⟨wr.heap.size, 7, none⟩ (.int .i64 r.d.b)) Q lv ∧ IsL ((((((((w2.setCell ⟨wr.heap.size, 0, none⟩ (.int .i64 r.x)).setCell ⟨wr.heap.size, 1, none⟩ (.int .i64 r.y)).setCell ⟨wr.heap.size, 2, none⟩ (.int .i64 r.d.t)).setCell ⟨wr.heap.size, 3, none⟩ (.int .i64 r.d.n)).setCell ⟨wr.heap.size, 4, none⟩ (.int .i64 r.d.e)).setCell ⟨wr.heap.size, 5, none⟩ (.int .i64 r.d.s)).setCell ⟨wr.heap.size, 6, none⟩ (.int .i64 r.d.w)).setCell ⟨wr.heap.size, 7, none⟩ (.int .i64 r.d.b)) fb p 59 := by
  have hb8 : Below wr.heap.size wr ((((((((w2.setCell ⟨wr.heap.size, 0, none⟩ (.int .i64 r.x)).setCell ⟨wr.heap.size, 1, none⟩ (.int .i64 r.y)).setCell ⟨wr.heap.size, 2, none⟩ (.int .i64 r.d.t)).setCell ⟨wr.heap.size, 3, none⟩ (.int .i64 r.d.n)).setCell ⟨wr.heap.size, 4, none⟩ (.int .i64 r.d.e)).setCell ⟨wr.heap.size, 5, none⟩ (.int .i64 r.d.s)).setCell ⟨wr.heap.size, 6, none⟩ (.int .i64 r.d.w)).setCell ⟨wr.heap.size, 7, none⟩ (.int .i64 r.d.b)) := below_set8 (below_to hb ((Below.refl wr.heap.size wr).alloc (Nat.le_refl _) (.cells #[.int .i64 0, .int .i64 0, .int .i64 0, .int .i64 0, .int .i64 0, .int .i64 0, .int .i64 0, .int .i64 0] 57)) (by simp) rfl rfl rfl rfl) (Nat.le_refl _) r
  exact ⟨N.set8 r, T.to hb8, isL_to hb8 F rfl⟩
theorem rw_cutB {l : List UInt8} {W H h g : Nat} {w0 wr w2 : World} {Q : List Lg} {lv : Value} {fb : Nat} {p : Ld} {r : St} (T : RW l W H h g w0 wr Q lv) (F : IsL wr fb p 59) (hb : Below wr.drew.heap.size wr.drew w2) :
    IsS (w2.alloc (.cells #[.int .i64 r.x, .int .i64 r.y, .int .i64 r.d.t, .int .i64 r.d.n, .int .i64 r.d.e, .int .i64 r.d.s, .int .i64 r.d.w, .int .i64 r.d.b] 57)) w2.heap.size r 57 ∧ RW l W H h g w0 (w2.alloc (.cells #[.int .i64 r.x, .int .i64 r.y, .int .i64 r.d.t, .int .i64 r.d.n, .int .i64 r.d.e, .int .i64 r.d.s, .int .i64 r.d.w, .int .i64 r.d.b] 57)) Q lv ∧ IsL (w2.alloc (.cells #[.int .i64 r.x, .int .i64 r.y, .int .i64 r.d.t, .int .i64 r.d.n, .int .i64 r.d.e, .int .i64 r.d.s, .int .i64 r.d.w, .int .i64 r.d.b] 57)) fb p 59 := by
  have hb8 : Below wr.heap.size wr (w2.alloc (.cells #[.int .i64 r.x, .int .i64 r.y, .int .i64 r.d.t, .int .i64 r.d.n, .int .i64 r.d.e, .int .i64 r.d.s, .int .i64 r.d.w, .int .i64 r.d.b] 57)) := (below_to hb (Below.refl wr.heap.size wr) (Nat.le_refl _) rfl rfl rfl rfl).alloc hb.size _
  exact ⟨IsS.new, T.to hb8, isL_to hb8 F rfl⟩
theorem cell_land_new (w : World) (p : Ld) : ∀ (k : Nat) (x : Value), (ldC p)[k]? = some x → (w.alloc (.cells #[.int .i64 p.n, .int .i64 p.s.x, .int .i64 p.s.y, .int .i64 p.s.d.t, .int .i64 p.s.d.n, .int .i64 p.s.d.e, .int .i64 p.s.d.s, .int .i64 p.s.d.w, .int .i64 p.s.d.b, .int .i64 p.r] 59)).cell? ((⟨w.heap.size, 0, none⟩ : Addr).add k) = some x := by
  intro k x h
  have hk : k < 10 := (List.getElem?_eq_some_iff.1 h).1
  obtain ⟨-, ⟨c0, c1, c2, c3, c4, c5, c6, c7, c8, c9⟩, -⟩ := (IsL.new (w := w) (q := p) (ty := 59)).all
  have ea : ((⟨w.heap.size, 0, none⟩ : Addr).add k) = ⟨w.heap.size, k, none⟩ := by simp [Addr.add]; intro h; exact h.symm
  rw [ea]
  match k, hk, h with
  | 0, _, h => exact c0.trans h
  | 1, _, h => exact c1.trans h
  | 2, _, h => exact c2.trans h
  | 3, _, h => exact c3.trans h
  | 4, _, h => exact c4.trans h
  | 5, _, h => exact c5.trans h
  | 6, _, h => exact c6.trans h
  | 7, _, h => exact c7.trans h
  | 8, _, h => exact c8.trans h
  | 9, _, h => exact c9.trans h
theorem one_landC (p : Ld) : ∀ u ∈ ldC p, u.oneCell' = true := by
  intro u hu
  simp [ldC] at hu
  rcases hu with rfl | rfl | rfl | rfl | rfl | rfl | rfl | rfl | rfl | rfl <;> rfl
end Go.Proofs.YtkknjokacinlaaaGreatDoor
