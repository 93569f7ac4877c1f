/- Tours in memory: what the walk over labels holds, and what its writes leave. -/
import Derived.Test.YtkknjokacinlaaaDoorTour
import Derived.Test.YtkknjokacinlaaaDoorWalksU
import Derived.Test.YtkknjokacinlaaaDoorUnder
import Derived.OneCell
namespace Go.Proofs.YtkknjokacinlaaaDoor
set_option maxRecDepth 100000
set_option linter.all false
open Go.RowKit

theorem labT_ne {w : World} {h g : Nat} {L : List UInt8} {W H : Nat} (hl : LabAt w h g L W H) (hH : 0 < H) (hL : 0 < L.length) : h ≠ g := by
  rintro rfl
  have h1 := hl.2.2 0 hH
  have h2 := (hl.2.1.cell (List.getElem?_eq_getElem hL)).1
  rw [h1] at h2
  cases h2
theorem labT_put {w : World} {h g : Nat} {L : List UInt8} {W H : Nat} (hl : LabAt w h g L W H) (hne : h ≠ g) {p : Nat} (hp : p < L.length) (c : UInt8) : LabAt (w.setCell ⟨g, p, none⟩ (.int .u8 (c.toNat : Int))) h g (L.set p c) W H := by
  obtain ⟨h1, h2, h3⟩ := hl
  refine ⟨by simpa using h1, h2.put hp c, fun k hk => ?_⟩
  rw [World.cell?_setCell_other _ _ _ _ (fun e => hne (by injection e with e1; exact e1.symm))]
  exact h3 k hk
theorem labT_alloc {w : World} {h g : Nat} {L : List UInt8} {W H : Nat} (hl : LabAt w h g L W H) (o : Obj) : LabAt (w.alloc o) h g L W H := labAt_to ((Below.refl _ _).alloc (Nat.le_refl _) _) hl rfl
theorem labT_other {w : World} {h g : Nat} {L : List UInt8} {W H : Nat} (hl : LabAt w h g L W H) {p : Addr} (hh : h ≠ p.block) (hg : g ≠ p.block) (u : Value) : LabAt (w.setCell p u) h g L W H := by
  obtain ⟨h1, h2, h3⟩ := hl
  refine ⟨by simpa using h1, h2.other hg u, fun k hk => ?_⟩
  rw [World.cell?_setCell_other _ _ _ _ (fun e => hh (by rw [e]))]
  exact h3 k hk
theorem labT_set8 {w : World} {h g c : Nat} {L : List UInt8} {W H : Nat} (hl : LabAt w h g L W H) (hh : h ≠ c) (hg : g ≠ c) (r : St) : LabAt ((((((((w.setCell ⟨c, 0, none⟩ (.int .i64 r.x)).setCell ⟨c, 1, none⟩ (.int .i64 r.y)).setCell ⟨c, 2, none⟩ (.int .i64 r.d.t)).setCell ⟨c, 3, none⟩ (.int .i64 r.d.n)).setCell ⟨c, 4, none⟩ (.int .i64 r.d.e)).setCell ⟨c, 5, none⟩ (.int .i64 r.d.s)).setCell ⟨c, 6, none⟩ (.int .i64 r.d.w)).setCell ⟨c, 7, none⟩ (.int .i64 r.d.b)) h g L W H :=
  labT_other (labT_other (labT_other (labT_other (labT_other (labT_other (labT_other (labT_other hl hh hg _) hh hg _) hh hg _) hh hg _) hh hg _) hh hg _) hh hg _) hh hg _
theorem ownT_set8 {w : World} {b c : Nat} {e : TypeId} {z : Nat} {v : Value} {n : Nat} {xs : List Value} (h : w.ownsRow b e z v n xs) (hv : v.ownBlock ≠ some c) (r : St) : ((((((((w.setCell ⟨c, 0, none⟩ (.int .i64 r.x)).setCell ⟨c, 1, none⟩ (.int .i64 r.y)).setCell ⟨c, 2, none⟩ (.int .i64 r.d.t)).setCell ⟨c, 3, none⟩ (.int .i64 r.d.n)).setCell ⟨c, 4, none⟩ (.int .i64 r.d.e)).setCell ⟨c, 5, none⟩ (.int .i64 r.d.s)).setCell ⟨c, 6, none⟩ (.int .i64 r.d.w)).setCell ⟨c, 7, none⟩ (.int .i64 r.d.b)).ownsRow b e z v n xs :=
  ownsRow_setCell_other (ownsRow_setCell_other (ownsRow_setCell_other (ownsRow_setCell_other (ownsRow_setCell_other (ownsRow_setCell_other (ownsRow_setCell_other (ownsRow_setCell_other h (a := ⟨c, 0, none⟩) hv _) (a := ⟨c, 1, none⟩) hv _) (a := ⟨c, 2, none⟩) hv _) (a := ⟨c, 3, none⟩) hv _) (a := ⟨c, 4, none⟩) hv _) (a := ⟨c, 5, none⟩) hv _) (a := ⟨c, 6, none⟩) hv _) (a := ⟨c, 7, none⟩) hv _
theorem own_ne {w : World} {b c : Nat} {e : TypeId} {z : Nat} {v : Value} {n : Nat} {xs : List Value} (h : w.ownsRow b e z v n xs) (hc : c < b) : v.ownBlock ≠ some c := by
  intro h'
  have := (h.lt c h').1
  omega
theorem sT_set8 {w : World} {b c : Nat} {s : St} {ty : TypeId} (h : IsS w b s ty) (hne : b ≠ c) (r : St) : IsS ((((((((w.setCell ⟨c, 0, none⟩ (.int .i64 r.x)).setCell ⟨c, 1, none⟩ (.int .i64 r.y)).setCell ⟨c, 2, none⟩ (.int .i64 r.d.t)).setCell ⟨c, 3, none⟩ (.int .i64 r.d.n)).setCell ⟨c, 4, none⟩ (.int .i64 r.d.e)).setCell ⟨c, 5, none⟩ (.int .i64 r.d.s)).setCell ⟨c, 6, none⟩ (.int .i64 r.d.w)).setCell ⟨c, 7, none⟩ (.int .i64 r.d.b)) b s ty := (((((((h.other (p := ⟨c, 0, none⟩) hne _).other (p := ⟨c, 1, none⟩) hne _).other (p := ⟨c, 2, none⟩) hne _).other (p := ⟨c, 3, none⟩) hne _).other (p := ⟨c, 4, none⟩) hne _).other (p := ⟨c, 5, none⟩) hne _).other (p := ⟨c, 6, none⟩) hne _).other (p := ⟨c, 7, none⟩) hne _

/-- The value of a word. -/
abbrev strV (u : List UInt8) : Value := .string ⟨u.toArray⟩
/-- What the walk over labels holds: the rows h cut out of the signs g, the state's variable sb, the tours so far; below B only g is written. -/
structure TW (B : Nat) (w0 w : World) (h g sb : Nat) (L : List UInt8) (W H : Nat) (s : St) (tv : Value) (acc : List (List UInt8)) : Prop where
  lab : LabAt w h g L W H
  st : IsS w sb s 30
  row : w.ownsRow (sb + 1) 9 1 tv acc.length (acc.map strV)
  bel : Below B w0 w
theorem TW.to {B : Nat} {w0 w w1 : World} {h g sb : Nat} {L : List UInt8} {W H : Nat} {s : St} {tv : Value} {acc : List (List UInt8)} (t : TW B w0 w h g sb L W H s tv acc) (hb : Below w.heap.size w w1) (hB : B ≤ w.heap.size) : TW B w0 w1 h g sb L W H s tv acc :=
  ⟨labAt_to hb t.lab rfl, isS_to hb t.st rfl, own_to hb t.row rfl, below_to hb t.bel hB rfl rfl rfl rfl⟩
theorem TW.drewn {B : Nat} {w0 w : World} {h g sb : Nat} {L : List UInt8} {W H : Nat} {s : St} {tv : Value} {acc : List (List UInt8)} (t : TW B w0 w h g sb L W H s tv acc) : TW B w0 w.drew h g sb L W H s tv acc := ⟨t.lab, t.st, t.row, t.bel.drew⟩
theorem TW.alloc {B : Nat} {w0 w : World} {h g sb : Nat} {L : List UInt8} {W H : Nat} {s : St} {tv : Value} {acc : List (List UInt8)} (t : TW B w0 w h g sb L W H s tv acc) (hB : B ≤ w.heap.size) (o : Obj) : TW B w0 (w.alloc o) h g sb L W H s tv acc :=
  t.to ((Below.refl _ _).alloc (Nat.le_refl _) _) hB
/-- A sign is written. -/
theorem TW.put {B : Nat} {w0 w : World} {h g sb : Nat} {L : List UInt8} {W H : Nat} {s : St} {tv : Value} {acc : List (List UInt8)} (t : TW B w0 w h g sb L W H s tv acc) (hne : h ≠ g) (hgs : g < sb) (hB : B ≤ g) {p : Nat} (hp : p < L.length) (c : UInt8) : TW B w0 (w.setCell ⟨g, p, none⟩ (.int .u8 (c.toNat : Int))) h g sb (L.set p c) W H s tv acc :=
  ⟨labT_put t.lab hne hp c, t.st.other (p := ⟨g, p, none⟩) (by show sb ≠ g; omega) _, ownsRow_setCell_other t.row (own_ne t.row (show g < sb + 1 by omega)) _, t.bel.setCell (p := ⟨g, p, none⟩) hB _⟩
/-- The state is written. -/
theorem TW.set8 {B : Nat} {w0 w : World} {h g sb : Nat} {L : List UInt8} {W H : Nat} {s : St} {tv : Value} {acc : List (List UInt8)} (t : TW B w0 w h g sb L W H s tv acc) (hh : h < sb) (hgs : g < sb) (hB : B ≤ sb) (r : St) : TW B w0 ((((((((w.setCell ⟨sb, 0, none⟩ (.int .i64 r.x)).setCell ⟨sb, 1, none⟩ (.int .i64 r.y)).setCell ⟨sb, 2, none⟩ (.int .i64 r.d.t)).setCell ⟨sb, 3, none⟩ (.int .i64 r.d.n)).setCell ⟨sb, 4, none⟩ (.int .i64 r.d.e)).setCell ⟨sb, 5, none⟩ (.int .i64 r.d.s)).setCell ⟨sb, 6, none⟩ (.int .i64 r.d.w)).setCell ⟨sb, 7, none⟩ (.int .i64 r.d.b)) h g sb L W H r tv acc :=
  ⟨labT_set8 t.lab (by omega) (by omega) r, t.st.set8 r, ownT_set8 t.row (own_ne t.row (by omega)) r, below_set8 t.bel hB r⟩

/-- Only what lies behind the state's variable was written. -/
theorem labT_below {B : Nat} {w w1 : World} {h g : Nat} {L : List UInt8} {W H : Nat} (hb : Below B w w1) (hl : LabAt w h g L W H) (hh : h < B) (hg : g < B) : LabAt w1 h g L W H := by
  obtain ⟨h1, ⟨C, lo, hi, b1, b2⟩, h3⟩ := hl
  have hs := hb.size
  exact ⟨by omega, ⟨C, lo, hi, (hb.block g hg).trans b1, b2⟩, fun k hk => (hb.cell (p := ⟨h, k, none⟩) hh).trans (h3 k hk)⟩
theorem TW.rows {B : Nat} {w0 w w1 : World} {h g sb : Nat} {L : List UInt8} {W H : Nat} {s : St} {tv tv1 : Value} {acc acc1 : List (List UInt8)} (t : TW B w0 w h g sb L W H s tv acc) (hh : h < sb) (hg : g < sb) (hB : B ≤ g) (hb : Below (sb + 1) w w1) (hr : w1.ownsRow (sb + 1) 9 1 tv1 acc1.length (acc1.map strV)) : TW B w0 w1 h g sb L W H s tv1 acc1 :=
  ⟨labT_below hb t.lab (by omega) (by omega), (hb.block sb (by omega)).trans t.st, hr, t.bel.trans (hb.mono (by omega))⟩
/-- The frame of walkedTours: what it has named; the rest is scratch. -/
def TFr (a : Act) (rows : Value) (m : Nat) (sb : Nat) (tv : Value) (u : List UInt8) (j : Nat) : Prop :=
  ∃ U : Nat → Value, a = { tmps := #[rows, U 1, .int .i64 (m : Int), U 3, .pointer (some ⟨sb, 0, none⟩), U 5, U 6, tv, strV u, .int .i64 (j : Int), U 10, U 11, U 12, U 13, U 14, U 15, U 16, U 17, U 18, U 19, U 20, U 21, U 22, U 23, U 24, U 25, U 26, U 27, U 28, U 29, U 30, U 31, U 32, U 33, U 34, U 35, U 36, U 37, U 38, U 39, U 40, U 41, U 42, U 43, U 44, U 45, U 46, U 47, U 48, U 49, U 50, U 51, U 52, U 53, U 54, U 55, U 56, U 57, U 58, U 59, U 60, U 61, U 62, U 63, U 64, U 65, U 66, U 67, U 68, U 69, U 70, U 71, U 72, U 73, U 74, U 75, U 76, U 77, U 78, U 79, U 80], defers := [] }
theorem tmps_list (t : Array Value) : t = ((List.range t.size).map (fun i => t.getD i undef)).toArray := by
  apply Array.ext
  · simp
  · intro i h1 h2
    simp [Array.getD, h1]
theorem tfr_of {a : Act} {rows : Value} {m sb : Nat} {tv : Value} {u : List UInt8} {j : Nat} (hs : a.tmps.size = 81) (hd : a.defers = []) (h0 : a.tmps.getD 0 undef = rows) (h2 : a.tmps.getD 2 undef = .int .i64 (m : Int)) (h4 : a.tmps.getD 4 undef = .pointer (some ⟨sb, 0, none⟩)) (h7 : a.tmps.getD 7 undef = tv) (h8 : a.tmps.getD 8 undef = strV u) (h9 : a.tmps.getD 9 undef = .int .i64 (j : Int)) : TFr a rows m sb tv u j := by
  refine ⟨fun i => a.tmps.getD i undef, ?_⟩
  obtain ⟨t, d⟩ := a
  simp only at hs hd h0 h2 h4 h7 h8 h9
  subst hd
  have e := tmps_list t
  rw [hs] at e
  rw [← h0, ← h2, ← h4, ← h7, ← h8, ← h9]
  congr 1
end Go.Proofs.YtkknjokacinlaaaDoor
