/- The program's landed: the digit is read and taken away. -/
import Derived.Test.YtkknjokacinlaaaGreatDoorState
import Derived.Test.YtkknjokacinlaaaGreatDoorBoard
import Derived.Test.YtkknjokacinlaaaGreatDoorMatchC
import Derived.Test.YtkknjokacinlaaaGreatDoorNet
import Derived.StillTailTactics
import Derived.Deep.Cut
namespace Go.Proofs.YtkknjokacinlaaaGreatDoor
set_option maxRecDepth 100000
set_option linter.all false
open Go.RowKit

/-- The text with the digit of a state taken away. -/
def putN (W : Nat) (L : List UInt8) (s : St) : List UInt8 := L.set (s.y.toNat * (W + 1) + s.x.toNat) 46
theorem below_but {w w' : World} {g : Nat} (h : w.grownBy w' (some g)) {B : Nat} (hB : B ≤ g) (hw : B ≤ w.heap.size) : Below B w w' :=
  (Below.refl B w).grown h hw (fun k e => by rw [← Option.some.inj e]; exact hB)
theorem grown_setCell (w : World) (a : Addr) (u : Value) : w.grownBy (w.setCell a u) (some a.block) := ⟨rfl, rfl, rfl, by simp [World.setCell], fun k _ hne => Below.heap_setCell w a u k (fun e => hne (by rw [e]))⟩
theorem grown_below {w w' : World} (h : Below w.heap.size w w') (row : Option Nat) : w.grownBy w' row := ⟨h.os, h.tape, h.output, h.size, fun k hk _ => h.block k hk⟩
theorem grown_trans {a b c : World} {row : Option Nat} (h : a.grownBy b row) (k : b.grownBy c row) : a.grownBy c row := ⟨k.os.trans h.os, k.tape.trans h.tape, k.output.trans h.output, Nat.le_trans h.size k.size, fun j hj hne => (k.block j (Nat.lt_of_lt_of_le hj h.size) hne).trans (h.block j hj hne)⟩
theorem grown_n {a b : World} {row : Option Nat} {n : Nat} (h : a.grownBy b row) : a.grownBy (b.drewN n) row := ⟨h.os, h.tape, h.output, h.size, h.block⟩

set_option maxHeartbeats 3200000 in
theorem landed_any (L : List UInt8) (W H h g cap : Nat) (he : Even L W) (hH : (splitP L).length = H) (hW7 : W ≤ 7) (hH7 : H ≤ 7) (d : D) (x y : Nat) (hx : x < W) (hy : y < H) (c : UInt8) (hc : cellI (splitP L) (x : Int) (y : Int) = c) (hd : isDig c = true) (r : Int) (w : World) (ha : LabAt w h g L W H) :
    Calls Tryz.prog 52 #[.slice (some ⟨h, 0, none⟩) H cap, St.v ⟨(x : Int), (y : Int), d⟩, .int .i64 r] w fun e w' => e = .returned (Ld.v ⟨(c.toNat : Int) - 48, ⟨(x : Int), (y : Int), d⟩, r⟩) ∧ BufAt w' g (putN W L ⟨(x : Int), (y : Int), d⟩) ∧ w.grownBy w' (some g) := by
  obtain ⟨hl, hB, hrow⟩ := ha
  have hgl := hB.lt
  have ck := hrow y hy
  have hxi : (x : Int) < (W : Int) := by omega
  have hyi : (y : Int) < (H : Int) := by omega
  have hcell := (even_cell he (k := y) (j := x) (by omega) hx).1
  rw [hc] at hcell
  obtain ⟨cc, cf⟩ := hB.cell hcell
  have HB := hide hB
  obtain ⟨c48, c57⟩ := dig_of hd
  have w1 : IntKind.u8.wrap ((c.toNat : Int) - 48) = (c.toNat : Int) - 48 := by simp [IntKind.wrap, IntKind.signed, IntKind.bits]; omega
  have w2 : IntKind.i64.wrap ((c.toNat : Int) - 48) = (c.toNat : Int) - 48 := IntWalk.i64_in _ (by omega)
  have hp : y * (W + 1) + x < L.length := (List.getElem?_eq_some_iff.1 hcell).1
  have HPN := hide (show putN W L ⟨(x : Int), (y : Int), d⟩ = L.set (y * (W + 1) + x) 46 from rfl)
  clear hcell hc he hrow hH hB hd
  generalize hq : y * (W + 1) = q at ck cc cf hp HPN
  clear hq
  go_enter Tryz.func52, Tryz.ntmps52
  go_wp2
  have S0 := (IsS.new (w := w) (s := ⟨(x : Int), (y : Int), d⟩) (ty := 57)).alloc (.cells #[.int .i64 0, .int .i64 0, .int .i64 0, .int .i64 0, .int .i64 0, .int .i64 0, .int .i64 0, .int .i64 0, .int .i64 0, .int .i64 0] 59)
  have Z0 := IsL.new (w := w.alloc (.cells #[.int .i64 (x : Int), .int .i64 (y : Int), .int .i64 d.t, .int .i64 d.n, .int .i64 d.e, .int .i64 d.s, .int .i64 d.w, .int .i64 d.b] 57)) (q := ⟨0, ⟨0, 0, ⟨0, 0, 0, 0, 0, 0⟩⟩, 0⟩) (ty := 59)
  have q0 : Below w.heap.size w ((w.alloc (.cells #[.int .i64 (x : Int), .int .i64 (y : Int), .int .i64 d.t, .int .i64 d.n, .int .i64 d.e, .int .i64 d.s, .int .i64 d.w, .int .i64 d.b] 57)).alloc (.cells #[.int .i64 0, .int .i64 0, .int .i64 0, .int .i64 0, .int .i64 0, .int .i64 0, .int .i64 0, .int .i64 0, .int .i64 0, .int .i64 0] 59)) := by go_grown
  have ck0 : ((w.alloc (.cells #[.int .i64 (x : Int), .int .i64 (y : Int), .int .i64 d.t, .int .i64 d.n, .int .i64 d.e, .int .i64 d.s, .int .i64 d.w, .int .i64 d.b] 57)).alloc (.cells #[.int .i64 0, .int .i64 0, .int .i64 0, .int .i64 0, .int .i64 0, .int .i64 0, .int .i64 0, .int .i64 0, .int .i64 0, .int .i64 0] 59)).cell? ⟨h, y, none⟩ = some (.slice (some ⟨g, q, none⟩) W W) := (q0.cell (p := ⟨h, y, none⟩) hl).trans ck
  have cc0 : ((w.alloc (.cells #[.int .i64 (x : Int), .int .i64 (y : Int), .int .i64 d.t, .int .i64 d.n, .int .i64 d.e, .int .i64 d.s, .int .i64 d.w, .int .i64 d.b] 57)).alloc (.cells #[.int .i64 0, .int .i64 0, .int .i64 0, .int .i64 0, .int .i64 0, .int .i64 0, .int .i64 0, .int .i64 0, .int .i64 0, .int .i64 0] 59)).cell? ⟨g, q + x, none⟩ = some (.int .u8 (c.toNat : Int)) := (q0.cell (p := ⟨g, q + x, none⟩) hgl).trans cc
  have cf0 : ((w.alloc (.cells #[.int .i64 (x : Int), .int .i64 (y : Int), .int .i64 d.t, .int .i64 d.n, .int .i64 d.e, .int .i64 d.s, .int .i64 d.w, .int .i64 d.b] 57)).alloc (.cells #[.int .i64 0, .int .i64 0, .int .i64 0, .int .i64 0, .int .i64 0, .int .i64 0, .int .i64 0, .int .i64 0, .int .i64 0, .int .i64 0] 59)).frozen? ⟨g, q + x, none⟩ = false := (q0.frozen (p := ⟨g, q + x, none⟩) hgl).trans cf
  have B0 := bufAt_to q0 HB.out rfl
  have hz : w.heap.size + 2 = ((w.alloc (.cells #[.int .i64 (x : Int), .int .i64 (y : Int), .int .i64 d.t, .int .i64 d.n, .int .i64 d.e, .int .i64 d.s, .int .i64 d.w, .int .i64 d.b] 57)).alloc (.cells #[.int .i64 0, .int .i64 0, .int .i64 0, .int .i64 0, .int .i64 0, .int .i64 0, .int .i64 0, .int .i64 0, .int .i64 0, .int .i64 0] 59)).heap.size := by simp
  have hsz : (w.alloc (.cells #[.int .i64 (x : Int), .int .i64 (y : Int), .int .i64 d.t, .int .i64 d.n, .int .i64 d.e, .int .i64 d.s, .int .i64 d.w, .int .i64 d.b] 57)).heap.size = w.heap.size + 1 := by simp
  rw [hsz] at Z0
  generalize (w.alloc (.cells #[.int .i64 (x : Int), .int .i64 (y : Int), .int .i64 d.t, .int .i64 d.n, .int .i64 d.e, .int .i64 d.s, .int .i64 d.w, .int .i64 d.b] 57)).alloc (.cells #[.int .i64 0, .int .i64 0, .int .i64 0, .int .i64 0, .int .i64 0, .int .i64 0, .int .i64 0, .int .i64 0, .int .i64 0, .int .i64 0] 59) = W0 at S0 Z0 q0 ck0 cc0 cf0 B0 hz ⊢
  have HB0 := hide B0
  have HZ := hide hz
  have HS0 := hide S0
  have HZ0 := hide Z0
  clear B0 ck cc cf HB hsz hz
  obtain ⟨l0, ⟨a0, a1, a2, a3, a4, a5, a6, a7⟩, -⟩ := S0.all
  go_quiet (fail)
  go_wp2_with fail
  have q1 : Below w.heap.size w (W0.drewN nq) := ⟨q0.os, q0.tape, q0.output, q0.size, q0.block⟩
  have ck1 : (W0.drewN nq).cell? ⟨h, y, none⟩ = some (.slice (some ⟨g, q, none⟩) W W) := ck0
  have cf1 : (W0.drewN nq).frozen? ⟨g, q + x, none⟩ = false := cf0
  have B1 : BufAt (W0.drewN nq) g L := HB0.out
  have Z1 : IsL (W0.drewN nq) (w.heap.size + 1) ⟨0, ⟨0, 0, ⟨0, 0, 0, 0, 0, 0⟩⟩, 0⟩ 59 := HZ0.out
  have S1 : IsS (W0.drewN nq) w.heap.size ⟨(x : Int), (y : Int), d⟩ 57 := HS0.out
  have cc1 : (W0.drewN nq).cell? ⟨g, q + x, none⟩ = some (.int .u8 (c.toNat : Int)) := cc0
  have hz1 : w.heap.size + 2 = (W0.drewN nq).heap.size := HZ.out
  generalize W0.drewN nq = W1 at q1 ck1 cf1 B1 Z1 S1 cc1 hz1 ⊢
  clear a0 a1 a2 a3 a4 a5 a6 a7 l0 ck0 cf0 cc0 q0 S0 Z0 HB0 HZ HS0 HZ0
  have HS1 := hide S1
  have HZ1 := hide Z1
  have HB1 := hide B1
  obtain ⟨l0, ⟨a0, a1, a2, a3, a4, a5, a6, a7⟩, -⟩ := S1.all
  go_still_tail 8, (by kernel_rfl)
  go_upto_region 3 with (fail)
  have hg1 : g ≠ w.heap.size := by omega
  have hg2 : g ≠ w.heap.size + 1 := by omega
  clear hz1
  have S2 : IsS (W1.setCell ⟨g, q + x, none⟩ (.int .u8 46)).drew w.heap.size ⟨(x : Int), (y : Int), d⟩ 57 := HS1.out.other (fun e => hg1 e.symm) _
  have Z2 : IsL (W1.setCell ⟨g, q + x, none⟩ (.int .u8 46)).drew (w.heap.size + 1) ⟨0, ⟨0, 0, ⟨0, 0, 0, 0, 0, 0⟩⟩, 0⟩ 59 := HZ1.out.other (fun e => hg2 e.symm) _
  have B2 : BufAt (W1.setCell ⟨g, q + x, none⟩ (.int .u8 46)).drew g (L.set (q + x) 46) := HB1.out.put hp 46
  have G2 : w.grownBy (W1.setCell ⟨g, q + x, none⟩ (.int .u8 46)).drew (some g) := by
    have := grown_trans (grown_below q1 (some g)) (grown_setCell W1 ⟨g, q + x, none⟩ (.int .u8 46))
    exact ⟨this.os, this.tape, this.output, this.size, this.block⟩
  generalize (W1.setCell ⟨g, q + x, none⟩ (.int .u8 46)).drew = W2 at S2 Z2 B2 G2 ⊢
  have HZ2 := hide Z2
  have HB2 := hide B2
  obtain ⟨l0, ⟨a0, a1, a2, a3, a4, a5, a6, a7⟩, -⟩ := S2.all
  obtain ⟨l1, ⟨b0, b1, b2, b3, b4, b5, b6, b7, b8, b9⟩, e0, e1, e2, e3, e4, e5, e6, e7, e8, e9⟩ := Z2.all
  clear Z2 B2 S2 w1 w2
  generalize hn : (c.toNat : Int) - 48 = nn
  have HN := hide hn
  clear hn
  go_wp2
  refine bodyPost_ret (ret_land Tryz.results52 rfl (HZ2.out.set10 ⟨nn, ⟨(x : Int), (y : Int), d⟩, r⟩)) rfl ⟨by rw [HN.out], ?_, ?_⟩
  · rw [HPN.out]
    exact HB2.out |>.other hg2 _ |>.other hg2 _ |>.other hg2 _ |>.other hg2 _ |>.other hg2 _ |>.other hg2 _ |>.other hg2 _ |>.other hg2 _ |>.other hg2 _ |>.other hg2 _
  · exact grown_set10 G2 (Nat.le_succ _) ⟨nn, ⟨(x : Int), (y : Int), d⟩, r⟩
end Go.Proofs.YtkknjokacinlaaaGreatDoor
