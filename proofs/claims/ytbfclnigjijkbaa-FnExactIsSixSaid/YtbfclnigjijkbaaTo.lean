/- Small laws on worlds: what a contract leaves, whatever was drawn before it. -/
import Derived.Test.YtbfclnigjijkbaaBase
namespace Go.Proofs.Ytbfclnigjijkbaa
set_option maxRecDepth 100000
set_option linter.all false
open Go.RowKit

theorem below_to {B : Nat} {w w0 x w1 : World} (h1 : Below x.heap.size x w1) (h0 : Below B w w0) (hB : B ≤ w0.heap.size) (e1 : x.heap = w0.heap) (e2 : x.os = w0.os) (e3 : x.tape = w0.tape) (e4 : x.output = w0.output) : Below B w w1 :=
  below_after (w0 := x) ⟨e2.trans h0.os, e3.trans h0.tape, e4.trans h0.output, by rw [e1]; exact h0.size, fun k hk => by rw [e1]; exact h0.block k hk⟩ h1 (by rw [e1]; exact hB)
theorem isD_to {w w0 w1 : World} {b : Nat} {d : D} {ty : TypeId} (hb : Below w0.heap.size w0 w1) (h : IsD w b d ty) (e : w0.heap = w.heap) : IsD w1 b d ty := h.below e hb
end Go.Proofs.Ytbfclnigjijkbaa
