/- The program's TurnBoard at a board. -/
import Derived.Test.YtgehcjmhgfhkdaaDoorWalksTT
namespace Go.Proofs.YtgehcjmhgfhkdaaDoor
set_option maxRecDepth 100000
set_option linter.all false
open Go.RowKit

set_option maxHeartbeats 800000 in
theorem implTB_yes (s : ByteArray) (w : World) (hs : s.size ≤ 1048576) (hg : Glob w) (h : isBd s.data.toList = true) : Calls Tryd.prog 49 #[.string s] w fun e w' => e = .returned (.tuple #[.string (tbS s.data.toList), .bool true]) ∧ Below w.heap.size w w' := by
  have HG := hide hg
  have HBD := hide h
  have HE := hide (show tbS s.data.toList = ⟨(joinB (rowsT (splitP s.data.toList).flatten (width s.data.toList) (splitP s.data.toList).length)).toArray⟩ from by unfold tbS; rw [if_pos h])
  obtain ⟨w1, w7, h1, h7, -, -⟩ := bd_facts h
  obtain ⟨r0, hr0, hr0s⟩ := row0_T h
  have hN := rows_lenT s
  have HTX := hide (fun (gR : Nat) (wx : World) (RA : RowsAt wx gR (rowsB s)) => turnedText_any (rowsB s) gR (splitP s.data.toList).flatten (width s.data.toList) (splitP s.data.toList).length w1 w7 h1 h7 hN r0 hr0 hr0s (fun x y hx hy => by rw [cellB_I h]; exact cellI_in h hx hy) (by omega) (fun r hr => Nat.le_trans (rowsB_fit s r hr) hs) wx RA)
  rw [← HE.out] at HTX
  generalize tbS s.data.toList = x at HTX ⊢
  clear hg h hr0 hr0s hN HE
  go_enter Tryd.func49, Tryd.ntmps49
  go_wp2_with fail
  refine (rowsOf_yes s _ hs HG.out HBD.out).mono ?_
  rintro e wa ⟨rfl, RA, b1⟩
  go_wp2_with fail
  refine (HTX.out _ _ RA).mono ?_
  rintro e w3 ⟨rfl, hb3⟩
  go_wp2
  go_returns
  exact ⟨rfl, below_after b1 hb3 b1.size⟩
end Go.Proofs.YtgehcjmhgfhkdaaDoor
