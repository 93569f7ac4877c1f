/- Facts of the program's head that each row asks: reckoned once. -/
import Derived.Test.YthdkhikkdcjifaaDoorRows
import Derived.WalkKit
import Derived.ProofKit
import Derived.JoinedOf
namespace Go.Proofs.YthdkhikkdcjifaaDoor
set_option maxRecDepth 100000
set_option linter.all false
open Go

theorem head_word : (behindMainWord (wordsSigns Tryd.prog.initOrder.toList)).head? = some "cut".toList := by kernel_rfl
theorem head_words : ∃ rest, behindMainWord (wordsSigns Tryd.prog.initOrder.toList) = "cut".toList :: rest := by
  have h := head_word
  cases hl : behindMainWord (wordsSigns Tryd.prog.initOrder.toList) with
  | nil => rw [hl] at h; cases h
  | cons c rest =>
    rw [hl] at h
    exact ⟨rest, by rw [Option.some.inj h]⟩
theorem fact_make : (Tryd.prog.make == some .cut) = true := by
  obtain ⟨rest, h⟩ := head_words
  unfold Program.make
  rw [h]
  kernel_rfl
theorem fact_lifts : (false == Tryd.prog.liftsFinal) = true := by
  obtain ⟨rest, h⟩ := head_words
  unfold Program.liftsFinal Program.headLifts
  rw [h]
  kernel_rfl
theorem fact_enter : Tryd.prog.mayEnter = true := by
  obtain ⟨rest, h⟩ := head_words
  unfold Program.mayEnter
  rw [h]
  kernel_rfl
theorem and_in {a b : Bool} (ha : a = true) (hb : b = true) : (a && b) = true := by rw [ha, hb]; rfl
theorem fact_laid : laidOutB Tryd.prog = true := by kernel_rfl
theorem fact_maps : mapsRowed Tryd.prog = true := by kernel_rfl
theorem fact_stops : (Tryd.prog.stops == []) = true := by kernel_rfl
theorem fact_knobs : (Tryd.prog.stopKnobs == []) = true := by kernel_rfl
theorem fact_heard : Tryd.prog.stopsHeard = true := by kernel_rfl
set_option maxRecDepth 100000 in
/-- The closed facts of a row, those of the program alone taken from above. -/
theorem joined {f : FuncId} {fn : Func} {s : ChangeSpec} {c : OpenClaim}
    (a1 : c.wf (OpenSpec.ofChange s) = true) (a2 : fn.params.all (Tryd.prog.readableRec ·) = true) (a3 : namedTie Tryd.prog c.named s.vars = true) (a4 : (c.stops == []) = true) (a5 : (c.knobs == []) = true)
    (a6 : (c.inPlace == Tryd.prog.inPlace f) = true) (a7 : (c.unfollowed == Tryd.prog.unfollowed f) = true) (a8 : (c.recurses == Tryd.prog.recurses f) = true) (a9 : (c.named == Tryd.prog.varsNamed f) = true)
    (b1 : (c.maps == (fn.params.toList ++ s.plain.varTypes Tryd.prog).any (Tryd.prog.mapsRec ·)) = true) (b2 : (c.ifaces == (fn.params.toList ++ s.plain.varTypes Tryd.prog).any (Tryd.prog.ifacesRec ·)) = true) (b3 : (c.mapsOut == Tryd.prog.mapsAmong fn.resultTypes.toList) = true)
    (b4 : (c.loops == (fn.params.toList ++ s.plain.varTypes Tryd.prog).any (Tryd.prog.loopsFrom ·)) = true) (b5 : (c.wideKeys == (fn.params.toList ++ s.plain.varTypes Tryd.prog ++ fn.resultTypes.toList).any (Tryd.prog.wideKeysFrom ·)) = true)
    (b6 : s.vars.all (Tryd.prog.varReadable ·) = true) (b7 : fn.resultTypes.all (fun t => Tryd.prog.readableRec t && decide (t < Tryd.prog.types.size)) = true) (b8 : (c.ifacesOut == fn.resultTypes.toList.any (Tryd.prog.ifacesRec ·)) = true) (b9 : (c.loopsOut == fn.resultTypes.toList.any (Tryd.prog.loopsFrom ·)) = true)
    (d1 : (c.plainKeys == Tryd.prog.plainKeys) = true) (d2 : c.shortTexts.isNone = true) (d3 : c.lifted = false) (d4 : c.make = .cut)
    (d5 : (c.kinds == (if c.domain.isEmpty then [] else fn.params.toList.map fun t => match Tryd.prog.underlying t with | some (.int k) => some k | _ => none)) = true) (d6 : (c.pinned == c.pinnedBy) = true)
    (d7 : (c.veiled == (fn.params.toList ++ s.plain.varTypes Tryd.prog ++ fn.resultTypes.toList).any (Tryd.prog.veiledRec ·)) = true) (d8 : c.veiledFits Tryd.prog fn.params.toList (fn.params.toList ++ s.plain.varTypes Tryd.prog ++ fn.resultTypes.toList) = true) :
    joinedFacts Tryd.prog f fn s c = true := by
  have e1 : (c.lifted == Tryd.prog.liftsFinal) = true := by rw [d3]; exact fact_lifts
  have e2 : (Tryd.prog.make == some c.make) = true := by rw [d4]; exact fact_make
  unfold joinedFacts
  exact and_in (and_in (and_in (and_in (and_in (and_in (and_in (and_in (and_in (and_in (and_in (and_in (and_in (and_in (and_in (and_in (and_in (and_in (and_in (and_in (and_in (and_in (and_in (and_in (and_in (and_in (and_in (and_in (and_in (and_in (and_in a1 fact_laid) fact_maps) a2) a3) a4) fact_stops) a5) fact_knobs) a6) a7) a8) a9) b1) b2) b3) b4) b5) b6) b7) b8) b9) d1) d2) fact_heard) fact_enter) e1) e2) d5) d6) d7) d8
end Go.Proofs.YthdkhikkdcjifaaDoor
