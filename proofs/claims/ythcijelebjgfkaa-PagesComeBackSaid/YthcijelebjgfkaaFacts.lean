/- closed facts of the program that every row asks, each a declaration of its own. -/
import Derived.Test.YthcijelebjgfkaaRows
import Derived.ProofKit
namespace Go.Proofs.Ythcijelebjgfkaa
theorem laidOut : laidOutB Try.prog = true := by kernel_rfl
theorem pMaps : mapsRowed Try.prog = true := by kernel_rfl
theorem pStops : (Try.prog.stops == []) = true := by kernel_rfl
theorem pKnobs : (Try.prog.stopKnobs == []) = true := by kernel_rfl
theorem pHeard : Try.prog.stopsHeard = true := by kernel_rfl
theorem pKeys : (Rows.packetSplitMatchesSpecRow.plainKeys == Try.prog.plainKeys) = true := by kernel_rfl
theorem pEnter : Try.prog.mayEnter = true := by kernel_rfl
theorem pLifts : (Rows.packetSplitMatchesSpecRow.lifted == Try.prog.liftsFinal) = true := by kernel_rfl
theorem pMake : (Try.prog.make == some Rows.packetSplitMatchesSpecRow.make) = true := by kernel_rfl
theorem both {a b : Bool} (ha : a = true) (hb : b = true) : (a && b) = true := by rw [ha, hb]; rfl
end Go.Proofs.Ythcijelebjgfkaa
