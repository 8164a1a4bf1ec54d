/- what a call leaves, below what was before it. -/
import Derived.Test.YtpccpkjfnmclfaaReach
import Derived.Test.YtpccpkjfnmclfaaTurn
import Derived.Deep.RegionHeld3
namespace Go.Proofs.Ytpccpkjfnmclfaa
open Go.RowKit

theorem carryB {f : FuncId} {args : Array Value} {w' W0 : World} {Q : Ending → Prop} {B : Nat} (h : Calls Try.prog f args w' fun e w'' => Q e ∧ Below w'.heap.size w' w'') (hb : Below B W0 w') (hB : B ≤ w'.heap.size) :
    Calls Try.prog f args w' fun e w'' => Q e ∧ Below B W0 w'' ∧ B ≤ w''.heap.size := h.mono fun _ _ ⟨a, b⟩ => ⟨a, hb.trans (b.mono hB), Nat.le_trans hB b.size⟩
end Go.Proofs.Ytpccpkjfnmclfaa
