/- the walk of the scrubber's run. -/
import Derived.Test.YtpccpkjfnmclfaaFlipS
namespace Go.Proofs.Ytpccpkjfnmclfaa
open Go.RowKit
attribute [local go_sem] msetCell_draws malloc_draws

/-- what run leaves -/
def RunAt (P g n cap : Nat) (s : St) (w w' : World) : Prop :=
  ∃ dv, HeldS w' P (.slice (some ⟨g, 0, none⟩) n cap) (.int .i64 (s.next : Int)) dv ∧ RowAt w' g cap (ints s.C) ∧ OwnS w' (P + 1) dv s.done ∧ Kept P g w w'
end Go.Proofs.Ytpccpkjfnmclfaa
