/- the places whose words are read as others than were written: the walk of the program's Wrong. -/
import Derived.Test.YtpccpkjfnmclfaaLost
namespace Go.Proofs.Ytpccpkjfnmclfaa
open Go.RowKit
attribute [local go_sem] msetCell_draws malloc_draws

/-- the places among the first k whose codes are read as other words -/
def wrongT (l l' : List Int) : Nat → List Int
  | 0 => []
  | k + 1 => if (decS (l.getD k 0)).2.2 = 0 ∧ (decS (l.getD k 0)).1 ≠ l'.getD k 0 then wrongT l l' k ++ [(k : Int)] else wrongT l l' k
theorem wrongT_len (l l' : List Int) : ∀ k, (wrongT l l' k).length ≤ k
  | 0 => Nat.le_refl _
  | k + 1 => by
    have := wrongT_len l l' k
    unfold wrongT
    split <;> simp <;> omega

end Go.Proofs.Ytpccpkjfnmclfaa
