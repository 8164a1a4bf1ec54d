/- the walk of the reference's ReadAt. -/
import Derived.Test.YtpccpkjfnmclfaaReadAt
namespace Go.Proofs.Ytpccpkjfnmclfaa
open Go.RowKit

theorem decS_nat (n : Nat) (hn : n < 4194304) : decS (n : Int) = (((decN n).1 : Int), ((decN n).2.1 : Int), ((decN n).2.2 : Int)) := by
  unfold decS
  rw [if_pos ⟨by omega, by omega⟩]
  rfl
end Go.Proofs.Ytpccpkjfnmclfaa
