/- the walk of the reference's Flipped. -/
import Derived.Test.YtpccpkjfnmclfaaFlippedB
import Derived.Test.YtpccpkjfnmclfaaRReadAt
import Derived.Test.YtpccpkjfnmclfaaBase
import Derived.StillTailTactics
import Derived.Deep.Cut
namespace Go.Proofs.Ytpccpkjfnmclfaa
open Go.RowKit
theorem xor_up (c a : Nat) (hc : c < 4194304) (ha : a < 22) : bits .xor .i64 (c : Int) ((2 : Int) ^ a) = ((c ^^^ 2 ^ a : Nat) : Int) := by
  have hp : 2 ^ a < 4194304 := Nat.pow_lt_pow_right (show 1 < 2 by omega) ha
  rw [show (2 : Int) ^ a = ((2 ^ a : Nat) : Int) by simp]
  generalize 2 ^ a = p at *
  exact mxor64 c p (by omega) (by omega)
attribute [local go_sem] msetCell_draws malloc_draws

end Go.Proofs.Ytpccpkjfnmclfaa
