/- the walk of the reference's code of a word. -/
import Derived.Test.YteelepjhlhifhaaRBits
namespace Go.Proofs.Yteelepjhlhifhaa
open Go.RowKit

/-- what `1 << (1<<k - 1)` is -/
def checkBit : Nat → Int
  | 0 => 1
  | 1 => 2
  | 2 => 8
  | 3 => 128
  | _ => 32768
theorem or_low64 (s j : Nat) (hj : j < 21) : bits .or .i64 ((s % 2 ^ j : Nat) : Int) ((2 ^ j : Nat) : Int) = ((s % 2 ^ j + 2 ^ j : Nat) : Int) := by
  have hol := or_low s j
  have hpj : 2 ^ j < 2097152 := Nat.pow_lt_pow_right (show 1 < 2 by omega) hj
  have hsl : s % 2 ^ j < 2 ^ j := Nat.mod_lt _ (Nat.two_pow_pos j)
  rw [← hol]
  clear hol
  generalize s % 2 ^ j = x at *
  generalize 2 ^ j = p at *
  exact or64 x p (by omega) (by omega)
end Go.Proofs.Yteelepjhlhifhaa
