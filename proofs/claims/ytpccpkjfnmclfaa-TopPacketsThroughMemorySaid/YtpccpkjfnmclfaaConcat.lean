/- slices.Grow of nil, slices.Concat and slices.Clone of bytes. -/
import Derived.Test.YtpccpkjfnmclfaaBase
import Derived.Lib.AppendZeros
namespace Go.Proofs.Ytpccpkjfnmclfaa
open Go.RowKit

/-- a byte slice as a cell -/
abbrev Part := Option Addr × Nat × List UInt8
def sv (p : Part) : Value := .slice p.1 p.2.2.length p.2.1
def joined (ps : List Part) : List UInt8 := ps.flatMap (·.2.2)
theorem joined_snoc (ps : List Part) (p : Part) : joined (ps ++ [p]) = joined ps ++ p.2.2 := by simp [joined]
theorem joined_take_le (ps : List Part) (k : Nat) : (joined (ps.take k)).length ≤ (joined ps).length := by
  have h : joined ps = joined (ps.take k) ++ joined (ps.drop k) := by
    unfold joined
    rw [← List.flatMap_append, List.take_append_drop]
  rw [h, List.length_append]
  omega
theorem ptake_one (l : List Part) (k : Nat) (h : k < l.length) : l.take (k + 1) = l.take k ++ [l[k]] := by
  rw [List.take_succ_eq_append_getElem h]

end Go.Proofs.Ytpccpkjfnmclfaa
