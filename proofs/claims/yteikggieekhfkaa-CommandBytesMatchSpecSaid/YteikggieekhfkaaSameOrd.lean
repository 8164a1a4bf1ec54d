/- the comparison of equal commands. -/
import Derived.Test.YteikggieekhfkaaCodes2
namespace Go.Proofs.Yteikggieekhfkaa
open Go.RowKit

set_option maxRecDepth 100000 in
set_option maxHeartbeats 400000 in
theorem sameOrder_yes (c m : Int) (A A' : Option Addr) (l : List UInt8) (k k' B : Nat) (w : World) (hB : B ≤ w.heap.size) (hl : l.length ≤ 9223372036854775807) (h : BR w B A l) (h' : BR w B A' l) :
    Calls Try.prog 44 #[ordV c m A l.length k, ordV c m A' l.length k'] w fun e w' => e = .returned (.bool true) ∧ Below w.heap.size w w' := by
  have HC := Lib.hid (fun (w1 : World) (hb : Below w.heap.size w w1) => equal_yes A A' k k' l B w1 hl (h.below (hb.mono hB)) (h'.below (hb.mono hB)))
  have HB2 := Lib.hid (two_new w)
  unfold ordV
  have hcc : (c == c) = true := by simp
  have hmm : (m == m) = true := by simp
  clear h h'
  go_enter Try.func44, Try.ntmps44
  go_wp2_with fail
  refine (HC.out _ (HB2.out _ _)).mono ?_
  rintro e w1 ⟨rfl, hb1⟩
  go_wp2_with fail
  go_ret
  exact ⟨rfl, (HB2.out _ _).trans (hb1.mono (by simp; omega))⟩
end Go.Proofs.Yteikggieekhfkaa
