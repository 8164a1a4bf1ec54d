/- the walk of the laws' own small check. -/
import Derived.Test.YtldfommfaegdiaaLimsP
namespace Go.Proofs.Ytldfommfaegdiaa
open Go.RowKit

theorem awk_nums : sofF ⟨⟨#[97]⟩, 0, 0, 0, 0, 1, 1, 0⟩ 5 = 0 ∧ sofR ⟨⟨#[97]⟩, 0, 0, 0, 0, 1, 1, 0⟩ 5 = 2 := by decide
set_option maxRecDepth 100000 in
set_option maxHeartbeats 1000000 in
theorem awake_any (w : World) :
    Calls Try.prog 15 #[] w fun e w' => e = .returned (.bool true) ∧ Below w.heap.size w w' := by
  have hs := p_StateOf_any ⟨⟨#[97]⟩, 0, 0, 0, 0, 1, 1, 0⟩ 5 (by decide) w
  rw [awk_nums.1, awk_nums.2] at hs
  unfold limV at hs
  have HS := Lib.hid hs
  clear hs
  go_enter Try.func15, Try.ntmps15
  go_wp2_with fail
  refine HS.out.mono ?_
  rintro e w' ⟨rfl, hb⟩
  go_wp2_with fail
  go_ret
  exact ⟨rfl, hb⟩
end Go.Proofs.Ytldfommfaegdiaa
