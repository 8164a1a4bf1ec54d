/- the walk of the laws' own small check. -/
import Derived.Test.YtidddoldkedicaaKinds
namespace Go.Proofs.Ytidddoldkedicaa
open Go.RowKit

theorem cod_one : codS 1 = (2097159, 0) := by decide +kernel
set_option maxRecDepth 100000 in
set_option maxHeartbeats 400000 in
theorem awake_any (w : World) :
    Calls Try.prog 22 #[] w fun e w' => e = .returned (.bool true) ∧ w = w' := by
  have HC := Lib.hid (fun w => by have := Coded_any 1 w; rw [cod_one] at this; exact this)
  go_enter Try.func22, Try.ntmps22
  go_wp2_with fail
  refine (HC.out _).mono ?_
  rintro e w' ⟨rfl, rfl⟩
  simp only [two]
  go_wp2_with fail
  go_ret
  exact ⟨rfl, rfl⟩
end Go.Proofs.Ytidddoldkedicaa
