/- the walk of the laws' own small check. -/
import Derived.Test.YtpccpkjfnmclfaaRTurn
import Derived.Test.YtpccpkjfnmclfaaEqualI
namespace Go.Proofs.Ytpccpkjfnmclfaa
open Go.RowKit

theorem turned_awake : turned stepR [19] 4 = ([3], 0) := by decide +kernel

set_option maxRecDepth 100000 in
set_option maxHeartbeats 400000 in
theorem awake_any (w : World) :
    Calls Try.prog 18 #[] w fun e w' => e = .returned (.bool true) ∧ Below w.heap.size w w' := by
  have hs := fun C (hC : C = ([19].map iv).toArray) => rolled_any (some ⟨w.heap.size, 0, none⟩) 1 [19] 4 (w.alloc (.cells C 3)) (by decide) (by have := Cells.fresh w ([19].map iv) 3 (0, 0) C hC; simpa [IR] using this)
  rw [turned_awake] at hs
  have HS := Lib.hid hs
  clear hs
  go_enter Try.func18, Try.ntmps18
  go_wp2_with fail
  refine (HS.out _ rfl).mono ?_
  rintro e w' ⟨v, rfl, hown, hb⟩
  obtain ⟨ad, c, rfl, hc⟩ := hown.get 0 (by simp)
  simp only [List.getElem_cons_zero, addr_zero] at hc
  go_wp2_with fail
  go_ret
  exact ⟨rfl, ((Below.refl _ _).alloc (Nat.le_refl _) _).trans (hb.mono (by simp))⟩
end Go.Proofs.Ytpccpkjfnmclfaa
