/- the walk of the top laws' own small check. -/
import Derived.Test.YtpccpkjfnmclfaaBase
import Derived.Test.YtpccpkjfnmclfaaSumW
import Derived.Test.YtpccpkjfnmclfaaPBytes
import Derived.Lib.SlBytesConst
namespace Go.Proofs.Ytpccpkjfnmclfaa
open Go.RowKit

theorem cod_one : codS 1 = (2097159, 0) := by decide +kernel
def nine : List UInt8 := [49, 50, 51, 52, 53, 54, 55, 56, 57]
theorem sum_nine : sumS nine = (crc nine, 0) := by unfold sumS; rw [if_neg (by decide)]
set_option maxRecDepth 100000 in
set_option maxHeartbeats 1000000 in
theorem works_any (w : World) :
    Calls Try.prog 27 #[] w fun e w' => e = .returned (.bool true) ∧ Below w.heap.size w w' := by
  have HC := Lib.hid (fun w => by have := Coded_any 1 w; rw [cod_one] at this; exact this)
  have hs : ∀ (w' : World) (C : Array Value), C = (nine.map bv).toArray → Calls Try.prog 62 #[.slice (some ⟨w'.heap.size, 0, none⟩) 9 9] (w'.alloc (.cells C 5 (9, 10))) fun e w'' => e = .returned (.tuple #[.int .i64 (crc nine), .int .i64 0]) ∧ (w'.alloc (.cells C 5 (9, 10))) = w'' := fun w' C hC => by
    have := ssum_any (some ⟨w'.heap.size, 0, none⟩) 9 nine _ (w'.alloc (.cells C 5 (9, 10))) (by decide) (Cells.fresh w' (nine.map bv) 5 (9, 10) C hC)
    rw [sum_nine] at this
    exact this
  have hp : ∀ (w' : World) (C : Array Value), C = (nine.map bv).toArray → Calls Try.prog 39 #[.slice (some ⟨w'.heap.size, 0, none⟩) 9 9] (w'.alloc (.cells C 5 (9, 10))) fun e w'' => e = .returned (.int .i64 (crc nine)) ∧ (w'.alloc (.cells C 5 (9, 10))) = w'' := fun w' C hC =>
    sum_any (some ⟨w'.heap.size, 0, none⟩) 9 nine _ (w'.alloc (.cells C 5 (9, 10))) (by decide) (Cells.fresh w' (nine.map bv) 5 (9, 10) C hC)
  have kc := fun (w : World) (C : Array Value) (n c : Nat) => Lib.run_convert_bytes_const (P := Try.prog) w 22 5 C n c Try.underlying22 Try.underlying5
  have HS := Lib.hid hs
  have HP := Lib.hid hp
  clear hs hp
  unfold twoV at HC
  generalize crc nine = N at *
  go_enter Try.func27, Try.ntmps27
  go_wp2_with fail
  refine (HC.out _).mono ?_
  rintro e w1 ⟨rfl, rfl⟩
  go_wp2_with fail
  refine (HS.out _ _ rfl).mono ?_
  rintro e w2 ⟨rfl, hw2⟩
  have hb2 : Below w.heap.size w w2 := by rw [← hw2]; exact (Below.refl _ _).alloc (Nat.le_refl _) _
  clear hw2
  go_wp2_with fail
  refine (HP.out _ _ rfl).mono ?_
  rintro e w3 ⟨rfl, rfl⟩
  go_wp2_with fail
  go_ret
  exact ⟨rfl, hb2.alloc hb2.size _⟩
end Go.Proofs.Ytpccpkjfnmclfaa
