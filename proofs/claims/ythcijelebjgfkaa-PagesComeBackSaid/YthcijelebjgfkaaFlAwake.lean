/- the small check of stage 4's laws. -/
import Derived.Test.YthcijelebjgfkaaSumW
import Derived.Lib.SlBytesConst
namespace Go.Proofs.Ythcijelebjgfkaa
open Go.RowKit

def nine : List UInt8 := [49, 50, 51, 52, 53, 54, 55, 56, 57]
theorem crc_nine : crc nine = 10673 := by decide +kernel
theorem sum_nine : sumS nine = (10673, 0) := by unfold sumS; rw [if_neg (by decide), crc_nine]
set_option maxRecDepth 100000 in
set_option maxHeartbeats 1000000 in
theorem flAwake_any (w : World) :
    Calls Try.prog 16 #[] w fun e w' => e = .returned (.bool true) ∧ Below w.heap.size w w' := by
  have hs : ∀ (w' : World) (C : Array Value), C = (nine.map bv).toArray → Calls Try.prog 13 #[.slice (some ⟨w'.heap.size, 0, none⟩) 9 9] (w'.alloc (.cells C 5 (9, 10))) fun e w'' => e = .returned (.tuple #[.int .i64 10673, .int .i64 0]) ∧ (w'.alloc (.cells C 5 (9, 10))) = w'' := fun w' C hC => by
    have := ssum_any (some ⟨w'.heap.size, 0, none⟩) 9 nine _ (w'.alloc (.cells C 5 (9, 10))) (by decide) (Cells.fresh w' (nine.map bv) 5 (9, 10) C hC)
    rw [sum_nine] at this
    exact this
  have kc := fun (w : World) (C : Array Value) (n c : Nat) => Lib.run_convert_bytes_const (P := Try.prog) w 22 5 C n c Try.underlying22 Try.underlying5
  have HS := Lib.hid hs
  clear hs
  go_enter Try.func16, Try.ntmps16
  go_wp2_with fail
  refine (HS.out _ _ rfl).mono ?_
  rintro e w2 ⟨rfl, hw2⟩
  have hb2 : Below w.heap.size w w2 := by rw [← hw2]; exact (Below.refl _ _).alloc (Nat.le_refl _) _
  clear hw2
  go_wp2
  go_ret
  exact ⟨rfl, hb2⟩
end Go.Proofs.Ythcijelebjgfkaa
