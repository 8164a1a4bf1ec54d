/- the walk of the law's own small check. -/
import Derived.Test.YtaajphmjfebbaaaSum
import Derived.RegionTactic
import Derived.Deep.QuietTactic
import Derived.BigQuiet
import Derived.Lib.SlBytesConst
namespace Go.Proofs.Ytaajphmjfebbaaa
open Go.RowKit

def nine : List UInt8 := [49, 50, 51, 52, 53, 54, 55, 56, 57]
theorem crc_nine : crc nine = 10673 := by decide +kernel

theorem BR.fresh (w : World) (l : List UInt8) (t : TypeId) (z : Nat × Nat) (C : Array Value) (hC : C = (l.map bv).toArray) : BR (w.alloc (.cells C t z)) (w.heap.size + 1) (some ⟨w.heap.size, 0, none⟩) l :=
  Cells.fresh w _ t z C hC

set_option maxRecDepth 100000 in
set_option maxHeartbeats 400000 in
theorem awake_any (w : World) :
    Calls Try.prog 13 #[] w fun e w' => e = .returned (.bool true) ∧ Below w.heap.size w w' := by
  have kc := fun (w : World) (C : Array Value) (n c : Nat) => Lib.run_convert_bytes_const (P := Try.prog) w 22 5 C n c Try.underlying22 Try.underlying5
  have hs := fun C hC => sum_any (some ⟨w.heap.size, 0, none⟩) 9 nine _ _ (by decide) (BR.fresh w nine 5 (9, 10) C hC)
  have HS := Lib.hid hs
  clear hs
  rw [crc_nine] at HS
  go_enter Try.func13, Try.ntmps13
  go_wp2_with (refine (HS.out _ rfl).mono ?_; rintro e w' ⟨rfl, rfl⟩)
  go_ret
  exact ⟨rfl, (Below.refl _ _).alloc (Nat.le_refl _) _⟩
end Go.Proofs.Ytaajphmjfebbaaa
