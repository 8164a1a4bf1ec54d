/- the walk of the laws' own small check. -/
import Derived.Test.YteikggieekhfkaaAck
import Derived.Test.YteikggieekhfkaaEqual
namespace Go.Proofs.Yteikggieekhfkaa
open Go.RowKit

theorem equal_yes (A A' : Option Addr) (c c' : Nat) (l : List UInt8) (B : Nat) (w : World) (hl : l.length ≤ 9223372036854775807) (h : BR w B A l) (h' : BR w B A' l) :
    Calls Try.prog 33 #[.slice A l.length c, .slice A' l.length c'] w fun e w' => e = .returned (.bool true) ∧ Below w.heap.size w w' := by
  have := equal_any A A' c c' l l B w hl hl h h'
  simpa using this
theorem out_seven : outA 7 false true false = [7, 2] := by decide +kernel
set_option maxRecDepth 100000 in
set_option maxHeartbeats 400000 in
theorem awake_any (w : World) :
    Calls Try.prog 21 #[] w fun e w' => e = .returned (.bool true) ∧ Below w.heap.size w w' := by
  have HC := Lib.hid (fun w => by have := p_ackBytes_any 7 false true false w; rw [out_seven] at this; exact this)
  unfold ackV at HC
  go_enter Try.func21, Try.ntmps21
  go_wp2_with fail
  refine (HC.out _).mono ?_
  rintro e w1 ⟨A, c, rfl, hr, hb, -⟩
  have HE := Lib.hid (equal_yes A (some ⟨w1.heap.size, 0, none⟩) c 2 [7, 2] (w1.heap.size + 1) (w1.alloc (.cells #[.int .u8 7, .int .u8 2] 5)) (by simp) ((hr.below ((Below.refl _ _).alloc (Nat.le_refl _) _)).lift (by omega)) (by have := lit_two w1 7 2 7 2 rfl rfl 5; rw [World.size_alloc] at this; exact this))
  have hl : ([7, 2] : List UInt8).length = 2 := rfl
  rw [hl] at HE ⊢
  have b1 := hb.size
  go_wp2_with fail
  refine HE.out.mono ?_
  rintro e w2 ⟨rfl, hb2⟩
  go_wp2_with fail
  go_ret
  refine ⟨rfl, (hb.alloc b1 _).trans (hb2.mono (by simp; omega))⟩
end Go.Proofs.Yteikggieekhfkaa
