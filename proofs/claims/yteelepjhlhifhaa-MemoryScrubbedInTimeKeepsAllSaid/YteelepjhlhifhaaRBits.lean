/- the walks of the reference's marks, parities and codes. -/
import Derived.Test.YteelepjhlhifhaaBase
import Derived.Test.YteelepjhlhifhaaRMath
namespace Go.Proofs.Yteelepjhlhifhaa
open Go.RowKit

set_option maxRecDepth 100000 in
set_option maxHeartbeats 400000 in
theorem has_any (c k : Nat) (hc : c < 4194304) (hk : k < 22) (z : Int) (hz : Hid (z = (k : Int) + 1)) (w : World) :
    Calls Try.prog 118 #[.int .i64 (c : Int), .int .i64 z] w fun e w' => e = .returned (.bool (decide (bitN c k = 1))) ∧ w = w' := by
  obtain rfl : z = (k : Int) + 1 := hz
  have hb := and_bit c k hc
  have hl := bit_lt c k
  generalize bitN c k = b at *
  go_enter Try.func118, Try.ntmps118
  go_wp2
  go_ret
  refine ⟨ret_bool ?_, rfl⟩
  rcases (by omega : b = 0 ∨ b = 1) with rfl | rfl <;> rfl
theorem chk_bits : ∀ j, j < 21 → decide (((j + 1 &&& j : Nat) : Int) = 0) = chk j := by decide +kernel
set_option maxRecDepth 100000 in
set_option maxHeartbeats 400000 in
theorem isCheck_any (j : Nat) (hj : j < 21) (z : Int) (hz : Hid (z = (j : Int) + 1)) (w : World) :
    Calls Try.prog 117 #[.int .i64 z] w fun e w' => e = .returned (.bool (chk j)) ∧ w = w' := by
  obtain rfl : z = (j : Int) + 1 := hz
  have hb := and64 (j + 1) j (by omega) (by omega)
  have hc := chk_bits j hj
  have HC := Lib.hid hc
  clear hc
  rw [Int.natCast_add, Int.cast_ofNat_Int] at hb
  go_enter Try.func117, Try.ntmps117
  go_wp2
  go_ret
  refine ⟨ret_bool ?_, rfl⟩
  rw [← HC.out]
  rfl
set_option maxRecDepth 100000 in
set_option maxHeartbeats 1000000 in
theorem rmark_any (c : Nat) (hc : c < 4194304) (w : World) :
    Calls Try.prog 124 #[.int .i64 (c : Int)] w fun e w' => e = .returned (.int .i64 ((markTo c 21 : Nat) : Int)) ∧ w = w' := by
  go_enter Try.func124, Try.ntmps124
  go_wp2
  go_loop [3, 4] (fun m i => ∃ k : Nat, k ≤ 21 ∧ i = .int .i64 ((k : Int) + 1) ∧ m = .int .i64 ((markTo c k : Nat) : Int)) (fun _ i => 23 - (intOf i).toNat)
  case atStart => exact ⟨0, by omega, rfl, rfl⟩
  case round =>
    obtain ⟨k, hk, rfl, rfl⟩ := hrel
    by_cases hlt : k < 21
    · have HB := Lib.hid (has_any c k hc (by omega) ((k : Int) + 1) (Lib.hid rfl))
      have hml := mark_lt c k hk
      have HS := Lib.hid (show markTo c (k + 1) = if bitN c k = 1 then markTo c k ^^^ (k + 1) else markTo c k from rfl)
      have hx := xor64 (markTo c k) (k + 1) (by omega) (by omega)
      have HX := Lib.hid hx
      clear hx
      generalize markTo c k = M at *
      by_cases h1 : bitN c k = 1
      · rw [if_pos h1] at HS
        simp only [h1, decide_true] at HB
        clear h1
        go_wp2_with (first | (go_at_call 118; refine (HB.out _).mono ?_; rintro e w' ⟨rfl, rfl⟩) | fail)
        go_round
        case rel => exact ⟨k + 1, by omega, by go_num, by rw [HS.out]; exact congrArg _ HX.out⟩
        case measure => simp [intOf]; omega
      · rw [if_neg h1] at HS
        simp only [h1, decide_false] at HB
        clear h1 HX
        go_wp2_with (first | (go_at_call 118; refine (HB.out _).mono ?_; rintro e w' ⟨rfl, rfl⟩) | fail)
        go_round
        case rel => exact ⟨k + 1, by omega, by go_num, by rw [HS.out]⟩
        case measure => simp [intOf]; omega
    · obtain rfl : k = 21 := by omega
      go_wp2
      go_ret
      exact ⟨rfl, rfl⟩
set_option maxRecDepth 100000 in
set_option maxHeartbeats 1000000 in
theorem rodd_any (c : Nat) (hc : c < 4194304) (w : World) :
    Calls Try.prog 125 #[.int .i64 (c : Int)] w fun e w' => e = .returned (.bool (oddTo c 22)) ∧ w = w' := by
  go_enter Try.func125, Try.ntmps125
  go_wp2
  go_loop [3, 4] (fun m i => ∃ k : Nat, k ≤ 22 ∧ i = .int .i64 ((k : Int) + 1) ∧ m = .bool (oddTo c k)) (fun _ i => 24 - (intOf i).toNat)
  case atStart => exact ⟨0, by omega, rfl, rfl⟩
  case round =>
    obtain ⟨k, hk, rfl, rfl⟩ := hrel
    by_cases hlt : k < 22
    · have HB := Lib.hid (has_any c k hc (by omega) ((k : Int) + 1) (Lib.hid rfl))
      have HS := Lib.hid (show oddTo c (k + 1) = (oddTo c k != decide (bitN c k = 1)) from rfl)
      generalize oddTo c k = M at *
      generalize decide (bitN c k = 1) = D at *
      cases M <;> cases D
      all_goals
        go_wp2_with (first | (go_at_call 118; refine (HB.out _).mono ?_; rintro e w' ⟨rfl, rfl⟩) | fail)
        go_round
        case rel => exact ⟨k + 1, by omega, by go_num, by rw [HS.out]; rfl⟩
        case measure => simp [intOf]; omega
    · obtain rfl : k = 22 := by omega
      go_wp2
      go_ret
      exact ⟨rfl, rfl⟩
end Go.Proofs.Yteelepjhlhifhaa
