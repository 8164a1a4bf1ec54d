/- the walks of the program's parity, mark, flip and word. -/
import Derived.Test.YtidddoldkedicaaPopMath
import Derived.Test.YtidddoldkedicaaWords
import Derived.WalkKit
import Derived.Outline
import Derived.Laws.BitsAllLaws
import Derived.Lib.Hide
namespace Go.Proofs.Ytidddoldkedicaa
open Go.RowKit

theorem of64 (a : Nat) (ha : a < 9223372036854775808) : (BitVec.ofInt IntKind.i64.bits (a : Int)).toNat = a := by
  show (BitVec.ofInt 64 (a : Int)).toNat = a
  rw [BitVec.ofInt_natCast, BitVec.toNat_ofNat]; exact Nat.mod_eq_of_lt (by omega)
theorem and64 (a b : Nat) (ha : a < 9223372036854775808) (hb : b < 9223372036854775808) : bits .and .i64 (a : Int) (b : Int) = ((a &&& b : Nat) : Int) := by
  have hx : a &&& b < 2 ^ 63 := Nat.and_lt_two_pow _ (by omega)
  have e : (BitVec.ofInt IntKind.i64.bits (a : Int) &&& BitVec.ofInt IntKind.i64.bits (b : Int)).toNat = a &&& b := by rw [BitVec.toNat_and, of64 a ha, of64 b hb]
  unfold bits
  simp only [e]
  exact IntWalk.i64_in _ (by omega)
theorem or64 (a b : Nat) (ha : a < 9223372036854775808) (hb : b < 9223372036854775808) : bits .or .i64 (a : Int) (b : Int) = ((a ||| b : Nat) : Int) := by
  have hx : a ||| b < 2 ^ 63 := Nat.or_lt_two_pow (by omega) (by omega)
  have e : (BitVec.ofInt IntKind.i64.bits (a : Int) ||| BitVec.ofInt IntKind.i64.bits (b : Int)).toNat = a ||| b := by rw [BitVec.toNat_or, of64 a ha, of64 b hb]
  unfold bits
  simp only [e]
  exact IntWalk.i64_in _ (by omega)
theorem xor64 (a b : Nat) (ha : a < 9223372036854775808) (hb : b < 9223372036854775808) : bits .xor .i64 (a : Int) (b : Int) = ((a ^^^ b : Nat) : Int) := by
  have hx : a ^^^ b < 2 ^ 63 := Nat.xor_lt_two_pow (by omega) (by omega)
  have e : (BitVec.ofInt IntKind.i64.bits (a : Int) ^^^ BitVec.ofInt IntKind.i64.bits (b : Int)).toNat = a ^^^ b := by rw [BitVec.toNat_xor, of64 a ha, of64 b hb]
  unfold bits
  simp only [e]
  exact IntWalk.i64_in _ (by omega)

theorem wu64 (a : Nat) (ha : a < 18446744073709551616) : IntKind.u64.wrap (a : Int) = (a : Int) := by rw [IntKind.wrap_u64]; omega
theorem half_le (s m x : Nat) : halfN s m x ≤ 2 * x := by
  unfold halfN
  have h1 : x / s &&& m ≤ x / s := Nat.and_le_left
  have h2 : x &&& m ≤ x := Nat.and_le_left
  have h3 : x / s ≤ x := Nat.div_le_self _ _
  omega
theorem halfU (s m x : Nat) (hm : m < 18446744073709551616) (hx : x < 4294967296) :
    IntKind.u64.wrap (bits .and .u64 ((x : Int) / (s : Int)) (m : Int) + bits .and .u64 (x : Int) (m : Int)) = ((halfN s m x : Nat) : Int) := by
  have h3 : x / s ≤ x := Nat.div_le_self _ _
  have h := half_le s m x
  rw [← Int.natCast_ediv, u64_and_nat _ _ (by omega) hm, u64_and_nat _ _ (by omega) hm, ← Int.natCast_add]
  exact wu64 _ (by unfold halfN at h; omega)
theorem foldU (m x : Nat) (hm : m < 18446744073709551616) (hx : x < 4294967296) :
    bits .and .u64 (IntKind.u64.wrap ((x : Int) / 16 + (x : Int))) (m : Int) = ((foldN m x : Nat) : Int) := by
  rw [show (x : Int) / 16 + (x : Int) = ((x / 16 + x : Nat) : Int) by omega, wu64 _ (by omega), u64_and_nat _ _ (by omega) hm]
  rfl
theorem fold_le (m x : Nat) : foldN m x ≤ 2 * x := by
  unfold foldN
  have h1 : (x / 16 + x) &&& m ≤ x / 16 + x := Nat.and_le_left
  omega
set_option maxRecDepth 100000 in
set_option maxHeartbeats 1000000 in
theorem ones64_any (c : Nat) (hc : c < 4194304) (w : World) :
    Calls Try.prog 85 #[.int .u64 (c : Int)] w fun e w' => e = .returned (.int .i64 ((popN c : Nat) : Int)) ∧ w = w' := by
  go_enter Try.func85, Try.ntmps85
  go_wp2
  go_ret
  refine ⟨ret_int ?_, rfl⟩
  have e1 := halfU 2 6148914691236517205 c (by omega) (by omega)
  have l1 := half_le 2 6148914691236517205 c
  have e2 := halfU 4 3689348814741910323 (halfN 2 6148914691236517205 c) (by omega) (by omega)
  have l2 := half_le 4 3689348814741910323 (halfN 2 6148914691236517205 c)
  have e3 := foldU 1085102592571150095 (halfN 4 3689348814741910323 (halfN 2 6148914691236517205 c)) (by omega) (by omega)
  have l3 := fold_le 1085102592571150095 (halfN 4 3689348814741910323 (halfN 2 6148914691236517205 c))
  simp only [Int.cast_ofNat_Int] at e1 e2 e3
  unfold popN
  rw [e1, e2, e3]
  generalize foldN 1085102592571150095 (halfN 4 3689348814741910323 (halfN 2 6148914691236517205 c)) = x at *
  have a1 : IntKind.u64.wrap ((x : Int) + (x : Int) / 256) = ((popX x : Nat) : Int) := by
    rw [show (x : Int) + (x : Int) / 256 = ((popX x : Nat) : Int) by unfold popX; omega]; exact wu64 _ (by unfold popX; omega)
  rw [a1]
  have l4 : popX x < 4294967296 := by unfold popX; omega
  generalize popX x = y at *
  have a2 : IntKind.u64.wrap ((y : Int) + (y : Int) / 65536) = ((popY y : Nat) : Int) := by
    rw [show (y : Int) + (y : Int) / 65536 = ((popY y : Nat) : Int) by unfold popY; omega]; exact wu64 _ (by unfold popY; omega)
  rw [a2]
  have l5 : popY y < 8589934592 := by unfold popY; omega
  generalize popY y = z at *
  have a3 : IntKind.u64.wrap ((z : Int) + (z : Int) / 4294967296) = ((popZ z : Nat) : Int) := by
    rw [show (z : Int) + (z : Int) / 4294967296 = ((popZ z : Nat) : Int) by unfold popZ; omega]; exact wu64 _ (by unfold popZ; omega)
  have l6 : popZ z < 17179869184 := by unfold popZ; omega
  rw [a3]
  generalize popZ z = u at *
  rw [IntWalk.wrap64_in _ ⟨by omega, by omega⟩]
  exact and64 u 127 (by omega) (by omega)
set_option maxRecDepth 100000 in
set_option maxHeartbeats 400000 in
theorem ones_any (c : Nat) (hc : c < 4194304) (w : World) :
    Calls Try.prog 83 #[.int .u64 (c : Int)] w fun e w' => e = .returned (.int .i64 ((popN c : Nat) : Int)) ∧ w = w' := by
  have H := Lib.hid (ones64_any c hc w)
  go_enter Try.func83, Try.ntmps83
  go_wp2_with fail
  refine H.out.mono ?_
  rintro e w' ⟨rfl, rfl⟩
  go_wp2_with fail
  go_ret
  exact ⟨rfl, rfl⟩
theorem pop_le (c : Nat) : popN c ≤ 127 := by
  unfold popN
  rw [and127]
  omega
set_option maxRecDepth 100000 in
set_option maxHeartbeats 400000 in
theorem odd_any (c : Nat) (hc : c < 4194304) (w : World) :
    Calls Try.prog 76 #[.int .i64 (c : Int)] w fun e w' => e = .returned (.bool (oddTo c 22)) ∧ w = w' := by
  have H := Lib.hid (ones_any c hc w)
  have hp := pop_le c
  have HO := Lib.hid (odd_pop c hc)
  generalize popN c = p at *
  go_enter Try.func76, Try.ntmps76
  go_wp2_with fail
  refine H.out.mono ?_
  rintro e w' ⟨rfl, rfl⟩
  go_wp2_with fail
  go_ret
  refine ⟨ret_bool ?_, rfl⟩
  rw [HO.out]
  have e : (p : Int) % 2 = ((p % 2 : Nat) : Int) := by omega
  rw [e]
  rcases Nat.mod_two_eq_zero_or_one p with h | h <;> rw [h] <;> rfl
theorem wpow (b : Nat) (hb : b < 62) : wrap64 ((2 : Int) ^ b) = ((2 ^ b : Nat) : Int) := by
  have hp : 2 ^ b < 2 ^ 62 := Nat.pow_lt_pow_right (by omega) hb
  rw [show ((2 : Int) ^ b) = ((2 ^ b : Nat) : Int) by simp]
  generalize 2 ^ b = P at *
  exact IntWalk.wrap64_in _ ⟨by omega, by omega⟩
set_option maxRecDepth 100000 in
set_option maxHeartbeats 400000 in
theorem flipped_any (c b : Nat) (hc : c < 4194304) (hb : b < 22) (z : Int) (hz : Hid (z = (b : Int) + 1)) (w : World) :
    Calls Try.prog 55 #[.int .i64 (c : Int), .int .i64 z] w fun e w' => e = .returned (.int .i64 ((c ^^^ 2 ^ b : Nat) : Int)) ∧ w = w' := by
  obtain rfl : z = (b : Int) + 1 := hz
  have hp : 2 ^ b < 2 ^ 22 := Nat.pow_lt_pow_right (by omega) hb
  have hx := xor64 c (2 ^ b) (by omega) (by omega)
  have hw := wpow b (by omega)
  go_enter Try.func55, Try.ntmps55
  go_wp2
  go_ret
  exact ⟨ret_int (by rw [show ((2 : Int) ^ b) = ((2 ^ b : Nat) : Int) by simp]; exact hx), rfl⟩

theorem shr_nat (c k : Nat) : (c : Int) / 2 ^ k = ((c / 2 ^ k : Nat) : Int) := by simp
theorem and_one (x : Nat) (hx : x < 4194304) : bits .and .i64 (x : Int) 1 = ((x % 2 : Nat) : Int) := by
  have := and64 x 1 (by omega) (by omega)
  rw [Nat.and_one_is_mod] at this
  exact this
theorem and_bit (c k : Nat) (hc : c < 4194304) : bits .and .i64 ((c : Int) / 2 ^ k) 1 = ((bitN c k : Nat) : Int) := by
  rw [shr_nat]
  exact and_one _ (Nat.lt_of_le_of_lt (Nat.div_le_self _ _) hc)
set_option maxRecDepth 100000 in
set_option maxHeartbeats 1000000 in
theorem mark_any (c : Nat) (hc : c < 4194304) (w : World) :
    Calls Try.prog 75 #[.int .i64 (c : Int)] w fun e w' => e = .returned (.int .i64 ((markTo c 21 : Nat) : Int)) ∧ w = w' := by
  go_enter Try.func75, Try.ntmps75
  go_wp2
  go_loop [3, 4] (fun m i => ∃ k : Nat, k ≤ 21 ∧ i = .int .i64 ((k : Int) + 1) ∧ m = .int .i64 ((markTo c k : Nat) : Int)) (fun _ i => 23 - (intOf i).toNat)
  case atStart => exact ⟨0, by omega, rfl, rfl⟩
  case round =>
    obtain ⟨k, hk, rfl, rfl⟩ := hrel
    by_cases hlt : k < 21
    · have hb := and_bit c k hc
      have hml := mark_lt c k hk
      have HS := Lib.hid (show markTo c (k + 1) = if bitN c k = 1 then markTo c k ^^^ (k + 1) else markTo c k from rfl)
      have hx := xor64 (markTo c k) (k + 1) (by omega) (by omega)
      generalize markTo c k = M at *
      by_cases h1 : bitN c k = 1
      · rw [if_pos h1] at HS
        rw [h1] at hb
        have HX := Lib.hid hx
        clear hx h1
        go_wp2
        go_round
        case rel => exact ⟨k + 1, by omega, by go_num, by rw [HS.out]; exact congrArg _ HX.out⟩
        case measure => simp [intOf]; omega
      · rw [if_neg h1] at HS
        have h0 : bitN c k = 0 := by have := bit_lt c k; omega
        rw [h0] at hb
        clear hx h1 h0
        go_wp2
        go_round
        case rel => exact ⟨k + 1, by omega, by go_num, by rw [HS.out]⟩
        case measure => simp [intOf]; omega
    · obtain rfl : k = 21 := by omega
      go_wp2
      go_ret
      exact ⟨rfl, rfl⟩
end Go.Proofs.Ytidddoldkedicaa
