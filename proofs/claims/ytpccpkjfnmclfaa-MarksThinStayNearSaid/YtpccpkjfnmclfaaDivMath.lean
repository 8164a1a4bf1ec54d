/- plain mathematics of a division of 128 bits by 64, digit by digit. -/
import Derived.WalkKit
namespace Go.Proofs.Ytpccpkjfnmclfaa

/-- what holds at the head of a digit's loop: V is what the digit is of, y the divisor in two halves -/
def DigitAt (u u1 y1 y0 q r : Nat) : Prop := q * y1 + r = u ∧ r < 4294967296 ∧ (u * 4294967296 + u1) / (y1 * 4294967296 + y0) ≤ q ∧ q ≤ 4294967297
theorem digit_start {u u1 y1 y0 : Nat} (hy1 : 2147483648 ≤ y1) (hy1' : y1 < 4294967296) (hy0 : y0 < 4294967296) (hu : u < y1 * 4294967296 + y0) (hu1 : u1 < 4294967296) : DigitAt u u1 y1 y0 (u / y1) (u % y1) := by
  have h1 := Nat.div_add_mod u y1
  have h2 := Nat.mod_lt u (show 0 < y1 by omega)
  have h3 : u / y1 ≤ 4294967297 := by
    have : u / y1 < 4294967298 := (Nat.div_lt_iff_lt_mul (by omega)).2 (by omega)
    omega
  refine ⟨by rw [Nat.mul_comm]; exact h1, by omega, ?_, h3⟩
  generalize u / y1 = q at *
  generalize u % y1 = r at *
  have : (u * 4294967296 + u1) / (y1 * 4294967296 + y0) < q + 1 := by
    rw [Nat.div_lt_iff_lt_mul (by omega), ← h1]
    have : y1 * q * 4294967296 = q * (y1 * 4294967296) := by rw [Nat.mul_comm y1 q, Nat.mul_assoc]
    rw [Nat.add_mul (y1 * q) r, this, Nat.add_mul q 1, Nat.mul_add q]
    omega
  omega
theorem digit_end {u u1 y1 y0 q r : Nat} (hy1 : 2147483648 ≤ y1) (h : DigitAt u u1 y1 y0 q r) (h2 : q * y0 ≤ 4294967296 * r + u1) : q = (u * 4294967296 + u1) / (y1 * 4294967296 + y0) := by
  obtain ⟨a, b, c, d⟩ := h
  refine Nat.le_antisymm ?_ c
  rw [Nat.le_div_iff_mul_le (by omega), Nat.mul_add, ← Nat.mul_assoc, ← a]
  omega
theorem digit_less {u u1 y1 y0 q r : Nat} (hy1 : 2147483648 ≤ y1) (hu : u < y1 * 4294967296 + y0) (hu1 : u1 < 4294967296) (h : DigitAt u u1 y1 y0 q r) (h2 : 4294967296 ≤ q ∨ 4294967296 * r + u1 < q * y0) : 1 ≤ q ∧ (u * 4294967296 + u1) / (y1 * 4294967296 + y0) ≤ q - 1 ∧ (q - 1) * y1 + (r + y1) = u := by
  obtain ⟨a, b, c, d⟩ := h
  have hq : 1 ≤ q := by
    rcases h2 with h | h
    · omega
    · rcases Nat.eq_zero_or_pos q with e | e
      · subst e; omega
      · exact e
  refine ⟨hq, ?_, ?_⟩
  · have : (u * 4294967296 + u1) / (y1 * 4294967296 + y0) < q := by
      rcases h2 with h | h
      · refine Nat.lt_of_lt_of_le ?_ h
        rw [Nat.div_lt_iff_lt_mul (by omega)]
        omega
      · rw [Nat.div_lt_iff_lt_mul (by omega), Nat.mul_add, ← Nat.mul_assoc, ← a]
        omega
    omega
  · obtain ⟨p, rfl⟩ : ∃ p, q = p + 1 := ⟨q - 1, by omega⟩
    rw [Nat.add_mul] at a
    simp only [Nat.add_sub_cancel]
    omega
theorem digit_next {u u1 y1 y0 q r : Nat} (hy1 : 2147483648 ≤ y1) (hu : u < y1 * 4294967296 + y0) (hu1 : u1 < 4294967296) (h : DigitAt u u1 y1 y0 q r) (h2 : 4294967296 ≤ q ∨ 4294967296 * r + u1 < q * y0) (h3 : r + y1 < 4294967296) : DigitAt u u1 y1 y0 (q - 1) (r + y1) := by
  obtain ⟨a, b, c⟩ := digit_less hy1 hu hu1 h h2
  exact ⟨c, h3, b, by have := h.2.2.2; omega⟩
theorem digit_break {u u1 y1 y0 q r : Nat} (hy1 : 2147483648 ≤ y1) (hy0 : y0 < 4294967296) (hu : u < y1 * 4294967296 + y0) (hu1 : u1 < 4294967296) (h : DigitAt u u1 y1 y0 q r) (h2 : 4294967296 ≤ q ∨ 4294967296 * r + u1 < q * y0) (h3 : 4294967296 ≤ r + y1) : q - 1 = (u * 4294967296 + u1) / (y1 * 4294967296 + y0) := by
  obtain ⟨a, b, c⟩ := digit_less hy1 hu hu1 h h2
  refine Nat.le_antisymm ?_ b
  have hq := h.2.2.2
  have : (q - 1) * y0 ≤ 4294967296 * (r + y1) := by
    calc (q - 1) * y0 ≤ 4294967296 * y0 := Nat.mul_le_mul_right _ (by omega)
      _ ≤ 4294967296 * (r + y1) := Nat.mul_le_mul_left _ (by omega)
  rw [Nat.le_div_iff_mul_le (by omega), Nat.mul_add, ← Nat.mul_assoc, ← c]
  omega
/-- no number of the loop outgrows 64 bits -/
theorem digit_small {u u1 y1 y0 q r : Nat} (hy0 : y0 < 4294967296) (hu1 : u1 < 4294967296) (h : DigitAt u u1 y1 y0 q r) : q * y0 < 18446744073709551616 ∧ 4294967296 * r + u1 < 18446744073709551616 := by
  obtain ⟨a, b, c, d⟩ := h
  refine ⟨?_, by omega⟩
  have : q * y0 ≤ 4294967297 * 4294967295 := Nat.mul_le_mul d (by omega)
  omega
/-- the digit is below a half's round -/
theorem digit_lt {u u1 y1 y0 : Nat} (hy1 : 2147483648 ≤ y1) (hu : u < y1 * 4294967296 + y0) (hu1 : u1 < 4294967296) : (u * 4294967296 + u1) / (y1 * 4294967296 + y0) < 4294967296 := by
  rw [Nat.div_lt_iff_lt_mul (by omega)]
  omega
/-- what is left behind a digit, reckoned around 64 bits -/
theorem digit_rest {u u1 y q : Nat} (hy : 0 < y) (hy' : y < 18446744073709551616) (hq : q = (u * 4294967296 + u1) / y) :
    (((u : Int) * 4294967296 % 18446744073709551616 + (u1 : Int)) % 18446744073709551616 - (q : Int) * y % 18446744073709551616) % 18446744073709551616 = (((u * 4294967296 + u1) % y : Nat) : Int) := by
  have h1 := Nat.div_add_mod (u * 4294967296 + u1) y
  have h2 := Nat.mod_lt (u * 4294967296 + u1) hy
  rw [← hq] at h1
  generalize (u * 4294967296 + u1) % y = r at *
  have e : (u : Int) * 4294967296 + u1 - q * y = r := by
    have : ((y * q + r : Nat) : Int) = ((u * 4294967296 + u1 : Nat) : Int) := by rw [h1]
    rw [Int.natCast_add, Int.natCast_mul, Int.natCast_add, Int.natCast_mul] at this
    rw [Int.mul_comm (q : Int)]
    omega
  generalize (q : Int) * y = m at *
  omega
/-- both digits together: U divided first, then what is left of it with c behind it -/
theorem two_digits (U b c y : Nat) (hy : 0 < y) : (U * b + c) / y = U / y * b + (U % y * b + c) / y ∧ (U * b + c) % y = (U % y * b + c) % y := by
  have h1 := Nat.div_add_mod U y
  have e : U * b + c = (U % y * b + c) + y * (U / y * b) := by
    rw [← Nat.mul_assoc]
    conv => lhs; rw [← h1, Nat.add_mul]
    omega
  constructor
  · conv => lhs; rw [e, Nat.add_mul_div_left _ _ hy]
    omega
  · conv => lhs; rw [e, Nat.add_mul_mod_self_left]
/-- by a number shifted so that its uppermost bit is set -/
theorem norm_div (N y s : Nat) (hy : 0 < y) : N * 2 ^ s / (y * 2 ^ s) = N / y ∧ N * 2 ^ s % (y * 2 ^ s) / 2 ^ s = N % y := by
  have h2 : 0 < 2 ^ s := Nat.pos_of_ne_zero (by simp)
  constructor
  · rw [Nat.mul_div_mul_right _ _ h2]
  · rw [Nat.mul_mod_mul_right, Nat.mul_div_cancel _ h2]
end Go.Proofs.Ytpccpkjfnmclfaa
