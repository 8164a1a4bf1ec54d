/- plain mathematics: a divisor shifted until its uppermost bit is set; halves of 64 bits. -/
import Derived.Test.YtpccpkjfnmclfaaDivMath
import Derived.Lib.BitFns
namespace Go.Proofs.Ytpccpkjfnmclfaa

theorem bitLen_zero : Lib.bitLen 0 = 0 := by decide +kernel
theorem bitLen_bd : ∀ (n y : Nat), y < 2 ^ n → n ≤ 64 → 0 < y → 1 ≤ Lib.bitLen y ∧ Lib.bitLen y ≤ n ∧ 2 ^ (Lib.bitLen y - 1) ≤ y ∧ y < 2 ^ Lib.bitLen y
  | 0, y, h, _, h0 => by simp at h; omega
  | n + 1, y, h, hn, h0 => by
    have h64 : y < 2 ^ 64 := Nat.lt_of_lt_of_le h (Nat.pow_le_pow_right (by omega) hn)
    rw [Lib.bitLen_half y (by omega) h64]
    rcases Nat.eq_zero_or_pos (y / 2) with e | e
    · rw [e, bitLen_zero]
      have : y = 1 := by omega
      subst this
      exact ⟨by omega, by omega, by decide, by decide⟩
    · obtain ⟨a, b, c, d⟩ := bitLen_bd n (y / 2) (by rw [Nat.pow_succ] at h; omega) (by omega) e
      refine ⟨by omega, by omega, ?_, ?_⟩
      · obtain ⟨m, hm⟩ : ∃ m, Lib.bitLen (y / 2) = m + 1 := ⟨_, (Nat.sub_add_cancel a).symm⟩
        rw [hm] at c ⊢
        rw [show 1 + (m + 1) - 1 = m + 1 by omega, Nat.pow_succ]
        simp only [Nat.add_sub_cancel] at c
        omega
      · rw [Nat.add_comm, Nat.pow_succ]
        omega
/-- how far y is shifted -/
def lead (y : Nat) : Nat := 64 - Lib.bitLen y
theorem lead_bd (y : Nat) (h0 : 0 < y) (h : y < 18446744073709551616) : lead y ≤ 63 ∧ Lib.bitLen y = 64 - lead y ∧ 9223372036854775808 ≤ y * 2 ^ lead y ∧ y * 2 ^ lead y < 18446744073709551616 := by
  obtain ⟨a, b, c, d⟩ := bitLen_bd 64 y (by simpa using h) (by omega) h0
  unfold lead
  have e : (2 : Nat) ^ (Lib.bitLen y - 1) * 2 ^ (64 - Lib.bitLen y) = 9223372036854775808 := by
    rw [← Nat.pow_add, show Lib.bitLen y - 1 + (64 - Lib.bitLen y) = 63 by omega]
  have e' : (2 : Nat) ^ (Lib.bitLen y) * 2 ^ (64 - Lib.bitLen y) = 18446744073709551616 := by
    rw [← Nat.pow_add, show Lib.bitLen y + (64 - Lib.bitLen y) = 64 by omega]
  refine ⟨by omega, by omega, ?_, ?_⟩
  · rw [← e]
    exact Nat.mul_le_mul_right _ c
  · rw [← e']
    exact Nat.mul_lt_mul_of_pos_right d (Nat.pos_of_ne_zero (by simp))
/-- 128 bits shifted: the upper 64 and the lower 64 -/
theorem shift_128 (hi lo s : Nat) (hs : s ≤ 64) (hlo : lo < 18446744073709551616) :
    (hi * 2 ^ s + lo / 2 ^ (64 - s)) * 18446744073709551616 + lo * 2 ^ s % 18446744073709551616 = (hi * 18446744073709551616 + lo) * 2 ^ s := by
  have e : (2 : Nat) ^ (64 - s) * 2 ^ s = 18446744073709551616 := by rw [← Nat.pow_add, show 64 - s + s = 64 by omega]
  have hp : 0 < (2 : Nat) ^ s := Nat.pos_of_ne_zero (by simp)
  have h1 : lo * 2 ^ s / 18446744073709551616 = lo / 2 ^ (64 - s) := by rw [← e, Nat.mul_div_mul_right _ _ hp]
  have h2 := Nat.div_add_mod (lo * 2 ^ s) 18446744073709551616
  rw [h1] at h2
  rw [Nat.add_mul, Nat.add_mul]
  have : hi * 2 ^ s * 18446744073709551616 = hi * 18446744073709551616 * 2 ^ s := by rw [Nat.mul_assoc, Nat.mul_assoc, Nat.mul_comm (2 ^ s)]
  rw [this]
  generalize lo / 2 ^ (64 - s) = a at *
  generalize lo * 2 ^ s % 18446744073709551616 = b at *
  generalize lo * 2 ^ s = c at *
  omega
/-- the whole of the division: U is the upper part, V the lower 64 bits in halves -/
theorem div_whole (hi lo y : Nat) (h0 : 0 < y) (hy : y < 18446744073709551616) (hlo : lo < 18446744073709551616) (u u1 u0 Y : Nat)
    (hu : u = hi * 2 ^ lead y + lo / 2 ^ (64 - lead y)) (hu1 : u1 * 4294967296 + u0 = lo * 2 ^ lead y % 18446744073709551616) (hY : Y = y * 2 ^ lead y) :
    (u * 4294967296 + u1) / Y * 4294967296 + ((u * 4294967296 + u1) % Y * 4294967296 + u0) / Y = (hi * 18446744073709551616 + lo) / y ∧
    ((u * 4294967296 + u1) % Y * 4294967296 + u0) % Y / 2 ^ lead y = (hi * 18446744073709551616 + lo) % y := by
  obtain ⟨a, -, b, c⟩ := lead_bd y h0 hy
  have hYp : 0 < Y := by omega
  obtain ⟨t1, t2⟩ := two_digits (u * 4294967296 + u1) 4294967296 u0 Y hYp
  obtain ⟨n1, n2⟩ := norm_div (hi * 18446744073709551616 + lo) y (lead y) h0
  have e : (u * 4294967296 + u1) * 4294967296 + u0 = (hi * 18446744073709551616 + lo) * 2 ^ lead y := by
    have h := shift_128 hi lo (lead y) (by omega) hlo
    rw [← hu, ← hu1] at h
    rw [← h]
    have two : ∀ p q B : Nat, (p * B + q) * B + u0 = p * (B * B) + (q * B + u0) := fun p q B => by rw [Nat.add_mul, Nat.mul_assoc, Nat.add_assoc]
    exact two u u1 4294967296
  rw [← t1, ← t2, e, hY]
  exact ⟨n1, n2⟩
end Go.Proofs.Ytpccpkjfnmclfaa
