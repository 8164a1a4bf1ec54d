/- the number of set bits, as the library counts it, is odd just where the xor of the bits is. -/
import Derived.Test.YtidddoldkedicaaMemMath
namespace Go.Proofs.Ytidddoldkedicaa

theorem and_split (a b m n : Nat) (hb : b < 256) (hn : n < 256) : (256 * a + b) &&& (256 * m + n) = 256 * (a &&& m) + (b &&& n) := by
  apply Nat.eq_of_testBit_eq
  intro i
  have hx : b &&& n < 2 ^ 8 := Nat.and_lt_two_pow _ (by omega)
  have e1 := Nat.testBit_two_pow_mul_add a (show b < 2 ^ 8 by omega) i
  have e2 := Nat.testBit_two_pow_mul_add m (show n < 2 ^ 8 by omega) i
  have e3 := Nat.testBit_two_pow_mul_add (a &&& m) hx i
  simp only [Nat.reducePow] at e1 e2 e3
  rw [Nat.testBit_and, e1, e2, e3]
  split <;> rw [Nat.testBit_and]

/-- one step with a mask -/
def halfN (s m x : Nat) : Nat := (x / s &&& m) + (x &&& m)
/-- the third step -/
def foldN (m x : Nat) : Nat := (x / 16 + x) &&& m
theorem half_2 (a b m : Nat) (hb : b < 256) : halfN 2 (256 * m + 85) (256 * a + b) = 256 * halfN 2 m a + halfN 2 85 b := by
  have e : (256 * a + b) / 2 = 256 * (a / 2) + (128 * (a % 2) + b / 2) := by omega
  have h1 : (128 * (a % 2) + b / 2) &&& 85 = b / 2 &&& 85 := by
    have : ∀ r, r < 2 → ∀ b, b < 256 → (128 * r + b / 2) &&& 85 = b / 2 &&& 85 := by decide +kernel
    exact this _ (by omega) b hb
  unfold halfN
  rw [e, and_split _ _ _ _ (by omega) (by omega), and_split _ _ _ _ hb (by omega), h1]
  omega
theorem half_4 (a b m : Nat) (hb : b < 256) : halfN 4 (256 * m + 51) (256 * a + b) = 256 * halfN 4 m a + halfN 4 51 b := by
  have e : (256 * a + b) / 4 = 256 * (a / 4) + (64 * (a % 4) + b / 4) := by omega
  have h1 : (64 * (a % 4) + b / 4) &&& 51 = b / 4 &&& 51 := by
    have : ∀ r, r < 4 → ∀ b, b < 256 → (64 * r + b / 4) &&& 51 = b / 4 &&& 51 := by decide +kernel
    exact this _ (by omega) b hb
  unfold halfN
  rw [e, and_split _ _ _ _ (by omega) (by omega), and_split _ _ _ _ hb (by omega), h1]
  omega
/-- a byte behind three steps -/
def popB (b : Nat) : Nat := foldN 15 (halfN 4 51 (halfN 2 85 b))
theorem half2_lt : ∀ b, b < 256 → halfN 2 85 b < 256 := by decide +kernel
theorem half4_lt : ∀ b, b < 256 → halfN 4 51 (halfN 2 85 b) ≤ 68 := by decide +kernel
theorem popB_lt : ∀ b, b < 256 → popB b ≤ 8 := by decide +kernel
theorem fold_16 (a b m : Nat) (hb : b ≤ 68) (hn : ∀ b, b ≤ 68 → ∀ r, r < 16 → 16 * r + b / 16 + b < 256 → (16 * r + b / 16 + b) &&& 15 = (b / 16 + b) &&& 15) (hs : 16 * (a % 16) + b / 16 + b < 256) :
    foldN (256 * m + 15) (256 * a + b) = 256 * foldN m a + foldN 15 b := by
  have e : (256 * a + b) / 16 + (256 * a + b) = 256 * (a / 16 + a) + (16 * (a % 16) + b / 16 + b) := by omega
  unfold foldN
  rw [e, and_split _ _ _ _ hs (by omega), hn b hb _ (by omega) hs]
theorem fold_low : ∀ b, b ≤ 68 → ∀ r, r < 16 → 16 * r + b / 16 + b < 256 → (16 * r + b / 16 + b) &&& 15 = (b / 16 + b) &&& 15 := by decide +kernel
theorem half4_mod : ∀ b, b < 256 → halfN 4 51 (halfN 2 85 b) % 16 ≤ 4 := by decide +kernel

theorem and_small (x m k : Nat) (hx : x < 2 ^ k) : x &&& m = x &&& (m % 2 ^ k) := by
  apply Nat.eq_of_testBit_eq
  intro i
  rw [Nat.testBit_and, Nat.testBit_and, Nat.testBit_mod_two_pow]
  by_cases h : i < k
  · simp [h]
  · have : x.testBit i = false := Nat.testBit_lt_two_pow (Nat.lt_of_lt_of_le hx (Nat.pow_le_pow_right (by omega) (by omega)))
    simp [this]
theorem and127 (x : Nat) : x &&& 127 = x % 128 := Nat.and_two_pow_sub_one_eq_mod x 7

/-- what OnesCount64 reckons, of numbers of 24 bits -/
def popX (x : Nat) : Nat := x + x / 256
def popY (x : Nat) : Nat := x + x / 65536
def popZ (x : Nat) : Nat := x + x / 4294967296
def popN (x : Nat) : Nat := popZ (popY (popX (foldN 1085102592571150095 (halfN 4 3689348814741910323 (halfN 2 6148914691236517205 x))))) &&& 127
theorem three (c : Nat) (hc : c < 16777216) : foldN 1085102592571150095 (halfN 4 3689348814741910323 (halfN 2 6148914691236517205 c)) = popB (c % 256) + 256 * popB (c / 256 % 256) + 65536 * popB (c / 65536) := by
  obtain ⟨b0, hb0⟩ : ∃ b, b = c % 256 := ⟨_, rfl⟩
  obtain ⟨b1, hb1⟩ : ∃ b, b = c / 256 % 256 := ⟨_, rfl⟩
  obtain ⟨b2, hb2⟩ : ∃ b, b = c / 65536 := ⟨_, rfl⟩
  have e : c = 256 * (256 * b2 + b1) + b0 := by omega
  have l0 : b0 < 256 := by omega
  have l1 : b1 < 256 := by omega
  have l2 : b2 < 256 := by omega
  rw [← hb0, ← hb1, ← hb2, e]
  clear hb0 hb1 hb2 e hc
  have zero2 : ∀ m, halfN 2 (256 * m + 85) b2 = halfN 2 85 b2 := by
    intro m
    have := half_2 0 b2 m l2
    simpa [halfN] using this
  have s1 : halfN 2 6148914691236517205 (256 * (256 * b2 + b1) + b0) = 256 * (256 * halfN 2 85 b2 + halfN 2 85 b1) + halfN 2 85 b0 := by
    rw [show (6148914691236517205 : Nat) = 256 * (256 * (256 * 366503875925 + 85) + 85) + 85 by rfl, half_2 _ _ _ l0, half_2 _ _ _ l1, zero2]
  rw [s1]
  have k0 := half2_lt b0 l0
  have k1 := half2_lt b1 l1
  have k2 := half2_lt b2 l2
  have q0 := half4_lt b0 l0
  have q1 := half4_lt b1 l1
  have q2 := half4_lt b2 l2
  have r0 := half4_mod b0 l0
  have r1 := half4_mod b1 l1
  have r2 := half4_mod b2 l2
  unfold popB
  generalize halfN 2 85 b0 = y0 at *
  generalize halfN 2 85 b1 = y1 at *
  generalize halfN 2 85 b2 = y2 at *
  have zero4 : ∀ m, halfN 4 (256 * m + 51) y2 = halfN 4 51 y2 := by
    intro m
    have := half_4 0 y2 m k2
    simpa [halfN] using this
  have s2 : halfN 4 3689348814741910323 (256 * (256 * y2 + y1) + y0) = 256 * (256 * halfN 4 51 y2 + halfN 4 51 y1) + halfN 4 51 y0 := by
    rw [show (3689348814741910323 : Nat) = 256 * (256 * (256 * 219902325555 + 51) + 51) + 51 by rfl, half_4 _ _ _ k0, half_4 _ _ _ k1, zero4]
  rw [s2]
  clear s1 s2 zero2 zero4 k0 k1 k2
  generalize halfN 4 51 y0 = z0 at *
  generalize halfN 4 51 y1 = z1 at *
  generalize halfN 4 51 y2 = z2 at *
  have zero16 : ∀ m, foldN (256 * m + 15) z2 = foldN 15 z2 := by
    intro m
    have := fold_16 0 z2 m q2 fold_low (by omega)
    simpa [foldN] using this
  have s3 : foldN 1085102592571150095 (256 * (256 * z2 + z1) + z0) = 256 * (256 * foldN 15 z2 + foldN 15 z1) + foldN 15 z0 := by
    rw [show (1085102592571150095 : Nat) = 256 * (256 * (256 * 64677154575 + 15) + 15) + 15 by rfl, fold_16 _ _ _ q0 fold_low (by omega), fold_16 _ _ _ q1 fold_low (by omega), zero16]
  rw [s3]
  omega
theorem pop_sum (c : Nat) (hc : c < 16777216) : popN c = popB (c % 256) + popB (c / 256 % 256) + popB (c / 65536) := by
  have h0 := popB_lt (c % 256) (by omega)
  have h1 := popB_lt (c / 256 % 256) (by omega)
  have h2 := popB_lt (c / 65536) (by omega)
  unfold popN
  simp only [three c hc, and127, popX, popY, popZ]
  generalize popB (c % 256) = x at *
  generalize popB (c / 256 % 256) = y at *
  generalize popB (c / 65536) = z at *
  rw [show (x + 256 * y + 65536 * z) / 256 = y + 256 * z by omega]
  rw [show (x + 256 * y + 65536 * z + (y + 256 * z)) / 65536 = z by omega]
  rw [show (x + 256 * y + 65536 * z + (y + 256 * z) + z) / 4294967296 = 0 by omega]
  omega
theorem odd_byte : ∀ b, b < 256 → oddTo b 8 = decide (popB b % 2 = 1) := by decide +kernel
theorem bit_low (a b j : Nat) (hj : j < 8) (hb : b < 256) : bitN (256 * a + b) j = bitN b j := by
  have := Nat.testBit_two_pow_mul_add a (show b < 2 ^ 8 by omega) j
  simp only [Nat.reducePow, if_pos hj] at this
  rw [bit_test, bit_test] at this
  have h1 := bit_lt (256 * a + b) j
  have h2 := bit_lt b j
  simp only [decide_eq_decide] at this
  omega
theorem bit_high (a b j : Nat) (hb : b < 256) : bitN (256 * a + b) (8 + j) = bitN a j := by
  have := Nat.testBit_two_pow_mul_add a (show b < 2 ^ 8 by omega) (8 + j)
  simp only [Nat.reducePow, if_neg (show ¬ 8 + j < 8 by omega), Nat.add_sub_cancel_left] at this
  rw [bit_test, bit_test] at this
  have h1 := bit_lt (256 * a + b) (8 + j)
  have h2 := bit_lt a j
  simp only [decide_eq_decide] at this
  omega
theorem odd_low (a b : Nat) (hb : b < 256) : ∀ k, k ≤ 8 → oddTo (256 * a + b) k = oddTo b k
  | 0, _ => rfl
  | k + 1, h => by simp only [oddTo]; rw [odd_low a b hb k (by omega), bit_low a b k (by omega) hb]
theorem odd_succ (c k : Nat) : oddTo c (k + 1) = (oddTo c k != decide (bitN c k = 1)) := rfl
theorem odd_high (a b : Nat) (hb : b < 256) : ∀ k, oddTo (256 * a + b) (8 + k) = (oddTo b 8 != oddTo a k)
  | 0 => by rw [Nat.add_zero, odd_low a b hb 8 (by omega)]; cases oddTo b 8 <;> rfl
  | k + 1 => by
    rw [← Nat.add_assoc, odd_succ (256 * a + b), odd_high a b hb k, bit_high a b k hb, odd_succ a]
    cases oddTo b 8 <;> cases oddTo a k <;> cases decide (bitN a k = 1) <;> rfl
theorem odd_pop (c : Nat) (hc : c < 4194304) : oddTo c 22 = decide (popN c % 2 = 1) := by
  rw [pop_sum c (by omega)]
  have e24 : oddTo c 22 = oddTo c 24 := by
    have z1 : bitN c 22 = 0 := by unfold bitN; rw [Nat.div_eq_of_lt (by omega)]
    have z2 : bitN c 23 = 0 := by unfold bitN; rw [Nat.div_eq_of_lt (by omega)]
    show _ = ((oddTo c 22 != decide (bitN c 22 = 1)) != decide (bitN c 23 = 1))
    rw [z1, z2]
    cases oddTo c 22 <;> rfl
  rw [e24]
  have e : c = 256 * (c / 256) + c % 256 := by omega
  have e2 : c / 256 = 256 * (c / 65536) + c / 256 % 256 := by omega
  have h1 := odd_high (c / 256) (c % 256) (by omega) 16
  have h2 := odd_high (c / 65536) (c / 256 % 256) (by omega) 8
  rw [← e] at h1
  rw [← e2] at h2
  rw [h1, h2, odd_byte _ (by omega), odd_byte _ (by omega), odd_byte _ (by omega)]
  generalize popB (c % 256) = x
  generalize popB (c / 256 % 256) = y
  generalize popB (c / 65536) = z
  rcases Nat.mod_two_eq_zero_or_one x with hx | hx <;> rcases Nat.mod_two_eq_zero_or_one y with hy | hy <;> rcases Nat.mod_two_eq_zero_or_one z with hz | hz
  all_goals
    have hs : (x + y + z) % 2 = (x % 2 + y % 2 + z % 2) % 2 := by omega
    rw [hs, hx, hy, hz]
    rfl
end Go.Proofs.Ytidddoldkedicaa
