/- which bits of a code are those of its word, one by one. -/
import Derived.Test.YteelepjhlhifhaaBase
namespace Go.Proofs.Yteelepjhlhifhaa

theorem bit_cat (a b k j : Nat) (ha : a < 2 ^ k) : bitN (a + b * 2 ^ k) j = if j < k then bitN a j else bitN b (j - k) := by
  have h := Nat.testBit_two_pow_mul_add b ha j
  rw [Nat.mul_comm, Nat.add_comm] at h
  have h1 := bit_lt (a + b * 2 ^ k) j
  have h2 := bit_lt a j
  have h3 := bit_lt b (j - k)
  rw [bit_test] at h
  split at h
  · rename_i hj
    rw [if_pos hj]
    rw [bit_test, decide_eq_decide] at h
    omega
  · rename_i hj
    rw [if_neg hj]
    rw [bit_test, decide_eq_decide] at h
    omega
theorem bit_field (w a k i : Nat) : bitN (w / 2 ^ a % 2 ^ k) i = if i < k then bitN w (i + a) else 0 := by
  have h : (w / 2 ^ a % 2 ^ k).testBit i = (decide (i < k) && w.testBit (i + a)) := by rw [Nat.testBit_mod_two_pow, Nat.testBit_div_two_pow]
  have h1 := bit_lt (w / 2 ^ a % 2 ^ k) i
  have h2 := bit_lt w (i + a)
  rw [bit_test, bit_test] at h
  by_cases hi : i < k
  · rw [if_pos hi]
    simp only [hi, decide_true, Bool.true_and, decide_eq_decide] at h
    omega
  · rw [if_neg hi]
    simp [hi] at h
    omega
/-- a check bit's place, from 0 on, of the first 21 -/
def chk (j : Nat) : Bool := j == 0 || j == 1 || j == 3 || j == 7 || j == 15
/-- how many bits of the word stand below -/
def dat : Nat → Nat
  | 0 => 0
  | j + 1 => if chk j = true then dat j else dat j + 1
theorem dat_le : ∀ j, j ≤ 21 → dat j ≤ 16 := by decide
theorem dat_all : dat 21 = 16 := by decide
theorem spread_parts (w : Nat) : spread w = (w / 2 ^ 0 % 2 ^ 1) * 2 ^ 2 + ((w / 2 ^ 1 % 2 ^ 3) + ((w / 2 ^ 4 % 2 ^ 7) + (w / 2 ^ 11 % 2 ^ 5) * 2 ^ 8) * 2 ^ 4) * 2 ^ 4 := by
  unfold spread
  simp only [Nat.reducePow, Nat.div_one]
  omega
theorem gather_parts (c : Nat) : gather c = (c / 2 ^ 2 % 2 ^ 1) + ((c / 2 ^ 4 % 2 ^ 3) + ((c / 2 ^ 8 % 2 ^ 7) + (c / 2 ^ 16 % 2 ^ 5) * 2 ^ 7) * 2 ^ 3) * 2 ^ 1 := by
  unfold gather
  simp only [Nat.reducePow]
  omega
theorem bit_up (a j : Nat) : bitN (a * 2 ^ 2) j = if j < 2 then 0 else bitN a (j - 2) := by
  have := bit_cat 0 a 2 j (by omega)
  rw [Nat.zero_add] at this
  rw [this]
  by_cases h : j < 2
  · rw [if_pos h, if_pos h]; unfold bitN; simp
  · rw [if_neg h, if_neg h]
theorem bit_spread (w j : Nat) (hj : j < 21) : bitN (spread w) j = if chk j = true then 0 else bitN w (dat j) := by
  have b0 : w / 2 ^ 0 % 2 ^ 1 < 2 ^ 1 := Nat.mod_lt _ (by omega)
  have b1 : w / 2 ^ 1 % 2 ^ 3 < 2 ^ 3 := Nat.mod_lt _ (by omega)
  have b2 : w / 2 ^ 4 % 2 ^ 7 < 2 ^ 7 := Nat.mod_lt _ (by omega)
  rw [spread_parts, bit_cat _ _ 4 j (by omega), bit_up, bit_field, bit_cat _ _ 4 _ (by omega), bit_field, bit_cat _ _ 8 _ (by omega), bit_field, bit_field]
  clear b0 b1 b2
  rcases (by omega : j = 0 ∨ j = 1 ∨ j = 2 ∨ j = 3 ∨ j = 4 ∨ j = 5 ∨ j = 6 ∨ j = 7 ∨ j = 8 ∨ j = 9 ∨ j = 10 ∨ j = 11 ∨ j = 12 ∨ j = 13 ∨ j = 14 ∨ j = 15 ∨ j = 16 ∨ j = 17 ∨ j = 18 ∨ j = 19 ∨ j = 20) with
    rfl | rfl | rfl | rfl | rfl | rfl | rfl | rfl | rfl | rfl | rfl | rfl | rfl | rfl | rfl | rfl | rfl | rfl | rfl | rfl | rfl <;> rfl
theorem bit_gather (c j : Nat) (hj : j < 21) (h : chk j = false) : bitN (gather c) (dat j) = bitN c j := by
  have b0 : c / 2 ^ 2 % 2 ^ 1 < 2 ^ 1 := Nat.mod_lt _ (by omega)
  have b1 : c / 2 ^ 4 % 2 ^ 3 < 2 ^ 3 := Nat.mod_lt _ (by omega)
  have b2 : c / 2 ^ 8 % 2 ^ 7 < 2 ^ 7 := Nat.mod_lt _ (by omega)
  rw [gather_parts, bit_cat _ _ 1 _ b0, bit_field, bit_cat _ _ 3 _ b1, bit_field, bit_cat _ _ 7 _ b2, bit_field, bit_field]
  clear b0 b1 b2
  rcases (by omega : j = 0 ∨ j = 1 ∨ j = 2 ∨ j = 3 ∨ j = 4 ∨ j = 5 ∨ j = 6 ∨ j = 7 ∨ j = 8 ∨ j = 9 ∨ j = 10 ∨ j = 11 ∨ j = 12 ∨ j = 13 ∨ j = 14 ∨ j = 15 ∨ j = 16 ∨ j = 17 ∨ j = 18 ∨ j = 19 ∨ j = 20) with
    rfl | rfl | rfl | rfl | rfl | rfl | rfl | rfl | rfl | rfl | rfl | rfl | rfl | rfl | rfl | rfl | rfl | rfl | rfl | rfl | rfl <;> first | rfl | cases h
theorem low_succ (x j : Nat) : x % 2 ^ (j + 1) = x % 2 ^ j + bitN x j * 2 ^ j := by
  rw [Nat.pow_succ, Nat.mod_mul]
  unfold bitN
  rw [Nat.mul_comm]
theorem or_low (x j : Nat) : x % 2 ^ j ||| 2 ^ j = x % 2 ^ j + 2 ^ j := by
  have := Nat.two_pow_add_eq_or_of_lt (Nat.mod_lt x (Nat.two_pow_pos j)) 1
  rw [Nat.mul_one] at this
  rw [Nat.or_comm, ← this, Nat.add_comm]
theorem or_xor (c p : Nat) (h : bitN c p = 0) : c ||| 2 ^ p = c ^^^ 2 ^ p := by
  unfold bitN at h
  rw [or_pow c p h, xor_pow, if_neg (by omega)]
theorem checks_bit (m c p : Nat) : ∀ k, (∀ i, i < k → 2 ^ i - 1 ≠ p) → bitN (checksTo m c k) p = bitN c p
  | 0, _ => rfl
  | k + 1, h => by
    have ih := checks_bit m c p k (fun i hi => h i (by omega))
    simp only [checksTo]
    split
    · rw [bit_xor, if_neg (h k (by omega)), ih]
    · exact ih
theorem checks_clear (m n k : Nat) (hk : k < 5) : bitN (checksTo m (spread n) k) (2 ^ k - 1) = 0 := by
  have hj : 2 ^ k - 1 < 21 ∧ chk (2 ^ k - 1) = true := by rcases (by omega : k = 0 ∨ k = 1 ∨ k = 2 ∨ k = 3 ∨ k = 4) with rfl | rfl | rfl | rfl | rfl <;> decide
  rw [checks_bit, bit_spread _ _ hj.1, if_pos hj.2]
  intro i hi e
  have := Nat.pow_lt_pow_right (show 1 < 2 by omega) hi
  have := Nat.two_pow_pos i
  omega
theorem near_clear (n : Nat) : bitN (nearCode n) 21 = 0 := by
  unfold nearCode
  rw [checks_bit]
  · have := spread_lt n
    unfold bitN
    rw [Nat.div_eq_of_lt (by simpa using this)]
  · intro i hi e
    rcases (by omega : i = 0 ∨ i = 1 ∨ i = 2 ∨ i = 3 ∨ i = 4) with rfl | rfl | rfl | rfl | rfl <;> simp at e
end Go.Proofs.Yteelepjhlhifhaa
