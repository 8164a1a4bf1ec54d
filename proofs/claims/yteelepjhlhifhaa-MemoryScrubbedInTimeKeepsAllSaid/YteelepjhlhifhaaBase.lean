/- the first texts of this proof, put together: words for memory, plain mathematics. -/
import Derived.Test.YteelepjhlhifhaaProg
import Derived.Below
import Derived.Laws.OwnMore
import Derived.Deep.Draws
import Derived.WalkKit
import Derived.Outline
import Derived.Laws.BitsAllLaws
import Derived.Lib.Hide
/- the plain mathematics of codes of words: marks, parities, flips. -/
namespace Go.Proofs.Yteelepjhlhifhaa

/-- the bit n (from 0 on) as a number -/
def bitN (c n : Nat) : Nat := c / 2 ^ n % 2
theorem bit_lt (c n : Nat) : bitN c n < 2 := Nat.mod_lt _ (by omega)
theorem bit_test (c n : Nat) : c.testBit n = decide (bitN c n = 1) := by
  rw [Nat.testBit_eq_decide_div_mod_eq]; rfl
theorem bit_xor (c a n : Nat) : bitN (c ^^^ 2 ^ a) n = if a = n then 1 - bitN c n else bitN c n := by
  have h := Nat.testBit_xor c (2 ^ a) n
  rw [Nat.testBit_two_pow, bit_test, bit_test] at h
  have h1 := bit_lt c n
  have h2 := bit_lt (c ^^^ 2 ^ a) n
  by_cases e : a = n
  · rw [if_pos e]
    by_cases h3 : bitN c n = 1
    · rw [h3]; simp [e, h3] at h; subst e; omega
    · simp [e, h3] at h; subst e; omega
  · rw [if_neg e]
    simp [e] at h
    by_cases h3 : bitN c n = 1
    · rw [h3]; rw [h]; exact h3
    · have : ¬ bitN (c ^^^ 2 ^ a) n = 1 := fun q => h3 (h.1 q)
      omega

/-- the mark of the first k bits -/
def markTo (c : Nat) : Nat → Nat
  | 0 => 0
  | k + 1 => if bitN c k = 1 then markTo c k ^^^ (k + 1) else markTo c k
/-- whether an odd number of the first k bits is set -/
def oddTo (c : Nat) : Nat → Bool
  | 0 => false
  | k + 1 => oddTo c k != decide (bitN c k = 1)

theorem mark_flip (c a : Nat) : ∀ k, markTo (c ^^^ 2 ^ a) k = if a < k then markTo c k ^^^ (a + 1) else markTo c k
  | 0 => by simp [markTo]
  | k + 1 => by
    have ih := mark_flip c a k
    have hb := bit_lt c k
    simp only [markTo, bit_xor, ih]
    rcases Nat.lt_trichotomy a k with h | h | h
    · have h1 : ¬ a = k := by omega
      have h2 : a < k + 1 := by omega
      simp only [h1, h, h2, if_true, if_false]
      by_cases h3 : bitN c k = 1
      · simp only [h3, if_true]
        rw [Nat.xor_assoc, Nat.xor_comm (a + 1), ← Nat.xor_assoc]
      · simp only [h3, if_false]
    · subst h
      have h1 : ¬ a < a := by omega
      have h2 : a < a + 1 := by omega
      simp only [h1, h2, if_true, if_false]
      by_cases h3 : bitN c a = 1
      · simp only [h3, Nat.sub_self, show ¬ (0 : Nat) = 1 by omega, if_true, if_false]
        rw [Nat.xor_assoc, Nat.xor_self, Nat.xor_zero]
      · have h4 : 1 - bitN c a = 1 := by omega
        simp only [h3, h4, if_true, if_false]
    · have h1 : ¬ a = k := by omega
      have h2 : ¬ a < k + 1 := by omega
      have h3 : ¬ a < k := by omega
      simp only [h1, h2, h3, if_false]
theorem odd_flip (c a : Nat) : ∀ k, oddTo (c ^^^ 2 ^ a) k = if a < k then !oddTo c k else oddTo c k
  | 0 => by simp [oddTo]
  | k + 1 => by
    have ih := odd_flip c a k
    have hb := bit_lt c k
    simp only [oddTo, bit_xor, ih]
    rcases Nat.lt_trichotomy a k with h | h | h
    · have h1 : ¬ a = k := by omega
      have h2 : a < k + 1 := by omega
      simp only [h1, h, h2, if_true, if_false]
      cases oddTo c k <;> cases decide (bitN c k = 1) <;> rfl
    · subst h
      have h1 : ¬ a < a := by omega
      have h2 : a < a + 1 := by omega
      simp only [h1, h2, if_true, if_false]
      by_cases h3 : bitN c a = 1
      · simp [h3]
      · have h4 : bitN c a = 0 := by omega
        simp [h4]
    · have h1 : ¬ a = k := by omega
      have h2 : ¬ a < k + 1 := by omega
      have h3 : ¬ a < k := by omega
      simp only [h1, h2, h3, if_false]

theorem xor_pow (c p : Nat) : c ^^^ 2 ^ p = if c / 2 ^ p % 2 = 1 then c - 2 ^ p else c + 2 ^ p := by
  have hp : 0 < 2 ^ p := Nat.two_pow_pos p
  have key : ∀ x : Nat, x / 2 ^ p % 2 = 0 → x ^^^ 2 ^ p = x + 2 ^ p := by
    intro x hx
    have hd := Nat.div_add_mod x (2 ^ p)
    have hl : x % 2 ^ p < 2 ^ p := Nat.mod_lt _ hp
    have hq : x / 2 ^ p = 2 * (x / 2 ^ p / 2) := by omega
    apply Nat.eq_of_testBit_eq
    intro i
    rw [Nat.testBit_xor, Nat.testBit_two_pow]
    have e : x + 2 ^ p = 2 ^ p * (x / 2 ^ p + 1) + x % 2 ^ p := by rw [Nat.mul_succ]; omega
    rw [e]
    conv => lhs; lhs; rw [← hd]
    rw [Nat.testBit_two_pow_mul_add _ hl, Nat.testBit_two_pow_mul_add _ hl]
    by_cases hi : i < p
    · rw [if_pos hi, if_pos hi]; simp [show p ≠ i by omega]
    · rw [if_neg hi, if_neg hi]
      by_cases hpi : p = i
      · subst hpi
        have e1 : x / 2 ^ p % 2 = 0 := hx
        have e2 : (x / 2 ^ p + 1) % 2 = 1 := by omega
        simp [Nat.testBit_zero, e1, e2]
      · simp only [hpi, decide_false, Bool.xor_false]
        obtain ⟨j, hj⟩ : ∃ j, i - p = j + 1 := ⟨i - p - 1, by omega⟩
        rw [hj, Nat.testBit_succ, Nat.testBit_succ]
        congr 1
        omega
  by_cases h : c / 2 ^ p % 2 = 1
  · rw [if_pos h]
    have hge : 2 ^ p ≤ c := by
      rcases Nat.lt_or_ge c (2 ^ p) with q | q
      · rw [Nat.div_eq_of_lt q] at h; omega
      · exact q
    have e : (c - 2 ^ p) / 2 ^ p = c / 2 ^ p - 1 := by
      have := Nat.sub_mul_div_of_le c (2 ^ p) 1 (by omega)
      rw [Nat.mul_one] at this
      exact this
    have := key (c - 2 ^ p) (by rw [e]; omega)
    have h2 : c = c - 2 ^ p + 2 ^ p := by omega
    conv => lhs; lhs; rw [h2]
    rw [← this, Nat.xor_assoc, Nat.xor_self, Nat.xor_zero]
  · rw [if_neg h]
    exact key c (by omega)
theorem or_pow (c p : Nat) (h : c / 2 ^ p % 2 = 0) : c ||| 2 ^ p = c + 2 ^ p := by
  have e := xor_pow c p
  rw [if_neg (by omega)] at e
  rw [← e]
  apply Nat.eq_of_testBit_eq
  intro i
  rw [Nat.testBit_or, Nat.testBit_xor, Nat.testBit_two_pow]
  by_cases hpi : p = i
  · subst hpi
    have : c.testBit p = false := by rw [bit_test]; unfold bitN; simp; omega
    simp [this]
  · simp [hpi]

/-- the bits of a word, where they stand in its code -/
def spread (w : Nat) : Nat := w % 2 * 4 + w / 2 % 8 * 16 + w / 16 % 128 * 256 + w / 2048 % 32 * 65536
/-- the word between the check bits -/
def gather (c : Nat) : Nat := c / 4 % 2 + c / 16 % 8 * 2 + c / 256 % 128 * 16 + c / 65536 % 32 * 2048
theorem gather_spread (w : Nat) (h : w < 65536) : gather (spread w) = w := by
  have e : w = w % 2 + w / 2 % 8 * 2 + w / 16 % 128 * 16 + w / 2048 % 32 * 2048 := by omega
  unfold gather spread
  have h1 : w % 2 < 2 := by omega
  have h2 : w / 2 % 8 < 8 := by omega
  have h3 : w / 16 % 128 < 128 := by omega
  have h4 : w / 2048 % 32 < 32 := by omega
  generalize w % 2 = a, w / 2 % 8 = b, w / 16 % 128 = c, w / 2048 % 32 = d at *
  have e1 : (a * 4 + b * 16 + c * 256 + d * 65536) / 4 % 2 = a := by omega
  have e2 : (a * 4 + b * 16 + c * 256 + d * 65536) / 16 % 8 = b := by omega
  have e3 : (a * 4 + b * 16 + c * 256 + d * 65536) / 256 % 128 = c := by omega
  have e4 : (a * 4 + b * 16 + c * 256 + d * 65536) / 65536 % 32 = d := by
    rw [Nat.add_mul_div_right _ _ (by omega), Nat.div_eq_of_lt (by omega)]; omega
  rw [e1, e2, e3, e4]
  exact e.symm
theorem spread_lt (w : Nat) : spread w < 2097152 := by unfold spread; omega
theorem gather_lt (c : Nat) : gather c < 65536 := by unfold gather; omega
/-- the places of the check bits, from 0 on -/
def isCheckP (p : Nat) : Prop := p = 0 ∨ p = 1 ∨ p = 3 ∨ p = 7 ∨ p = 15 ∨ p = 21
theorem field_flip (c p a k : Nat) (h : p < a ∨ a + k ≤ p) : (c ^^^ 2 ^ p) / 2 ^ a % 2 ^ k = c / 2 ^ a % 2 ^ k := by
  apply Nat.eq_of_testBit_eq
  intro i
  rw [Nat.testBit_mod_two_pow, Nat.testBit_mod_two_pow, Nat.testBit_div_two_pow, Nat.testBit_div_two_pow, Nat.testBit_xor, Nat.testBit_two_pow]
  by_cases hi : i < k
  · have : ¬ p = i + a := by omega
    simp [this]
  · simp [hi]
theorem gather_flip (c p : Nat) (h : isCheckP p) : gather (c ^^^ 2 ^ p) = gather c := by
  unfold isCheckP at h
  have e1 := field_flip c p 2 1 (by omega)
  have e2 := field_flip c p 4 3 (by omega)
  have e3 := field_flip c p 8 7 (by omega)
  have e4 := field_flip c p 16 5 (by omega)
  simp only [Nat.reducePow] at e1 e2 e3 e4
  unfold gather
  rw [e1, e2, e3, e4]
theorem flip_lt (c p : Nat) (hp : p < 22) (hc : c < 4194304) : c ^^^ 2 ^ p < 4194304 := by
  have h1 : 2 ^ p < 2 ^ 22 := Nat.pow_lt_pow_right (by omega) hp
  exact Nat.xor_lt_two_pow (n := 22) hc h1

/-- the check bits of a mark, set in a code, the first k of them -/
def checksTo (m c : Nat) : Nat → Nat
  | 0 => c
  | k + 1 => if bitN m k = 1 then checksTo m c k ^^^ 2 ^ (2 ^ k - 1) else checksTo m c k
/-- the code of a word, but for its last bit -/
def nearCode (w : Nat) : Nat := checksTo (markTo (spread w) 21) (spread w) 5
def codeN (w : Nat) : Nat := if oddTo (nearCode w) 22 = true then nearCode w ^^^ 2 ^ 21 else nearCode w

theorem checks_lt (m c : Nat) (hc : c < 4194304) : ∀ k, k ≤ 5 → checksTo m c k < 4194304
  | 0, _ => hc
  | k + 1, h => by
    have ih := checks_lt m c hc k (by omega)
    simp only [checksTo]
    split
    · refine flip_lt _ _ ?_ ih
      rcases (by omega : k = 0 ∨ k = 1 ∨ k = 2 ∨ k = 3 ∨ k = 4) with rfl | rfl | rfl | rfl | rfl <;> decide
    · exact ih
theorem near_lt (w : Nat) : nearCode w < 4194304 := checks_lt _ _ (by have := spread_lt w; omega) 5 (by omega)
theorem code_lt (w : Nat) : codeN w < 4194304 := by
  unfold codeN
  split
  · exact flip_lt _ _ (by omega) (near_lt w)
  · exact near_lt w
theorem checks_gather (m c : Nat) (hc : c < 4194304) : ∀ k, k ≤ 5 → gather (checksTo m c k) = gather c
  | 0, _ => rfl
  | k + 1, h => by
    have ih := checks_gather m c hc k (by omega)
    have hl := checks_lt m c hc k (by omega)
    simp only [checksTo]
    split
    · rw [gather_flip _ _ ?_, ih]
      rcases (by omega : k = 0 ∨ k = 1 ∨ k = 2 ∨ k = 3 ∨ k = 4) with rfl | rfl | rfl | rfl | rfl <;> simp [isCheckP]
    · exact ih
theorem code_gather (w : Nat) (h : w < 65536) : gather (codeN w) = w := by
  have e : gather (nearCode w) = w := by
    unfold nearCode
    rw [checks_gather _ _ (by have := spread_lt w; omega) 5 (by omega), gather_spread w h]
  unfold codeN
  split
  · rw [gather_flip _ _ (by simp [isCheckP]), e]
  · exact e
/-- the sum of the first k bits of a mark -/
def sumTo (m : Nat) : Nat → Nat
  | 0 => 0
  | k + 1 => if bitN m k = 1 then sumTo m k ^^^ 2 ^ k else sumTo m k
theorem checks_mark (m c : Nat) : ∀ k, k ≤ 5 → markTo (checksTo m c k) 21 = markTo c 21 ^^^ sumTo m k
  | 0, _ => by simp [checksTo, sumTo]
  | k + 1, h => by
    have ih := checks_mark m c k (by omega)
    have hp : 2 ^ k - 1 < 21 ∧ 2 ^ k - 1 + 1 = 2 ^ k := by rcases (by omega : k = 0 ∨ k = 1 ∨ k = 2 ∨ k = 3 ∨ k = 4) with rfl | rfl | rfl | rfl | rfl <;> decide
    simp only [checksTo, sumTo]
    split
    · rw [mark_flip, if_pos hp.1, ih, hp.2, Nat.xor_assoc]
    · exact ih
theorem sum_all : ∀ m, m < 32 → sumTo m 5 = m := by decide +kernel
theorem mark_lt (c : Nat) : ∀ k, k ≤ 21 → markTo c k < 32
  | 0, _ => by simp [markTo]
  | k + 1, h => by
    have ih := mark_lt c k (by omega)
    simp only [markTo]
    split
    · exact Nat.xor_lt_two_pow (n := 5) ih (show k + 1 < 32 by omega)
    · exact ih
theorem near_mark (w : Nat) : markTo (nearCode w) 21 = 0 := by
  unfold nearCode
  rw [checks_mark _ _ 5 (by omega), sum_all _ (mark_lt _ 21 (by omega)), Nat.xor_self]
theorem code_mark (w : Nat) : markTo (codeN w) 21 = 0 := by
  unfold codeN
  split
  · rw [mark_flip, if_neg (by omega)]; exact near_mark w
  · exact near_mark w
theorem code_odd (w : Nat) : oddTo (codeN w) 22 = false := by
  unfold codeN
  split
  · rw [odd_flip, if_pos (by omega)]; simp_all
  · simp_all

/-- what a code is: 1 right, 2 one flipped, 3 two; and which bit -/
def kindN (c : Nat) : Nat × Nat :=
  if oddTo c 22 = true then
    if markTo c 21 = 0 then (2, 22) else if markTo c 21 < 22 then (2, markTo c 21) else (3, 0)
  else if markTo c 21 = 0 then (1, 0) else (3, 0)
theorem kind_code (w : Nat) : kindN (codeN w) = (1, 0) := by simp [kindN, code_mark, code_odd]
theorem kind_flip (w a : Nat) (h : a < 22) : kindN (codeN w ^^^ 2 ^ a) = (2, a + 1) := by
  unfold kindN
  rw [odd_flip, if_pos h, code_odd, mark_flip, code_mark]
  by_cases h2 : a < 21
  · simp [h2, show a + 1 < 22 by omega]
  · obtain rfl : a = 21 := by omega
    simp
theorem kind_two (w a b : Nat) (ha : a < 22) (hb : b < 22) (hab : a ≠ b) : kindN (codeN w ^^^ 2 ^ a ^^^ 2 ^ b) = (3, 0) := by
  unfold kindN
  rw [odd_flip, if_pos hb, odd_flip, if_pos ha, code_odd, mark_flip, mark_flip, code_mark]
  have hne : a + 1 ^^^ (b + 1) ≠ 0 := by
    intro q
    have : a + 1 = b + 1 := by
      have := congrArg (fun x => x ^^^ (b + 1)) q
      simpa [Nat.xor_assoc] using this
    omega
  by_cases h2 : a < 21 <;> by_cases h3 : b < 21 <;> simp [h2, h3, hne] <;> omega
theorem flip_flip (c a : Nat) : c ^^^ 2 ^ a ^^^ 2 ^ a = c := by rw [Nat.xor_assoc, Nat.xor_self, Nat.xor_zero]
end Go.Proofs.Yteelepjhlhifhaa

/- the number of set bits, as the library counts it, is odd just where the xor of the bits is. -/
namespace Go.Proofs.Yteelepjhlhifhaa

theorem and_split (a b m n : Nat) (hb : b < 256) (hn : n < 256) : (256 * a + b) &&& (256 * m + n) = 256 * (a &&& m) + (b &&& n) := by
  apply Nat.eq_of_testBit_eq
  intro i
  have hx : b &&& n < 2 ^ 8 := Nat.and_lt_two_pow _ (by omega)
  have e1 := Nat.testBit_two_pow_mul_add a (show b < 2 ^ 8 by omega) i
  have e2 := Nat.testBit_two_pow_mul_add m (show n < 2 ^ 8 by omega) i
  have e3 := Nat.testBit_two_pow_mul_add (a &&& m) hx i
  simp only [Nat.reducePow] at e1 e2 e3
  rw [Nat.testBit_and, e1, e2, e3]
  split <;> rw [Nat.testBit_and]

/-- one step with a mask -/
def halfN (s m x : Nat) : Nat := (x / s &&& m) + (x &&& m)
/-- the third step -/
def foldN (m x : Nat) : Nat := (x / 16 + x) &&& m
theorem half_2 (a b m : Nat) (hb : b < 256) : halfN 2 (256 * m + 85) (256 * a + b) = 256 * halfN 2 m a + halfN 2 85 b := by
  have e : (256 * a + b) / 2 = 256 * (a / 2) + (128 * (a % 2) + b / 2) := by omega
  have h1 : (128 * (a % 2) + b / 2) &&& 85 = b / 2 &&& 85 := by
    have : ∀ r, r < 2 → ∀ b, b < 256 → (128 * r + b / 2) &&& 85 = b / 2 &&& 85 := by decide +kernel
    exact this _ (by omega) b hb
  unfold halfN
  rw [e, and_split _ _ _ _ (by omega) (by omega), and_split _ _ _ _ hb (by omega), h1]
  omega
theorem half_4 (a b m : Nat) (hb : b < 256) : halfN 4 (256 * m + 51) (256 * a + b) = 256 * halfN 4 m a + halfN 4 51 b := by
  have e : (256 * a + b) / 4 = 256 * (a / 4) + (64 * (a % 4) + b / 4) := by omega
  have h1 : (64 * (a % 4) + b / 4) &&& 51 = b / 4 &&& 51 := by
    have : ∀ r, r < 4 → ∀ b, b < 256 → (64 * r + b / 4) &&& 51 = b / 4 &&& 51 := by decide +kernel
    exact this _ (by omega) b hb
  unfold halfN
  rw [e, and_split _ _ _ _ (by omega) (by omega), and_split _ _ _ _ hb (by omega), h1]
  omega
/-- a byte behind three steps -/
def popB (b : Nat) : Nat := foldN 15 (halfN 4 51 (halfN 2 85 b))
theorem half2_lt : ∀ b, b < 256 → halfN 2 85 b < 256 := by decide +kernel
theorem half4_lt : ∀ b, b < 256 → halfN 4 51 (halfN 2 85 b) ≤ 68 := by decide +kernel
theorem popB_lt : ∀ b, b < 256 → popB b ≤ 8 := by decide +kernel
theorem fold_16 (a b m : Nat) (hb : b ≤ 68) (hn : ∀ b, b ≤ 68 → ∀ r, r < 16 → 16 * r + b / 16 + b < 256 → (16 * r + b / 16 + b) &&& 15 = (b / 16 + b) &&& 15) (hs : 16 * (a % 16) + b / 16 + b < 256) :
    foldN (256 * m + 15) (256 * a + b) = 256 * foldN m a + foldN 15 b := by
  have e : (256 * a + b) / 16 + (256 * a + b) = 256 * (a / 16 + a) + (16 * (a % 16) + b / 16 + b) := by omega
  unfold foldN
  rw [e, and_split _ _ _ _ hs (by omega), hn b hb _ (by omega) hs]
theorem fold_low : ∀ b, b ≤ 68 → ∀ r, r < 16 → 16 * r + b / 16 + b < 256 → (16 * r + b / 16 + b) &&& 15 = (b / 16 + b) &&& 15 := by decide +kernel
theorem half4_mod : ∀ b, b < 256 → halfN 4 51 (halfN 2 85 b) % 16 ≤ 4 := by decide +kernel

theorem and_small (x m k : Nat) (hx : x < 2 ^ k) : x &&& m = x &&& (m % 2 ^ k) := by
  apply Nat.eq_of_testBit_eq
  intro i
  rw [Nat.testBit_and, Nat.testBit_and, Nat.testBit_mod_two_pow]
  by_cases h : i < k
  · simp [h]
  · have : x.testBit i = false := Nat.testBit_lt_two_pow (Nat.lt_of_lt_of_le hx (Nat.pow_le_pow_right (by omega) (by omega)))
    simp [this]
theorem and127 (x : Nat) : x &&& 127 = x % 128 := Nat.and_two_pow_sub_one_eq_mod x 7

/-- what OnesCount64 reckons, of numbers of 24 bits -/
def popX (x : Nat) : Nat := x + x / 256
def popY (x : Nat) : Nat := x + x / 65536
def popZ (x : Nat) : Nat := x + x / 4294967296
def popN (x : Nat) : Nat := popZ (popY (popX (foldN 1085102592571150095 (halfN 4 3689348814741910323 (halfN 2 6148914691236517205 x))))) &&& 127
theorem three (c : Nat) (hc : c < 16777216) : foldN 1085102592571150095 (halfN 4 3689348814741910323 (halfN 2 6148914691236517205 c)) = popB (c % 256) + 256 * popB (c / 256 % 256) + 65536 * popB (c / 65536) := by
  obtain ⟨b0, hb0⟩ : ∃ b, b = c % 256 := ⟨_, rfl⟩
  obtain ⟨b1, hb1⟩ : ∃ b, b = c / 256 % 256 := ⟨_, rfl⟩
  obtain ⟨b2, hb2⟩ : ∃ b, b = c / 65536 := ⟨_, rfl⟩
  have e : c = 256 * (256 * b2 + b1) + b0 := by omega
  have l0 : b0 < 256 := by omega
  have l1 : b1 < 256 := by omega
  have l2 : b2 < 256 := by omega
  rw [← hb0, ← hb1, ← hb2, e]
  clear hb0 hb1 hb2 e hc
  have zero2 : ∀ m, halfN 2 (256 * m + 85) b2 = halfN 2 85 b2 := by
    intro m
    have := half_2 0 b2 m l2
    simpa [halfN] using this
  have s1 : halfN 2 6148914691236517205 (256 * (256 * b2 + b1) + b0) = 256 * (256 * halfN 2 85 b2 + halfN 2 85 b1) + halfN 2 85 b0 := by
    rw [show (6148914691236517205 : Nat) = 256 * (256 * (256 * 366503875925 + 85) + 85) + 85 by rfl, half_2 _ _ _ l0, half_2 _ _ _ l1, zero2]
  rw [s1]
  have k0 := half2_lt b0 l0
  have k1 := half2_lt b1 l1
  have k2 := half2_lt b2 l2
  have q0 := half4_lt b0 l0
  have q1 := half4_lt b1 l1
  have q2 := half4_lt b2 l2
  have r0 := half4_mod b0 l0
  have r1 := half4_mod b1 l1
  have r2 := half4_mod b2 l2
  unfold popB
  generalize halfN 2 85 b0 = y0 at *
  generalize halfN 2 85 b1 = y1 at *
  generalize halfN 2 85 b2 = y2 at *
  have zero4 : ∀ m, halfN 4 (256 * m + 51) y2 = halfN 4 51 y2 := by
    intro m
    have := half_4 0 y2 m k2
    simpa [halfN] using this
  have s2 : halfN 4 3689348814741910323 (256 * (256 * y2 + y1) + y0) = 256 * (256 * halfN 4 51 y2 + halfN 4 51 y1) + halfN 4 51 y0 := by
    rw [show (3689348814741910323 : Nat) = 256 * (256 * (256 * 219902325555 + 51) + 51) + 51 by rfl, half_4 _ _ _ k0, half_4 _ _ _ k1, zero4]
  rw [s2]
  clear s1 s2 zero2 zero4 k0 k1 k2
  generalize halfN 4 51 y0 = z0 at *
  generalize halfN 4 51 y1 = z1 at *
  generalize halfN 4 51 y2 = z2 at *
  have zero16 : ∀ m, foldN (256 * m + 15) z2 = foldN 15 z2 := by
    intro m
    have := fold_16 0 z2 m q2 fold_low (by omega)
    simpa [foldN] using this
  have s3 : foldN 1085102592571150095 (256 * (256 * z2 + z1) + z0) = 256 * (256 * foldN 15 z2 + foldN 15 z1) + foldN 15 z0 := by
    rw [show (1085102592571150095 : Nat) = 256 * (256 * (256 * 64677154575 + 15) + 15) + 15 by rfl, fold_16 _ _ _ q0 fold_low (by omega), fold_16 _ _ _ q1 fold_low (by omega), zero16]
  rw [s3]
  omega
theorem pop_sum (c : Nat) (hc : c < 16777216) : popN c = popB (c % 256) + popB (c / 256 % 256) + popB (c / 65536) := by
  have h0 := popB_lt (c % 256) (by omega)
  have h1 := popB_lt (c / 256 % 256) (by omega)
  have h2 := popB_lt (c / 65536) (by omega)
  unfold popN
  simp only [three c hc, and127, popX, popY, popZ]
  generalize popB (c % 256) = x at *
  generalize popB (c / 256 % 256) = y at *
  generalize popB (c / 65536) = z at *
  rw [show (x + 256 * y + 65536 * z) / 256 = y + 256 * z by omega]
  rw [show (x + 256 * y + 65536 * z + (y + 256 * z)) / 65536 = z by omega]
  rw [show (x + 256 * y + 65536 * z + (y + 256 * z) + z) / 4294967296 = 0 by omega]
  omega
theorem odd_byte : ∀ b, b < 256 → oddTo b 8 = decide (popB b % 2 = 1) := by decide +kernel
theorem bit_low (a b j : Nat) (hj : j < 8) (hb : b < 256) : bitN (256 * a + b) j = bitN b j := by
  have := Nat.testBit_two_pow_mul_add a (show b < 2 ^ 8 by omega) j
  simp only [Nat.reducePow, if_pos hj] at this
  rw [bit_test, bit_test] at this
  have h1 := bit_lt (256 * a + b) j
  have h2 := bit_lt b j
  simp only [decide_eq_decide] at this
  omega
theorem bit_high (a b j : Nat) (hb : b < 256) : bitN (256 * a + b) (8 + j) = bitN a j := by
  have := Nat.testBit_two_pow_mul_add a (show b < 2 ^ 8 by omega) (8 + j)
  simp only [Nat.reducePow, if_neg (show ¬ 8 + j < 8 by omega), Nat.add_sub_cancel_left] at this
  rw [bit_test, bit_test] at this
  have h1 := bit_lt (256 * a + b) (8 + j)
  have h2 := bit_lt a j
  simp only [decide_eq_decide] at this
  omega
theorem odd_low (a b : Nat) (hb : b < 256) : ∀ k, k ≤ 8 → oddTo (256 * a + b) k = oddTo b k
  | 0, _ => rfl
  | k + 1, h => by simp only [oddTo]; rw [odd_low a b hb k (by omega), bit_low a b k (by omega) hb]
theorem odd_succ (c k : Nat) : oddTo c (k + 1) = (oddTo c k != decide (bitN c k = 1)) := rfl
theorem odd_high (a b : Nat) (hb : b < 256) : ∀ k, oddTo (256 * a + b) (8 + k) = (oddTo b 8 != oddTo a k)
  | 0 => by rw [Nat.add_zero, odd_low a b hb 8 (by omega)]; cases oddTo b 8 <;> rfl
  | k + 1 => by
    rw [← Nat.add_assoc, odd_succ (256 * a + b), odd_high a b hb k, bit_high a b k hb, odd_succ a]
    cases oddTo b 8 <;> cases oddTo a k <;> cases decide (bitN a k = 1) <;> rfl
theorem odd_pop (c : Nat) (hc : c < 4194304) : oddTo c 22 = decide (popN c % 2 = 1) := by
  rw [pop_sum c (by omega)]
  have e24 : oddTo c 22 = oddTo c 24 := by
    have z1 : bitN c 22 = 0 := by unfold bitN; rw [Nat.div_eq_of_lt (by omega)]
    have z2 : bitN c 23 = 0 := by unfold bitN; rw [Nat.div_eq_of_lt (by omega)]
    show _ = ((oddTo c 22 != decide (bitN c 22 = 1)) != decide (bitN c 23 = 1))
    rw [z1, z2]
    cases oddTo c 22 <;> rfl
  rw [e24]
  have e : c = 256 * (c / 256) + c % 256 := by omega
  have e2 : c / 256 = 256 * (c / 65536) + c / 256 % 256 := by omega
  have h1 := odd_high (c / 256) (c % 256) (by omega) 16
  have h2 := odd_high (c / 65536) (c / 256 % 256) (by omega) 8
  rw [← e] at h1
  rw [← e2] at h2
  rw [h1, h2, odd_byte _ (by omega), odd_byte _ (by omega), odd_byte _ (by omega)]
  generalize popB (c % 256) = x
  generalize popB (c / 256 % 256) = y
  generalize popB (c / 65536) = z
  rcases Nat.mod_two_eq_zero_or_one x with hx | hx <;> rcases Nat.mod_two_eq_zero_or_one y with hy | hy <;> rcases Nat.mod_two_eq_zero_or_one z with hz | hz
  all_goals
    have hs : (x + y + z) % 2 = (x % 2 + y % 2 + z % 2) % 2 := by omega
    rw [hs, hx, hy, hz]
    rfl
end Go.Proofs.Yteelepjhlhifhaa

/- words for memory: a slice whose cells are a list; bytes. -/
namespace Go.Proofs.Yteelepjhlhifhaa
open Go.RowKit

theorem add_block (a : Addr) (n : Nat) : (a.add n).block = a.block := by unfold Addr.add; split <;> rfl
theorem addr_zero (a : Addr) : a.add 0 = a := by simp [Addr.add]
theorem add_twice (a : Addr) (i j : Nat) : (a.add i).add j = a.add (i + j) := by
  unfold Addr.add
  by_cases hi : i = 0 <;> by_cases hj : j = 0 <;> simp [hi, hj, Nat.add_assoc]

theorem below_draws {B : Nat} {a w : World} (h : Below B a w) (n : Nat) : Below B a (w.drewN n) := ⟨h.os, h.tape, h.output, h.size, h.block⟩
/-- at A, below block B, lie the cells xs -/
def Cells (w : World) (B : Nat) (A : Option Addr) (xs : List Value) : Prop :=
  xs = [] ∨ ∃ ad, A = some ad ∧ ad.block < B ∧ ∀ j v, xs[j]? = some v → w.cell? (ad.add j) = some v

theorem Cells.get {w : World} {B : Nat} {A : Option Addr} {xs : List Value} (h : Cells w B A xs) (k : Nat) (hk : k < xs.length) :
    ∃ ad, A = some ad ∧ ad.block < B ∧ w.cell? (ad.add k) = some xs[k] := by
  rcases h with rfl | ⟨ad, e, hb, hc⟩
  · simp at hk
  · exact ⟨ad, e, hb, hc k _ (List.getElem?_eq_getElem hk)⟩
theorem Cells.stay {w w' : World} {B : Nat} {A : Option Addr} {xs : List Value} (h : Cells w B A xs) (hk : ∀ p : Addr, p.block < B → w'.cell? p = w.cell? p) : Cells w' B A xs := by
  rcases h with e | ⟨ad, e, hb, hc⟩
  · exact .inl e
  · exact .inr ⟨ad, e, hb, fun j v hv => (hk _ (by rw [add_block]; exact hb)).trans (hc j v hv)⟩
theorem Cells.below {w w' : World} {B : Nat} {A : Option Addr} {xs : List Value} (h : Cells w B A xs) (hb : Below B w w') : Cells w' B A xs := h.stay fun _ hp => hb.cell hp
theorem Cells.lift {w : World} {B B' : Nat} {A : Option Addr} {xs : List Value} (h : Cells w B A xs) (hb : B ≤ B') : Cells w B' A xs := by
  rcases h with e | ⟨ad, e, hl, hc⟩
  · exact .inl e
  · exact .inr ⟨ad, e, by omega, hc⟩
theorem Cells.tail {w : World} {B : Nat} {A : Option Addr} {xs : List Value} (h : Cells w B A xs) (k : Nat) (hk : k < xs.length) : ∃ ad, A = some ad ∧ Cells w B (some (ad.add k)) (xs.drop k) := by
  rcases h with rfl | ⟨ad, e, hl, hc⟩
  · simp at hk
  · refine ⟨ad, e, .inr ⟨_, rfl, by rw [add_block]; exact hl, fun j v hv => ?_⟩⟩
    rw [add_twice]
    rw [List.getElem?_drop] at hv
    exact hc _ v hv
theorem Cells.front {w : World} {B : Nat} {A : Option Addr} {xs : List Value} (h : Cells w B A xs) (k : Nat) : Cells w B A (xs.take k) := by
  rcases h with rfl | ⟨ad, e, hl, hc⟩
  · exact .inl (by simp)
  · refine .inr ⟨ad, e, hl, fun j v hv => hc j v ?_⟩
    rw [List.getElem?_take] at hv
    split at hv
    · exact hv
    · cases hv

theorem Cells.fresh (w : World) (xs : List Value) (t : TypeId) (z : Nat × Nat) (C : Array Value) (hC : C = xs.toArray) : Cells (w.alloc (.cells C t z)) (w.heap.size + 1) (some ⟨w.heap.size, 0, none⟩) xs := by
  subst hC
  refine .inr ⟨_, rfl, by simp, fun j v hv => ?_⟩
  have e : (w.alloc (.cells xs.toArray t z)).heap[w.heap.size]? = some (.cells xs.toArray t z) := by
    show (w.heap.push _)[w.heap.size]? = _
    simp
  have e2 : (⟨w.heap.size, 0, none⟩ : Addr).add j = ⟨w.heap.size, j, none⟩ := by by_cases h : j = 0 <;> simp [Addr.add, h]
  rw [e2]
  simp only [World.cell?, e]
  simpa using hv

/-- a byte as a cell -/
def bv (c : UInt8) : Value := .int .u8 (c.toNat : Int)
def BR (w : World) (B : Nat) (A : Option Addr) (l : List UInt8) : Prop := Cells w B A (l.map bv)
theorem BR.get {w : World} {B : Nat} {A : Option Addr} {l : List UInt8} (h : BR w B A l) (k : Nat) (hk : k < l.length) :
    ∃ ad, A = some ad ∧ ad.block < B ∧ w.cell? (ad.add k) = some (.int .u8 (l[k].toNat : Int)) := by
  obtain ⟨ad, e, hb, hc⟩ := Cells.get h k (by simpa using hk)
  exact ⟨ad, e, hb, by simpa [bv] using hc⟩
theorem BR.below {w w' : World} {B : Nat} {A : Option Addr} {l : List UInt8} (h : BR w B A l) (hb : Below B w w') : BR w' B A l := Cells.below h hb
theorem BR.lift {w : World} {B B' : Nat} {A : Option Addr} {l : List UInt8} (h : BR w B A l) (hb : B ≤ B') : BR w B' A l := Cells.lift h hb
theorem BR.tail {w : World} {B : Nat} {A : Option Addr} {l : List UInt8} (h : BR w B A l) (k : Nat) (hk : k < l.length) : ∃ ad, A = some ad ∧ BR w B (some (ad.add k)) (l.drop k) := by
  obtain ⟨ad, e, hc⟩ := Cells.tail h k (by simpa using hk)
  exact ⟨ad, e, by simpa [BR] using hc⟩
theorem BR.front {w : World} {B : Nat} {A : Option Addr} {l : List UInt8} (h : BR w B A l) (k : Nat) : BR w B A (l.take k) := by
  have := Cells.front h k
  simpa [BR] using this
theorem ret_int {k : IntKind} {a b : Int} (h : a = b) : Ending.returned (.int k a) = .returned (.int k b) := by rw [h]
theorem ret_bool {a b : Bool} (h : a = b) : Ending.returned (.bool a) = .returned (.bool b) := by rw [h]
theorem Cells.fresh' (w : World) (xs : List Value) (t : TypeId) (z : Nat × Nat) (C : Array Value) (hC : C = xs.toArray) : Cells (w.alloc (.cells C t z)) (w.heap.size + 1) (some ⟨w.heap.size, 0, none⟩) xs := Cells.fresh w xs t z C hC
/-- a number as a cell -/
def iv (z : Int) : Value := .int .i64 z
def IR (w : World) (B : Nat) (A : Option Addr) (l : List Int) : Prop := Cells w B A (l.map iv)
theorem IR.get {w : World} {B : Nat} {A : Option Addr} {l : List Int} (h : IR w B A l) (k : Nat) (hk : k < l.length) :
    ∃ ad, A = some ad ∧ ad.block < B ∧ w.cell? (ad.add k) = some (.int .i64 l[k]) := by
  obtain ⟨ad, e, hb, hc⟩ := Cells.get h k (by simpa using hk)
  exact ⟨ad, e, hb, by simpa [iv] using hc⟩
theorem IR.below {w w' : World} {B : Nat} {A : Option Addr} {l : List Int} (h : IR w B A l) (hb : Below B w w') : IR w' B A l := Cells.below h hb
theorem IR.lift {w : World} {B B' : Nat} {A : Option Addr} {l : List Int} (h : IR w B A l) (hb : B ≤ B') : IR w B' A l := Cells.lift h hb
end Go.Proofs.Yteelepjhlhifhaa

/- the walks of the program's parity, mark, flip and word. -/
namespace Go.Proofs.Yteelepjhlhifhaa
open Go.RowKit

theorem of64 (a : Nat) (ha : a < 9223372036854775808) : (BitVec.ofInt IntKind.i64.bits (a : Int)).toNat = a := by
  show (BitVec.ofInt 64 (a : Int)).toNat = a
  rw [BitVec.ofInt_natCast, BitVec.toNat_ofNat]; exact Nat.mod_eq_of_lt (by omega)
theorem and64 (a b : Nat) (ha : a < 9223372036854775808) (hb : b < 9223372036854775808) : bits .and .i64 (a : Int) (b : Int) = ((a &&& b : Nat) : Int) := by
  have hx : a &&& b < 2 ^ 63 := Nat.and_lt_two_pow _ (by omega)
  have e : (BitVec.ofInt IntKind.i64.bits (a : Int) &&& BitVec.ofInt IntKind.i64.bits (b : Int)).toNat = a &&& b := by rw [BitVec.toNat_and, of64 a ha, of64 b hb]
  unfold bits
  simp only [e]
  exact IntWalk.i64_in _ (by omega)
theorem or64 (a b : Nat) (ha : a < 9223372036854775808) (hb : b < 9223372036854775808) : bits .or .i64 (a : Int) (b : Int) = ((a ||| b : Nat) : Int) := by
  have hx : a ||| b < 2 ^ 63 := Nat.or_lt_two_pow (by omega) (by omega)
  have e : (BitVec.ofInt IntKind.i64.bits (a : Int) ||| BitVec.ofInt IntKind.i64.bits (b : Int)).toNat = a ||| b := by rw [BitVec.toNat_or, of64 a ha, of64 b hb]
  unfold bits
  simp only [e]
  exact IntWalk.i64_in _ (by omega)
theorem xor64 (a b : Nat) (ha : a < 9223372036854775808) (hb : b < 9223372036854775808) : bits .xor .i64 (a : Int) (b : Int) = ((a ^^^ b : Nat) : Int) := by
  have hx : a ^^^ b < 2 ^ 63 := Nat.xor_lt_two_pow (by omega) (by omega)
  have e : (BitVec.ofInt IntKind.i64.bits (a : Int) ^^^ BitVec.ofInt IntKind.i64.bits (b : Int)).toNat = a ^^^ b := by rw [BitVec.toNat_xor, of64 a ha, of64 b hb]
  unfold bits
  simp only [e]
  exact IntWalk.i64_in _ (by omega)

theorem wu64 (a : Nat) (ha : a < 18446744073709551616) : IntKind.u64.wrap (a : Int) = (a : Int) := by rw [IntKind.wrap_u64]; omega
theorem half_le (s m x : Nat) : halfN s m x ≤ 2 * x := by
  unfold halfN
  have h1 : x / s &&& m ≤ x / s := Nat.and_le_left
  have h2 : x &&& m ≤ x := Nat.and_le_left
  have h3 : x / s ≤ x := Nat.div_le_self _ _
  omega
theorem halfU (s m x : Nat) (hm : m < 18446744073709551616) (hx : x < 4294967296) :
    IntKind.u64.wrap (bits .and .u64 ((x : Int) / (s : Int)) (m : Int) + bits .and .u64 (x : Int) (m : Int)) = ((halfN s m x : Nat) : Int) := by
  have h3 : x / s ≤ x := Nat.div_le_self _ _
  have h := half_le s m x
  rw [← Int.natCast_ediv, u64_and_nat _ _ (by omega) hm, u64_and_nat _ _ (by omega) hm, ← Int.natCast_add]
  exact wu64 _ (by unfold halfN at h; omega)
theorem foldU (m x : Nat) (hm : m < 18446744073709551616) (hx : x < 4294967296) :
    bits .and .u64 (IntKind.u64.wrap ((x : Int) / 16 + (x : Int))) (m : Int) = ((foldN m x : Nat) : Int) := by
  rw [show (x : Int) / 16 + (x : Int) = ((x / 16 + x : Nat) : Int) by omega, wu64 _ (by omega), u64_and_nat _ _ (by omega) hm]
  rfl
theorem fold_le (m x : Nat) : foldN m x ≤ 2 * x := by
  unfold foldN
  have h1 : (x / 16 + x) &&& m ≤ x / 16 + x := Nat.and_le_left
  omega
set_option maxRecDepth 100000 in
set_option maxHeartbeats 1000000 in
theorem ones64_any (c : Nat) (hc : c < 4194304) (w : World) :
    Calls Try.prog 123 #[.int .u64 (c : Int)] w fun e w' => e = .returned (.int .i64 ((popN c : Nat) : Int)) ∧ w = w' := by
  go_enter Try.func123, Try.ntmps123
  go_wp2
  go_ret
  refine ⟨ret_int ?_, rfl⟩
  have e1 := halfU 2 6148914691236517205 c (by omega) (by omega)
  have l1 := half_le 2 6148914691236517205 c
  have e2 := halfU 4 3689348814741910323 (halfN 2 6148914691236517205 c) (by omega) (by omega)
  have l2 := half_le 4 3689348814741910323 (halfN 2 6148914691236517205 c)
  have e3 := foldU 1085102592571150095 (halfN 4 3689348814741910323 (halfN 2 6148914691236517205 c)) (by omega) (by omega)
  have l3 := fold_le 1085102592571150095 (halfN 4 3689348814741910323 (halfN 2 6148914691236517205 c))
  simp only [Int.cast_ofNat_Int] at e1 e2 e3
  unfold popN
  rw [e1, e2, e3]
  generalize foldN 1085102592571150095 (halfN 4 3689348814741910323 (halfN 2 6148914691236517205 c)) = x at *
  have a1 : IntKind.u64.wrap ((x : Int) + (x : Int) / 256) = ((popX x : Nat) : Int) := by
    rw [show (x : Int) + (x : Int) / 256 = ((popX x : Nat) : Int) by unfold popX; omega]; exact wu64 _ (by unfold popX; omega)
  rw [a1]
  have l4 : popX x < 4294967296 := by unfold popX; omega
  generalize popX x = y at *
  have a2 : IntKind.u64.wrap ((y : Int) + (y : Int) / 65536) = ((popY y : Nat) : Int) := by
    rw [show (y : Int) + (y : Int) / 65536 = ((popY y : Nat) : Int) by unfold popY; omega]; exact wu64 _ (by unfold popY; omega)
  rw [a2]
  have l5 : popY y < 8589934592 := by unfold popY; omega
  generalize popY y = z at *
  have a3 : IntKind.u64.wrap ((z : Int) + (z : Int) / 4294967296) = ((popZ z : Nat) : Int) := by
    rw [show (z : Int) + (z : Int) / 4294967296 = ((popZ z : Nat) : Int) by unfold popZ; omega]; exact wu64 _ (by unfold popZ; omega)
  have l6 : popZ z < 17179869184 := by unfold popZ; omega
  rw [a3]
  generalize popZ z = u at *
  rw [IntWalk.wrap64_in _ ⟨by omega, by omega⟩]
  exact and64 u 127 (by omega) (by omega)
set_option maxRecDepth 100000 in
set_option maxHeartbeats 400000 in
theorem ones_any (c : Nat) (hc : c < 4194304) (w : World) :
    Calls Try.prog 113 #[.int .u64 (c : Int)] w fun e w' => e = .returned (.int .i64 ((popN c : Nat) : Int)) ∧ w = w' := by
  have H := Lib.hid (ones64_any c hc w)
  go_enter Try.func113, Try.ntmps113
  go_wp2_with fail
  refine H.out.mono ?_
  rintro e w' ⟨rfl, rfl⟩
  go_wp2_with fail
  go_ret
  exact ⟨rfl, rfl⟩
theorem pop_le (c : Nat) : popN c ≤ 127 := by
  unfold popN
  rw [and127]
  omega
set_option maxRecDepth 100000 in
set_option maxHeartbeats 400000 in
theorem odd_any (c : Nat) (hc : c < 4194304) (w : World) :
    Calls Try.prog 97 #[.int .i64 (c : Int)] w fun e w' => e = .returned (.bool (oddTo c 22)) ∧ w = w' := by
  have H := Lib.hid (ones_any c hc w)
  have hp := pop_le c
  have HO := Lib.hid (odd_pop c hc)
  generalize popN c = p at *
  go_enter Try.func97, Try.ntmps97
  go_wp2_with fail
  refine H.out.mono ?_
  rintro e w' ⟨rfl, rfl⟩
  go_wp2_with fail
  go_ret
  refine ⟨ret_bool ?_, rfl⟩
  rw [HO.out]
  have e : (p : Int) % 2 = ((p % 2 : Nat) : Int) := by omega
  rw [e]
  rcases Nat.mod_two_eq_zero_or_one p with h | h <;> rw [h] <;> rfl
theorem wpow (b : Nat) (hb : b < 62) : wrap64 ((2 : Int) ^ b) = ((2 ^ b : Nat) : Int) := by
  have hp : 2 ^ b < 2 ^ 62 := Nat.pow_lt_pow_right (by omega) hb
  rw [show ((2 : Int) ^ b) = ((2 ^ b : Nat) : Int) by simp]
  generalize 2 ^ b = P at *
  exact IntWalk.wrap64_in _ ⟨by omega, by omega⟩
set_option maxRecDepth 100000 in
set_option maxHeartbeats 400000 in
theorem flipped_any (c b : Nat) (hc : c < 4194304) (hb : b < 22) (z : Int) (hz : Hid (z = (b : Int) + 1)) (w : World) :
    Calls Try.prog 96 #[.int .i64 (c : Int), .int .i64 z] w fun e w' => e = .returned (.int .i64 ((c ^^^ 2 ^ b : Nat) : Int)) ∧ w = w' := by
  obtain rfl : z = (b : Int) + 1 := hz
  have hp : 2 ^ b < 2 ^ 22 := Nat.pow_lt_pow_right (by omega) hb
  have hx := xor64 c (2 ^ b) (by omega) (by omega)
  have hw := wpow b (by omega)
  go_enter Try.func96, Try.ntmps96
  go_wp2
  go_ret
  exact ⟨ret_int (by rw [show ((2 : Int) ^ b) = ((2 ^ b : Nat) : Int) by simp]; exact hx), rfl⟩

theorem shr_nat (c k : Nat) : (c : Int) / 2 ^ k = ((c / 2 ^ k : Nat) : Int) := by simp
theorem and_one (x : Nat) (hx : x < 4194304) : bits .and .i64 (x : Int) 1 = ((x % 2 : Nat) : Int) := by
  have := and64 x 1 (by omega) (by omega)
  rw [Nat.and_one_is_mod] at this
  exact this
theorem and_bit (c k : Nat) (hc : c < 4194304) : bits .and .i64 ((c : Int) / 2 ^ k) 1 = ((bitN c k : Nat) : Int) := by
  rw [shr_nat]
  exact and_one _ (Nat.lt_of_le_of_lt (Nat.div_le_self _ _) hc)
set_option maxRecDepth 100000 in
set_option maxHeartbeats 1000000 in
theorem mark_any (c : Nat) (hc : c < 4194304) (w : World) :
    Calls Try.prog 95 #[.int .i64 (c : Int)] w fun e w' => e = .returned (.int .i64 ((markTo c 21 : Nat) : Int)) ∧ w = w' := by
  go_enter Try.func95, Try.ntmps95
  go_wp2
  go_loop [3, 4] (fun m i => ∃ k : Nat, k ≤ 21 ∧ i = .int .i64 ((k : Int) + 1) ∧ m = .int .i64 ((markTo c k : Nat) : Int)) (fun _ i => 23 - (intOf i).toNat)
  case atStart => exact ⟨0, by omega, rfl, rfl⟩
  case round =>
    obtain ⟨k, hk, rfl, rfl⟩ := hrel
    by_cases hlt : k < 21
    · have hb := and_bit c k hc
      have hml := mark_lt c k hk
      have HS := Lib.hid (show markTo c (k + 1) = if bitN c k = 1 then markTo c k ^^^ (k + 1) else markTo c k from rfl)
      have hx := xor64 (markTo c k) (k + 1) (by omega) (by omega)
      generalize markTo c k = M at *
      by_cases h1 : bitN c k = 1
      · rw [if_pos h1] at HS
        rw [h1] at hb
        have HX := Lib.hid hx
        clear hx h1
        go_wp2
        go_round
        case rel => exact ⟨k + 1, by omega, by go_num, by rw [HS.out]; exact congrArg _ HX.out⟩
        case measure => simp [intOf]; omega
      · rw [if_neg h1] at HS
        have h0 : bitN c k = 0 := by have := bit_lt c k; omega
        rw [h0] at hb
        clear hx h1 h0
        go_wp2
        go_round
        case rel => exact ⟨k + 1, by omega, by go_num, by rw [HS.out]⟩
        case measure => simp [intOf]; omega
    · obtain rfl : k = 21 := by omega
      go_wp2
      go_ret
      exact ⟨rfl, rfl⟩
end Go.Proofs.Yteelepjhlhifhaa

/- the walks of the program's codes and words. -/
namespace Go.Proofs.Yteelepjhlhifhaa
open Go.RowKit

theorem or_add (a b k : Nat) (ha : a < 2 ^ k) : a ||| b * 2 ^ k = a + b * 2 ^ k := by
  have := Nat.two_pow_add_eq_or_of_lt ha b
  rw [Nat.or_comm, Nat.mul_comm b, ← this, Nat.add_comm]
theorem wi64 (a : Nat) (ha : a < 9223372036854775808) : wrap64 (a : Int) = (a : Int) := IntWalk.wrap64_in _ ⟨by omega, by omega⟩
/-- a field of k bits, moved up by s -/
theorem and_field (x k m s : Nat) (hm : m = 2 ^ k - 1) (hk : k ≤ 7) (hx : x < 4194304) (hs : s ≤ 65536) : wrap64 (bits .and .i64 (x : Int) (m : Int) * (s : Int)) = ((x % 2 ^ k * s : Nat) : Int) := by
  have h1 : 2 ^ k ≤ 2 ^ 7 := Nat.pow_le_pow_right (by omega) hk
  have h2 : x % 2 ^ k < 2 ^ k := Nat.mod_lt _ (Nat.two_pow_pos k)
  have h3 : x % 2 ^ k * s ≤ 128 * 65536 := Nat.mul_le_mul (by omega) hs
  rw [hm, and64 _ _ (by omega) (by omega), Nat.and_two_pow_sub_one_eq_mod, ← Int.natCast_mul]
  exact wi64 _ (by omega)
theorem and_low (x k m : Nat) (hm : m = 2 ^ k - 1) (hk : k ≤ 7) (hx : x < 4194304) : bits .and .i64 (x : Int) (m : Int) = ((x % 2 ^ k : Nat) : Int) := by
  have h1 : 2 ^ k ≤ 2 ^ 7 := Nat.pow_le_pow_right (by omega) hk
  rw [hm, and64 _ _ (by omega) (by omega), Nat.and_two_pow_sub_one_eq_mod]
theorem gather_bits (c : Nat) (hc : c < 4194304) :
    bits .or .i64 (bits .or .i64 (bits .or .i64 (bits .and .i64 ((c : Int) / 4) 1) (wrap64 (bits .and .i64 ((c : Int) / 16) 7 * 2))) (wrap64 (bits .and .i64 ((c : Int) / 256) 127 * 16)))
      (wrap64 (bits .and .i64 ((c : Int) / 65536) 31 * 2048)) = ((gather c : Nat) : Int) := by
  have e1 := and_low (c / 4) 1 1 rfl (by omega) (by omega)
  have e2 := and_field (c / 16) 3 7 2 rfl (by omega) (by omega) (by omega)
  have e3 := and_field (c / 256) 7 127 16 rfl (by omega) (by omega) (by omega)
  have e4 := and_field (c / 65536) 5 31 2048 rfl (by omega) (by omega) (by omega)
  simp only [Nat.reducePow, Int.natCast_ediv, Int.cast_ofNat_Int] at e1 e2 e3 e4
  rw [e1, e2, e3, e4]
  have b1 : c / 4 % 2 < 2 := Nat.mod_lt _ (by omega)
  have b2 : c / 16 % 8 < 8 := Nat.mod_lt _ (by omega)
  have b3 : c / 256 % 128 < 128 := Nat.mod_lt _ (by omega)
  have b4 : c / 65536 % 32 < 32 := Nat.mod_lt _ (by omega)
  unfold gather
  generalize c / 4 % 2 = a1, c / 16 % 8 = a2, c / 256 % 128 = a3, c / 65536 % 32 = a4 at *
  rw [or64 _ _ (by omega) (by omega), or_add _ a2 1 (by omega), or64 _ _ (by omega) (by omega), or_add _ a3 4 (by omega), or64 _ _ (by omega) (by omega), or_add _ a4 11 (by omega)]
theorem spread_bits (n : Nat) (hn : n < 65536) :
    bits .or .i64 (bits .or .i64 (bits .or .i64 (wrap64 (bits .and .i64 (n : Int) 1 * 4)) (wrap64 (bits .and .i64 ((n : Int) / 2) 7 * 16))) (wrap64 (bits .and .i64 ((n : Int) / 16) 127 * 256)))
      (wrap64 (bits .and .i64 ((n : Int) / 2048) 31 * 65536)) = ((spread n : Nat) : Int) := by
  have e1 := and_field n 1 1 4 rfl (by omega) (by omega) (by omega)
  have e2 := and_field (n / 2) 3 7 16 rfl (by omega) (by omega) (by omega)
  have e3 := and_field (n / 16) 7 127 256 rfl (by omega) (by omega) (by omega)
  have e4 := and_field (n / 2048) 5 31 65536 rfl (by omega) (by omega) (by omega)
  simp only [Nat.reducePow, Int.natCast_ediv, Int.cast_ofNat_Int] at e1 e2 e3 e4
  rw [e1, e2, e3, e4]
  have b1 : n % 2 < 2 := Nat.mod_lt _ (by omega)
  have b2 : n / 2 % 8 < 8 := Nat.mod_lt _ (by omega)
  have b3 : n / 16 % 128 < 128 := Nat.mod_lt _ (by omega)
  have b4 : n / 2048 % 32 < 32 := Nat.mod_lt _ (by omega)
  unfold spread
  generalize n % 2 = a1, n / 2 % 8 = a2, n / 16 % 128 = a3, n / 2048 % 32 = a4 at *
  rw [or64 _ _ (by omega) (by omega), or_add _ a2 4 (by omega), or64 _ _ (by omega) (by omega), or_add _ a3 8 (by omega), or64 _ _ (by omega) (by omega), or_add _ a4 16 (by omega)]

set_option maxRecDepth 100000 in
set_option maxHeartbeats 400000 in
theorem wordOf_any (c : Nat) (hc : c < 4194304) (w : World) :
    Calls Try.prog 100 #[.int .i64 (c : Int)] w fun e w' => e = .returned (.int .i64 ((gather c : Nat) : Int)) ∧ w = w' := by
  go_enter Try.func100, Try.ntmps100
  go_wp2
  go_ret
  exact ⟨ret_int (gather_bits c hc), rfl⟩

/-- the check bits, one behind the other -/
def checkOf : Nat → Int
  | 0 => 1
  | 1 => 2
  | 2 => 4
  | 3 => 8
  | 4 => 16
  | _ => 32
theorem and_check (m : Nat) (hm : m < 32) (k : Nat) (hk : k < 5) : bits .and .i64 (m : Int) (checkOf k) = if bitN m k = 1 then checkOf k else 0 := by
  have key : ∀ m, m < 32 → ∀ k, k < 5 → ((m &&& 2 ^ k : Nat) : Int) = if bitN m k = 1 then checkOf k else 0 := by decide +kernel
  have e : checkOf k = ((2 ^ k : Nat) : Int) := by
    rcases (by omega : k = 0 ∨ k = 1 ∨ k = 2 ∨ k = 3 ∨ k = 4) with rfl | rfl | rfl | rfl | rfl <;> rfl
  have hp : 2 ^ k < 2 ^ 5 := Nat.pow_lt_pow_right (by omega) hk
  rw [← key m hm k hk, e]
  exact and64 m (2 ^ k) (by omega) (by omega)
set_option maxRecDepth 100000 in
set_option maxHeartbeats 1000000 in
theorem coded_any (n : Nat) (hn : n < 65536) (w : World) :
    Calls Try.prog 68 #[.int .i64 (n : Int)] w fun e w' => e = .returned (.int .i64 ((codeN n : Nat) : Int)) ∧ w = w' := by
  have HS := Lib.hid (spread_bits n hn)
  have hs := spread_lt n
  have HM := Lib.hid (mark_any (spread n) (by omega))
  have HN := Lib.hid (show nearCode n = checksTo (markTo (spread n) 21) (spread n) 5 from rfl)
  have hml := mark_lt (spread n) 21 (by omega)
  generalize hm0 : markTo (spread n) 21 = m at *
  have HC := Lib.hid (checks_lt m (spread n) (by omega))
  have HO := Lib.hid (odd_any (nearCode n) (near_lt n))
  have HF := Lib.hid (flipped_any (nearCode n) 21 (near_lt n) (by omega) 22 rfl)
  have HE := Lib.hid (show codeN n = if oddTo (nearCode n) 22 = true then nearCode n ^^^ 2 ^ 21 else nearCode n from rfl)
  generalize codeN n = R at *
  go_enter Try.func68, Try.ntmps68
  go_wp2_with fail
  simp only [HS.out]
  refine (HM.out _).mono ?_
  rintro e w' ⟨rfl, rfl⟩
  clear hm0 HS HM
  generalize spread n = s at *
  go_wp2_with fail
  go_loop [3, 5] (fun c i => ∃ k : Nat, k ≤ 5 ∧ i = .int .i64 (checkOf k) ∧ c = .int .i64 ((checksTo m s k : Nat) : Int)) (fun _ i => 64 - (intOf i).toNat)
  case atStart => exact ⟨0, by omega, rfl, rfl⟩
  case round =>
    obtain ⟨k, hk, rfl, rfl⟩ := hrel
    by_cases hlt : k < 5
    · have hcl := HC.out k hk
      have hand := and_check m hml k hlt
      have HK := Lib.hid (show checksTo m s (k + 1) = if bitN m k = 1 then checksTo m s k ^^^ 2 ^ (2 ^ k - 1) else checksTo m s k from rfl)
      generalize checksTo m s k = c at *
      by_cases h1 : bitN m k = 1
      · rw [if_pos h1] at HK hand
        clear h1 hk
        have hc : k = 0 ∨ k = 1 ∨ k = 2 ∨ k = 3 ∨ k = 4 := by omega
        clear hlt
        rcases hc with rfl | rfl | rfl | rfl | rfl <;> simp only [checkOf, Nat.reducePow, Nat.reduceSub] at *
        · have HF1 := Lib.hid (flipped_any c 0 hcl (by omega) 1 rfl)
          go_wp2_with fail
          refine (HF1.out _).mono ?_
          rintro e w' ⟨rfl, rfl⟩
          go_wp2_with fail
          go_round
          case rel => exact ⟨1, by omega, rfl, by rw [HK.out]⟩
          case measure => simp [intOf]
        · have HF1 := Lib.hid (flipped_any c 1 hcl (by omega) 2 rfl)
          go_wp2_with fail
          refine (HF1.out _).mono ?_
          rintro e w' ⟨rfl, rfl⟩
          go_wp2_with fail
          go_round
          case rel => exact ⟨2, by omega, rfl, by rw [HK.out]⟩
          case measure => simp [intOf]
        · have HF1 := Lib.hid (flipped_any c 3 hcl (by omega) 4 rfl)
          go_wp2_with fail
          refine (HF1.out _).mono ?_
          rintro e w' ⟨rfl, rfl⟩
          go_wp2_with fail
          go_round
          case rel => exact ⟨3, by omega, rfl, by rw [HK.out]⟩
          case measure => simp [intOf]
        · have HF1 := Lib.hid (flipped_any c 7 hcl (by omega) 8 rfl)
          go_wp2_with fail
          refine (HF1.out _).mono ?_
          rintro e w' ⟨rfl, rfl⟩
          go_wp2_with fail
          go_round
          case rel => exact ⟨4, by omega, rfl, by rw [HK.out]⟩
          case measure => simp [intOf]
        · have HF1 := Lib.hid (flipped_any c 15 hcl (by omega) 16 rfl)
          go_wp2_with fail
          refine (HF1.out _).mono ?_
          rintro e w' ⟨rfl, rfl⟩
          go_wp2_with fail
          go_round
          case rel => exact ⟨5, by omega, rfl, by rw [HK.out]⟩
          case measure => simp [intOf]
      · rw [if_neg h1] at HK hand
        clear h1 hk
        have hc : k = 0 ∨ k = 1 ∨ k = 2 ∨ k = 3 ∨ k = 4 := by omega
        clear hlt
        rcases hc with rfl | rfl | rfl | rfl | rfl <;> simp only [checkOf] at *
        · go_wp2_with fail
          go_round
          case rel => exact ⟨1, by omega, rfl, by rw [HK.out]⟩
          case measure => simp [intOf]
        · go_wp2_with fail
          go_round
          case rel => exact ⟨2, by omega, rfl, by rw [HK.out]⟩
          case measure => simp [intOf]
        · go_wp2_with fail
          go_round
          case rel => exact ⟨3, by omega, rfl, by rw [HK.out]⟩
          case measure => simp [intOf]
        · go_wp2_with fail
          go_round
          case rel => exact ⟨4, by omega, rfl, by rw [HK.out]⟩
          case measure => simp [intOf]
        · go_wp2_with fail
          go_round
          case rel => exact ⟨5, by omega, rfl, by rw [HK.out]⟩
          case measure => simp [intOf]
    · obtain rfl : k = 5 := by omega
      have HN2 := Lib.hid HN.out.symm
      simp only [checkOf]
      rw [HN2.out]
      clear HN HN2 HC
      generalize nearCode n = q at *
      go_wp2_with fail
      refine (HO.out _).mono ?_
      rintro e w' ⟨rfl, rfl⟩
      cases ho : oddTo q 22
      · have HR : Hid (R = q) := by have := HE.out; rw [ho] at this; exact Lib.hid (by simpa using this)
        clear HE ho
        go_wp2_with fail
        go_ret
        exact ⟨ret_int (by rw [HR.out]), rfl⟩
      · have HR : Hid (R = q ^^^ 2 ^ 21) := by have := HE.out; rw [ho] at this; exact Lib.hid (by simpa using this)
        clear HE ho
        go_wp2_with fail
        refine (HF.out _).mono ?_
        rintro e w' ⟨rfl, rfl⟩
        go_wp2_with fail
        go_ret
        exact ⟨ret_int (by rw [HR.out]), rfl⟩
end Go.Proofs.Yteelepjhlhifhaa

/- the walks of the program's Coded, Kind and Decoded. -/
namespace Go.Proofs.Yteelepjhlhifhaa
open Go.RowKit

set_option maxRecDepth 100000 in
set_option maxHeartbeats 400000 in
theorem within_any (n a b : Int) (w : World) :
    Calls Try.prog 67 #[.int .i64 n, .int .i64 a, .int .i64 b] w fun e w' => e = .returned (.bool (decide (a ≤ n ∧ n ≤ b))) ∧ w = w' := by
  by_cases h1 : a ≤ n
  · by_cases h2 : n ≤ b
    · have hd := Lib.hid (show decide (a ≤ n ∧ n ≤ b) = true by simp [h1, h2])
      go_enter Try.func67, Try.ntmps67
      go_wp2
      go_ret
      exact ⟨ret_bool (by have := hd.out; simp_all), rfl⟩
    · have hd := Lib.hid (show decide (a ≤ n ∧ n ≤ b) = false by simp [h2])
      go_enter Try.func67, Try.ntmps67
      go_wp2
      go_ret
      exact ⟨ret_bool (by have := hd.out; simp_all), rfl⟩
  · have hd := Lib.hid (show decide (a ≤ n ∧ n ≤ b) = false by simp [h1])
    go_enter Try.func67, Try.ntmps67
    go_wp2
    go_ret
    exact ⟨ret_bool (by have := hd.out; simp_all), rfl⟩
set_option maxRecDepth 100000 in
set_option maxHeartbeats 400000 in
theorem rwithin_any (n a b : Int) (w : World) :
    Calls Try.prog 81 #[.int .i64 n, .int .i64 a, .int .i64 b] w fun e w' => e = .returned (.bool (decide (a ≤ n ∧ n ≤ b))) ∧ w = w' := by
  by_cases h1 : a ≤ n
  · by_cases h2 : n ≤ b
    · have hd := Lib.hid (show decide (a ≤ n ∧ n ≤ b) = true by simp [h1, h2])
      go_enter Try.func81, Try.ntmps81
      go_wp2
      go_ret
      exact ⟨ret_bool (by have := hd.out; simp_all), rfl⟩
    · have hd := Lib.hid (show decide (a ≤ n ∧ n ≤ b) = false by simp [h2])
      go_enter Try.func81, Try.ntmps81
      go_wp2
      go_ret
      exact ⟨ret_bool (by have := hd.out; simp_all), rfl⟩
  · have hd := Lib.hid (show decide (a ≤ n ∧ n ≤ b) = false by simp [h1])
    go_enter Try.func81, Try.ntmps81
    go_wp2
    go_ret
    exact ⟨ret_bool (by have := hd.out; simp_all), rfl⟩

/-- the numbers of faults -/
def decN (c : Nat) : Nat × Nat × Nat := if (kindN c).1 = 3 then (0, 0, 15) else if (kindN c).1 = 2 then (gather (c ^^^ 2 ^ ((kindN c).2 - 1)), 1, 0) else (gather c, 0, 0)
theorem kind_bit (c : Nat) (h : (kindN c).1 = 2) : 1 ≤ (kindN c).2 ∧ (kindN c).2 ≤ 22 := by
  have hm := mark_lt c 21 (by omega)
  unfold kindN at *
  generalize markTo c 21 = m at *
  by_cases h1 : oddTo c 22 = true
  · simp only [h1, if_true] at *
    by_cases h2 : m = 0
    · simp [h2]
    · by_cases h3 : m < 22
      · simp [h2, h3]; omega
      · simp [h2, h3] at h
  · simp only [h1] at *
    by_cases h2 : m = 0
    · simp [h2] at h
    · simp [h2] at h
theorem kind_three (c : Nat) : (kindN c).1 = 1 ∨ (kindN c).1 = 2 ∨ (kindN c).1 = 3 := by
  unfold kindN
  split
  · split
    · simp
    · split <;> simp
  · split <;> simp
def codS (z : Int) : Int × Int := if 0 ≤ z ∧ z ≤ 65535 then ((codeN z.toNat : Nat), 0) else (0, 1)
def kindS (z : Int) : Int × Int × Int := if 0 ≤ z ∧ z ≤ 4194303 then (((kindN z.toNat).1 : Nat), ((kindN z.toNat).2 : Nat), 0) else (0, 0, 1)
def decS (z : Int) : Int × Int × Int := if 0 ≤ z ∧ z ≤ 4194303 then (((decN z.toNat).1 : Nat), ((decN z.toNat).2.1 : Nat), ((decN z.toNat).2.2 : Nat)) else (0, 0, 1)
/-- two, three results -/
def two (p : Int × Int) : Value := .tuple #[.int .i64 p.1, .int .i64 p.2]
def three' (p : Int × Int × Int) : Value := .tuple #[.int .i64 p.1, .int .i64 p.2.1, .int .i64 p.2.2]

set_option maxRecDepth 100000 in
set_option maxHeartbeats 400000 in
theorem kindOf_any (c : Nat) (hc : c < 4194304) (w : World) :
    Calls Try.prog 99 #[.int .i64 (c : Int)] w fun e w' => e = .returned (.tuple #[.int .i64 ((kindN c).1 : Int), .int .i64 ((kindN c).2 : Int)]) ∧ w = w' := by
  have HM := Lib.hid (mark_any c hc)
  have HO := Lib.hid (odd_any c hc)
  have HK := Lib.hid (show kindN c = if oddTo c 22 = true then (if markTo c 21 = 0 then (2, 22) else if markTo c 21 < 22 then (2, markTo c 21) else (3, 0)) else if markTo c 21 = 0 then (1, 0) else (3, 0) from rfl)
  generalize kindN c = K at *
  generalize markTo c 21 = m at *
  cases ho : oddTo c 22
  · rw [ho] at HO HK
    by_cases hm : m = 0
    · subst hm
      have HK2 : Hid (K = (1, 0)) := Lib.hid (by simpa using HK.out)
      clear HK ho
      go_enter Try.func99, Try.ntmps99
      go_wp2_with (first | (go_at_call 95; refine (HM.out _).mono ?_; rintro e w' ⟨rfl, rfl⟩) | (go_at_call 97; refine (HO.out _).mono ?_; rintro e w' ⟨rfl, rfl⟩) | fail)
      go_ret2
      rw [HK2.out]
      exact ⟨rfl, rfl⟩
    · have HK2 : Hid (K = (3, 0)) := Lib.hid (by have := HK.out; rw [if_neg (by simp), if_neg hm] at this; exact this)
      have hm1 : ((m : Int) != 0) = true := by simp; omega
      clear HK ho
      go_enter Try.func99, Try.ntmps99
      go_wp2_with (first | (go_at_call 95; refine (HM.out _).mono ?_; rintro e w' ⟨rfl, rfl⟩) | (go_at_call 97; refine (HO.out _).mono ?_; rintro e w' ⟨rfl, rfl⟩) | fail)
      go_ret2
      rw [HK2.out]
      exact ⟨rfl, rfl⟩
  · rw [ho] at HO HK
    by_cases hm : m = 0
    · subst hm
      have HK2 : Hid (K = (2, 22)) := Lib.hid (by simpa using HK.out)
      clear HK ho
      go_enter Try.func99, Try.ntmps99
      go_wp2_with (first | (go_at_call 95; refine (HM.out _).mono ?_; rintro e w' ⟨rfl, rfl⟩) | (go_at_call 97; refine (HO.out _).mono ?_; rintro e w' ⟨rfl, rfl⟩) | fail)
      go_ret2
      rw [HK2.out]
      exact ⟨rfl, rfl⟩
    · have hm1 : ((m : Int) == 0) = false := by simp; omega
      by_cases hm2 : m < 22
      · have HK2 : Hid (K = (2, m)) := Lib.hid (by have := HK.out; rw [if_pos rfl, if_neg hm, if_pos hm2] at this; exact this)
        clear HK ho
        go_enter Try.func99, Try.ntmps99
        go_wp2_with (first | (go_at_call 95; refine (HM.out _).mono ?_; rintro e w' ⟨rfl, rfl⟩) | (go_at_call 97; refine (HO.out _).mono ?_; rintro e w' ⟨rfl, rfl⟩) | fail)
        go_ret2
        rw [HK2.out]
        exact ⟨rfl, rfl⟩
      · have HK2 : Hid (K = (3, 0)) := Lib.hid (by have := HK.out; rw [if_pos rfl, if_neg hm, if_neg hm2] at this; exact this)
        clear HK ho
        go_enter Try.func99, Try.ntmps99
        go_wp2_with (first | (go_at_call 95; refine (HM.out _).mono ?_; rintro e w' ⟨rfl, rfl⟩) | (go_at_call 97; refine (HO.out _).mono ?_; rintro e w' ⟨rfl, rfl⟩) | fail)
        go_ret2
        rw [HK2.out]
        exact ⟨rfl, rfl⟩

set_option maxRecDepth 100000 in
set_option maxHeartbeats 400000 in
theorem Coded_any (z : Int) (w : World) :
    Calls Try.prog 29 #[.int .i64 z] w fun e w' => e = .returned (two (codS z)) ∧ w = w' := by
  by_cases h : 0 ≤ z ∧ z ≤ 65535
  · obtain ⟨n, rfl⟩ : ∃ n : Nat, z = (n : Int) := ⟨z.toNat, by omega⟩
    have hn : n < 65536 := by omega
    have HR := Lib.hid (show codS (n : Int) = (((codeN n : Nat) : Int), (0 : Int)) by unfold codS; rw [if_pos h]; rfl)
    have HC := Lib.hid (coded_any n hn)
    have hd : decide ((0 : Int) ≤ (n : Int) ∧ (n : Int) ≤ 65535) = true := by simp; omega
    go_enter Try.func29, Try.ntmps29
    go_wp2_with (first | (go_at_call 67; refine (within_any _ _ _ _).mono ?_; rintro e w' ⟨rfl, rfl⟩) | (go_at_call 68; refine (HC.out _).mono ?_; rintro e w' ⟨rfl, rfl⟩) | fail)
    go_ret2
    rw [HR.out]
    exact ⟨rfl, rfl⟩
  · have HR := Lib.hid (show codS z = (0, 1) by unfold codS; rw [if_neg h])
    have hd : decide ((0 : Int) ≤ z ∧ z ≤ 65535) = false := by simp; omega
    go_enter Try.func29, Try.ntmps29
    go_wp2_with (first | (go_at_call 67; refine (within_any _ _ _ _).mono ?_; rintro e w' ⟨rfl, rfl⟩) | fail)
    go_ret2
    rw [HR.out]
    exact ⟨rfl, rfl⟩
set_option maxRecDepth 100000 in
set_option maxHeartbeats 400000 in
theorem Decoded_any (z : Int) (w : World) :
    Calls Try.prog 72 #[.int .i64 z] w fun e w' => e = .returned (three' (decS z)) ∧ w = w' := by
  by_cases h : 0 ≤ z ∧ z ≤ 4194303
  · obtain ⟨n, rfl⟩ : ∃ n : Nat, z = (n : Int) := ⟨z.toNat, by omega⟩
    have hn : n < 4194304 := by omega
    have HR := Lib.hid (show decS (n : Int) = ((((decN n).1 : Nat) : Int), (((decN n).2.1 : Nat) : Int), (((decN n).2.2 : Nat) : Int)) by unfold decS; rw [if_pos h]; rfl)
    have HC := Lib.hid (kindOf_any n hn)
    have hd : decide ((0 : Int) ≤ (n : Int) ∧ (n : Int) ≤ 4194303) = true := by simp; omega
    have hk := kind_three n
    have hb := kind_bit n
    have HD := Lib.hid (show decN n = if (kindN n).1 = 3 then (0, 0, 15) else if (kindN n).1 = 2 then (gather (n ^^^ 2 ^ ((kindN n).2 - 1)), 1, 0) else (gather n, 0, 0) from rfl)
    rw [HD.out] at HR
    clear HD
    generalize kindN n = K at *
    obtain ⟨k, b⟩ := K
    simp only at *
    rcases hk with rfl | rfl | rfl
    · clear hb
      have HG := Lib.hid (wordOf_any n hn)
      go_enter Try.func72, Try.ntmps72
      go_wp2_with (first | (go_at_call 67; refine (within_any _ _ _ _).mono ?_; rintro e w' ⟨rfl, rfl⟩) | (go_at_call 99; refine (HC.out _).mono ?_; rintro e w' ⟨rfl, rfl⟩) | (go_at_call 100; refine (HG.out _).mono ?_; rintro e w' ⟨rfl, rfl⟩) | fail)
      refine bodyPost_ret (v := .tuple #[.int .i64 ((gather n : Nat) : Int), .int .i64 0, .int .i64 0]) (by simp [results, Try.results72, go_sem]) rfl ⟨?_, rfl⟩
      rw [HR.out]
      rfl
    · obtain ⟨hb1, hb2⟩ := hb rfl
      clear hb
      have HF := Lib.hid (flipped_any n (b - 1) hn (by omega) (b : Int) (Lib.hid (by omega)))
      have hl := flip_lt n (b - 1) (by omega) hn
      simp only [show ¬ (2 : Nat) = 3 by omega, if_false, if_true] at HR
      generalize n ^^^ 2 ^ (b - 1) = q at *
      have HG := Lib.hid (wordOf_any q hl)
      go_enter Try.func72, Try.ntmps72
      go_wp2_with (first | (go_at_call 67; refine (within_any _ _ _ _).mono ?_; rintro e w' ⟨rfl, rfl⟩) | (go_at_call 99; refine (HC.out _).mono ?_; rintro e w' ⟨rfl, rfl⟩) | (go_at_call 96; refine (HF.out _).mono ?_; rintro e w' ⟨rfl, rfl⟩) | (go_at_call 100; refine (HG.out _).mono ?_; rintro e w' ⟨rfl, rfl⟩) | fail)
      refine bodyPost_ret (v := .tuple #[.int .i64 ((gather q : Nat) : Int), .int .i64 1, .int .i64 0]) (by simp [results, Try.results72, go_sem]) rfl ⟨?_, rfl⟩
      rw [HR.out]
      rfl
    · clear hb
      go_enter Try.func72, Try.ntmps72
      go_wp2_with (first | (go_at_call 67; refine (within_any _ _ _ _).mono ?_; rintro e w' ⟨rfl, rfl⟩) | (go_at_call 99; refine (HC.out _).mono ?_; rintro e w' ⟨rfl, rfl⟩) | fail)
      refine bodyPost_ret (v := .tuple #[.int .i64 0, .int .i64 0, .int .i64 15]) (by simp [results, Try.results72, go_sem]) rfl ⟨?_, rfl⟩
      rw [HR.out]
      rfl
  · have HR := Lib.hid (show decS z = (0, 0, 1) by unfold decS; rw [if_neg h])
    have hd : decide ((0 : Int) ≤ z ∧ z ≤ 4194303) = false := by simp; omega
    go_enter Try.func72, Try.ntmps72
    go_wp2_with (first | (go_at_call 67; refine (within_any _ _ _ _).mono ?_; rintro e w' ⟨rfl, rfl⟩) | fail)
    refine bodyPost_ret (v := .tuple #[.int .i64 0, .int .i64 0, .int .i64 1]) (by simp [results, Try.results72, go_sem]) rfl ⟨?_, rfl⟩
    rw [HR.out]
    rfl
end Go.Proofs.Yteelepjhlhifhaa

/- the walk of the laws' own small check. -/
namespace Go.Proofs.Yteelepjhlhifhaa
open Go.RowKit

theorem cod_one : codS 1 = (2097159, 0) := by decide +kernel
set_option maxRecDepth 100000 in
set_option maxHeartbeats 400000 in
theorem awake_any (w : World) :
    Calls Try.prog 36 #[] w fun e w' => e = .returned (.bool true) ∧ w = w' := by
  have HC := Lib.hid (fun w => by have := Coded_any 1 w; rw [cod_one] at this; exact this)
  go_enter Try.func36, Try.ntmps36
  go_wp2_with fail
  refine (HC.out _).mono ?_
  rintro e w' ⟨rfl, rfl⟩
  simp only [two]
  go_wp2_with fail
  go_ret
  exact ⟨rfl, rfl⟩
end Go.Proofs.Yteelepjhlhifhaa
