/- the first texts of this proof, put together: words for memory, plain mathematics. -/
import Derived.Test.YtpccpkjfnmclfaaProg
import Derived.Below
import Derived.Laws.OwnMore
import Derived.Deep.Draws
import Derived.WalkKit
import Derived.Outline
import Derived.Laws.BitsAllLaws
import Derived.Lib.Hide
import Derived.OwnWalk
import Derived.Maps.AppendAt
import Derived.KernelRfl
import Derived.RegionTactic
import Derived.Deep.QuietTactic
import Derived.BigQuiet
import Derived.WalkSpells
import Derived.Deep.RegionHeld3
/- the plain mathematics of codes of words: marks, parities, flips. -/
namespace Go.Proofs.Ytpccpkjfnmclfaa

/-- the bit n (from 0 on) as a number -/
def bitN (c n : Nat) : Nat := c / 2 ^ n % 2
theorem bit_lt (c n : Nat) : bitN c n < 2 := Nat.mod_lt _ (by omega)
theorem bit_test (c n : Nat) : c.testBit n = decide (bitN c n = 1) := by
  rw [Nat.testBit_eq_decide_div_mod_eq]; rfl
theorem bit_xor (c a n : Nat) : bitN (c ^^^ 2 ^ a) n = if a = n then 1 - bitN c n else bitN c n := by
  have h := Nat.testBit_xor c (2 ^ a) n
  rw [Nat.testBit_two_pow, bit_test, bit_test] at h
  have h1 := bit_lt c n
  have h2 := bit_lt (c ^^^ 2 ^ a) n
  by_cases e : a = n
  · rw [if_pos e]
    by_cases h3 : bitN c n = 1
    · rw [h3]; simp [e, h3] at h; subst e; omega
    · simp [e, h3] at h; subst e; omega
  · rw [if_neg e]
    simp [e] at h
    by_cases h3 : bitN c n = 1
    · rw [h3]; rw [h]; exact h3
    · have : ¬ bitN (c ^^^ 2 ^ a) n = 1 := fun q => h3 (h.1 q)
      omega

/-- the mark of the first k bits -/
def markTo (c : Nat) : Nat → Nat
  | 0 => 0
  | k + 1 => if bitN c k = 1 then markTo c k ^^^ (k + 1) else markTo c k
/-- whether an odd number of the first k bits is set -/
def oddTo (c : Nat) : Nat → Bool
  | 0 => false
  | k + 1 => oddTo c k != decide (bitN c k = 1)

theorem mark_flip (c a : Nat) : ∀ k, markTo (c ^^^ 2 ^ a) k = if a < k then markTo c k ^^^ (a + 1) else markTo c k
  | 0 => by simp [markTo]
  | k + 1 => by
    have ih := mark_flip c a k
    have hb := bit_lt c k
    simp only [markTo, bit_xor, ih]
    rcases Nat.lt_trichotomy a k with h | h | h
    · have h1 : ¬ a = k := by omega
      have h2 : a < k + 1 := by omega
      simp only [h1, h, h2, if_true, if_false]
      by_cases h3 : bitN c k = 1
      · simp only [h3, if_true]
        rw [Nat.xor_assoc, Nat.xor_comm (a + 1), ← Nat.xor_assoc]
      · simp only [h3, if_false]
    · subst h
      have h1 : ¬ a < a := by omega
      have h2 : a < a + 1 := by omega
      simp only [h1, h2, if_true, if_false]
      by_cases h3 : bitN c a = 1
      · simp only [h3, Nat.sub_self, show ¬ (0 : Nat) = 1 by omega, if_true, if_false]
        rw [Nat.xor_assoc, Nat.xor_self, Nat.xor_zero]
      · have h4 : 1 - bitN c a = 1 := by omega
        simp only [h3, h4, if_true, if_false]
    · have h1 : ¬ a = k := by omega
      have h2 : ¬ a < k + 1 := by omega
      have h3 : ¬ a < k := by omega
      simp only [h1, h2, h3, if_false]
theorem odd_flip (c a : Nat) : ∀ k, oddTo (c ^^^ 2 ^ a) k = if a < k then !oddTo c k else oddTo c k
  | 0 => by simp [oddTo]
  | k + 1 => by
    have ih := odd_flip c a k
    have hb := bit_lt c k
    simp only [oddTo, bit_xor, ih]
    rcases Nat.lt_trichotomy a k with h | h | h
    · have h1 : ¬ a = k := by omega
      have h2 : a < k + 1 := by omega
      simp only [h1, h, h2, if_true, if_false]
      cases oddTo c k <;> cases decide (bitN c k = 1) <;> rfl
    · subst h
      have h1 : ¬ a < a := by omega
      have h2 : a < a + 1 := by omega
      simp only [h1, h2, if_true, if_false]
      by_cases h3 : bitN c a = 1
      · simp [h3]
      · have h4 : bitN c a = 0 := by omega
        simp [h4]
    · have h1 : ¬ a = k := by omega
      have h2 : ¬ a < k + 1 := by omega
      have h3 : ¬ a < k := by omega
      simp only [h1, h2, h3, if_false]

theorem xor_pow (c p : Nat) : c ^^^ 2 ^ p = if c / 2 ^ p % 2 = 1 then c - 2 ^ p else c + 2 ^ p := by
  have hp : 0 < 2 ^ p := Nat.two_pow_pos p
  have key : ∀ x : Nat, x / 2 ^ p % 2 = 0 → x ^^^ 2 ^ p = x + 2 ^ p := by
    intro x hx
    have hd := Nat.div_add_mod x (2 ^ p)
    have hl : x % 2 ^ p < 2 ^ p := Nat.mod_lt _ hp
    have hq : x / 2 ^ p = 2 * (x / 2 ^ p / 2) := by omega
    apply Nat.eq_of_testBit_eq
    intro i
    rw [Nat.testBit_xor, Nat.testBit_two_pow]
    have e : x + 2 ^ p = 2 ^ p * (x / 2 ^ p + 1) + x % 2 ^ p := by rw [Nat.mul_succ]; omega
    rw [e]
    conv => lhs; lhs; rw [← hd]
    rw [Nat.testBit_two_pow_mul_add _ hl, Nat.testBit_two_pow_mul_add _ hl]
    by_cases hi : i < p
    · rw [if_pos hi, if_pos hi]; simp [show p ≠ i by omega]
    · rw [if_neg hi, if_neg hi]
      by_cases hpi : p = i
      · subst hpi
        have e1 : x / 2 ^ p % 2 = 0 := hx
        have e2 : (x / 2 ^ p + 1) % 2 = 1 := by omega
        simp [Nat.testBit_zero, e1, e2]
      · simp only [hpi, decide_false, Bool.xor_false]
        obtain ⟨j, hj⟩ : ∃ j, i - p = j + 1 := ⟨i - p - 1, by omega⟩
        rw [hj, Nat.testBit_succ, Nat.testBit_succ]
        congr 1
        omega
  by_cases h : c / 2 ^ p % 2 = 1
  · rw [if_pos h]
    have hge : 2 ^ p ≤ c := by
      rcases Nat.lt_or_ge c (2 ^ p) with q | q
      · rw [Nat.div_eq_of_lt q] at h; omega
      · exact q
    have e : (c - 2 ^ p) / 2 ^ p = c / 2 ^ p - 1 := by
      have := Nat.sub_mul_div_of_le c (2 ^ p) 1 (by omega)
      rw [Nat.mul_one] at this
      exact this
    have := key (c - 2 ^ p) (by rw [e]; omega)
    have h2 : c = c - 2 ^ p + 2 ^ p := by omega
    conv => lhs; lhs; rw [h2]
    rw [← this, Nat.xor_assoc, Nat.xor_self, Nat.xor_zero]
  · rw [if_neg h]
    exact key c (by omega)
theorem or_pow (c p : Nat) (h : c / 2 ^ p % 2 = 0) : c ||| 2 ^ p = c + 2 ^ p := by
  have e := xor_pow c p
  rw [if_neg (by omega)] at e
  rw [← e]
  apply Nat.eq_of_testBit_eq
  intro i
  rw [Nat.testBit_or, Nat.testBit_xor, Nat.testBit_two_pow]
  by_cases hpi : p = i
  · subst hpi
    have : c.testBit p = false := by rw [bit_test]; unfold bitN; simp; omega
    simp [this]
  · simp [hpi]

/-- the bits of a word, where they stand in its code -/
def spread (w : Nat) : Nat := w % 2 * 4 + w / 2 % 8 * 16 + w / 16 % 128 * 256 + w / 2048 % 32 * 65536
/-- the word between the check bits -/
def gather (c : Nat) : Nat := c / 4 % 2 + c / 16 % 8 * 2 + c / 256 % 128 * 16 + c / 65536 % 32 * 2048
theorem gather_spread (w : Nat) (h : w < 65536) : gather (spread w) = w := by
  have e : w = w % 2 + w / 2 % 8 * 2 + w / 16 % 128 * 16 + w / 2048 % 32 * 2048 := by omega
  unfold gather spread
  have h1 : w % 2 < 2 := by omega
  have h2 : w / 2 % 8 < 8 := by omega
  have h3 : w / 16 % 128 < 128 := by omega
  have h4 : w / 2048 % 32 < 32 := by omega
  generalize w % 2 = a, w / 2 % 8 = b, w / 16 % 128 = c, w / 2048 % 32 = d at *
  have e1 : (a * 4 + b * 16 + c * 256 + d * 65536) / 4 % 2 = a := by omega
  have e2 : (a * 4 + b * 16 + c * 256 + d * 65536) / 16 % 8 = b := by omega
  have e3 : (a * 4 + b * 16 + c * 256 + d * 65536) / 256 % 128 = c := by omega
  have e4 : (a * 4 + b * 16 + c * 256 + d * 65536) / 65536 % 32 = d := by
    rw [Nat.add_mul_div_right _ _ (by omega), Nat.div_eq_of_lt (by omega)]; omega
  rw [e1, e2, e3, e4]
  exact e.symm
theorem spread_lt (w : Nat) : spread w < 2097152 := by unfold spread; omega
theorem gather_lt (c : Nat) : gather c < 65536 := by unfold gather; omega
/-- the places of the check bits, from 0 on -/
def isCheckP (p : Nat) : Prop := p = 0 ∨ p = 1 ∨ p = 3 ∨ p = 7 ∨ p = 15 ∨ p = 21
theorem field_flip (c p a k : Nat) (h : p < a ∨ a + k ≤ p) : (c ^^^ 2 ^ p) / 2 ^ a % 2 ^ k = c / 2 ^ a % 2 ^ k := by
  apply Nat.eq_of_testBit_eq
  intro i
  rw [Nat.testBit_mod_two_pow, Nat.testBit_mod_two_pow, Nat.testBit_div_two_pow, Nat.testBit_div_two_pow, Nat.testBit_xor, Nat.testBit_two_pow]
  by_cases hi : i < k
  · have : ¬ p = i + a := by omega
    simp [this]
  · simp [hi]
theorem gather_flip (c p : Nat) (h : isCheckP p) : gather (c ^^^ 2 ^ p) = gather c := by
  unfold isCheckP at h
  have e1 := field_flip c p 2 1 (by omega)
  have e2 := field_flip c p 4 3 (by omega)
  have e3 := field_flip c p 8 7 (by omega)
  have e4 := field_flip c p 16 5 (by omega)
  simp only [Nat.reducePow] at e1 e2 e3 e4
  unfold gather
  rw [e1, e2, e3, e4]
theorem flip_lt (c p : Nat) (hp : p < 22) (hc : c < 4194304) : c ^^^ 2 ^ p < 4194304 := by
  have h1 : 2 ^ p < 2 ^ 22 := Nat.pow_lt_pow_right (by omega) hp
  exact Nat.xor_lt_two_pow (n := 22) hc h1

/-- the check bits of a mark, set in a code, the first k of them -/
def checksTo (m c : Nat) : Nat → Nat
  | 0 => c
  | k + 1 => if bitN m k = 1 then checksTo m c k ^^^ 2 ^ (2 ^ k - 1) else checksTo m c k
/-- the code of a word, but for its last bit -/
def nearCode (w : Nat) : Nat := checksTo (markTo (spread w) 21) (spread w) 5
def codeN (w : Nat) : Nat := if oddTo (nearCode w) 22 = true then nearCode w ^^^ 2 ^ 21 else nearCode w

theorem checks_lt (m c : Nat) (hc : c < 4194304) : ∀ k, k ≤ 5 → checksTo m c k < 4194304
  | 0, _ => hc
  | k + 1, h => by
    have ih := checks_lt m c hc k (by omega)
    simp only [checksTo]
    split
    · refine flip_lt _ _ ?_ ih
      rcases (by omega : k = 0 ∨ k = 1 ∨ k = 2 ∨ k = 3 ∨ k = 4) with rfl | rfl | rfl | rfl | rfl <;> decide
    · exact ih
theorem near_lt (w : Nat) : nearCode w < 4194304 := checks_lt _ _ (by have := spread_lt w; omega) 5 (by omega)
theorem code_lt (w : Nat) : codeN w < 4194304 := by
  unfold codeN
  split
  · exact flip_lt _ _ (by omega) (near_lt w)
  · exact near_lt w
theorem checks_gather (m c : Nat) (hc : c < 4194304) : ∀ k, k ≤ 5 → gather (checksTo m c k) = gather c
  | 0, _ => rfl
  | k + 1, h => by
    have ih := checks_gather m c hc k (by omega)
    have hl := checks_lt m c hc k (by omega)
    simp only [checksTo]
    split
    · rw [gather_flip _ _ ?_, ih]
      rcases (by omega : k = 0 ∨ k = 1 ∨ k = 2 ∨ k = 3 ∨ k = 4) with rfl | rfl | rfl | rfl | rfl <;> simp [isCheckP]
    · exact ih
theorem code_gather (w : Nat) (h : w < 65536) : gather (codeN w) = w := by
  have e : gather (nearCode w) = w := by
    unfold nearCode
    rw [checks_gather _ _ (by have := spread_lt w; omega) 5 (by omega), gather_spread w h]
  unfold codeN
  split
  · rw [gather_flip _ _ (by simp [isCheckP]), e]
  · exact e
/-- the sum of the first k bits of a mark -/
def sumTo (m : Nat) : Nat → Nat
  | 0 => 0
  | k + 1 => if bitN m k = 1 then sumTo m k ^^^ 2 ^ k else sumTo m k
theorem checks_mark (m c : Nat) : ∀ k, k ≤ 5 → markTo (checksTo m c k) 21 = markTo c 21 ^^^ sumTo m k
  | 0, _ => by simp [checksTo, sumTo]
  | k + 1, h => by
    have ih := checks_mark m c k (by omega)
    have hp : 2 ^ k - 1 < 21 ∧ 2 ^ k - 1 + 1 = 2 ^ k := by rcases (by omega : k = 0 ∨ k = 1 ∨ k = 2 ∨ k = 3 ∨ k = 4) with rfl | rfl | rfl | rfl | rfl <;> decide
    simp only [checksTo, sumTo]
    split
    · rw [mark_flip, if_pos hp.1, ih, hp.2, Nat.xor_assoc]
    · exact ih
theorem sum_all : ∀ m, m < 32 → sumTo m 5 = m := by decide +kernel
theorem mark_lt (c : Nat) : ∀ k, k ≤ 21 → markTo c k < 32
  | 0, _ => by simp [markTo]
  | k + 1, h => by
    have ih := mark_lt c k (by omega)
    simp only [markTo]
    split
    · exact Nat.xor_lt_two_pow (n := 5) ih (show k + 1 < 32 by omega)
    · exact ih
theorem near_mark (w : Nat) : markTo (nearCode w) 21 = 0 := by
  unfold nearCode
  rw [checks_mark _ _ 5 (by omega), sum_all _ (mark_lt _ 21 (by omega)), Nat.xor_self]
theorem code_mark (w : Nat) : markTo (codeN w) 21 = 0 := by
  unfold codeN
  split
  · rw [mark_flip, if_neg (by omega)]; exact near_mark w
  · exact near_mark w
theorem code_odd (w : Nat) : oddTo (codeN w) 22 = false := by
  unfold codeN
  split
  · rw [odd_flip, if_pos (by omega)]; simp_all
  · simp_all

/-- what a code is: 1 right, 2 one flipped, 3 twoV; and which bit -/
def kindN (c : Nat) : Nat × Nat :=
  if oddTo c 22 = true then
    if markTo c 21 = 0 then (2, 22) else if markTo c 21 < 22 then (2, markTo c 21) else (3, 0)
  else if markTo c 21 = 0 then (1, 0) else (3, 0)
theorem kind_code (w : Nat) : kindN (codeN w) = (1, 0) := by simp [kindN, code_mark, code_odd]
theorem kind_flip (w a : Nat) (h : a < 22) : kindN (codeN w ^^^ 2 ^ a) = (2, a + 1) := by
  unfold kindN
  rw [odd_flip, if_pos h, code_odd, mark_flip, code_mark]
  by_cases h2 : a < 21
  · simp [h2, show a + 1 < 22 by omega]
  · obtain rfl : a = 21 := by omega
    simp
theorem kind_two (w a b : Nat) (ha : a < 22) (hb : b < 22) (hab : a ≠ b) : kindN (codeN w ^^^ 2 ^ a ^^^ 2 ^ b) = (3, 0) := by
  unfold kindN
  rw [odd_flip, if_pos hb, odd_flip, if_pos ha, code_odd, mark_flip, mark_flip, code_mark]
  have hne : a + 1 ^^^ (b + 1) ≠ 0 := by
    intro q
    have : a + 1 = b + 1 := by
      have := congrArg (fun x => x ^^^ (b + 1)) q
      simpa [Nat.xor_assoc] using this
    omega
  by_cases h2 : a < 21 <;> by_cases h3 : b < 21 <;> simp [h2, h3, hne] <;> omega
theorem flip_flip (c a : Nat) : c ^^^ 2 ^ a ^^^ 2 ^ a = c := by rw [Nat.xor_assoc, Nat.xor_self, Nat.xor_zero]
end Go.Proofs.Ytpccpkjfnmclfaa

/- a code is read as a word just if it differs from the word's code in at most one bit: plain mathematics. -/
namespace Go.Proofs.Ytpccpkjfnmclfaa

theorem bit_xor2 (a b n : Nat) : bitN (a ^^^ b) n = (bitN a n + bitN b n) % 2 := by
  have h := Nat.testBit_xor a b n
  rw [bit_test, bit_test, bit_test] at h
  have h1 := bit_lt a n
  have h2 := bit_lt b n
  have h3 := bit_lt (a ^^^ b) n
  generalize bitN (a ^^^ b) n = x at *
  generalize bitN a n = y at *
  generalize bitN b n = z at *
  have e1 : y = 0 ∨ y = 1 := by omega
  have e2 : z = 0 ∨ z = 1 := by omega
  have e3 : x = 0 ∨ x = 1 := by omega
  rcases e1 with rfl | rfl <;> rcases e2 with rfl | rfl <;> rcases e3 with rfl | rfl <;> simp_all
theorem mark_xor (a b : Nat) : ∀ k, markTo (a ^^^ b) k = markTo a k ^^^ markTo b k
  | 0 => by simp [markTo]
  | k + 1 => by
    have ih := mark_xor a b k
    have hx := bit_xor2 a b k
    have h1 := bit_lt a k
    have h2 := bit_lt b k
    unfold markTo
    rw [ih, hx]
    generalize bitN a k = y at *
    generalize bitN b k = z at *
    have e1 : y = 0 ∨ y = 1 := by omega
    have e2 : z = 0 ∨ z = 1 := by omega
    generalize markTo a k = p
    generalize markTo b k = q
    rcases e1 with rfl | rfl <;> rcases e2 with rfl | rfl <;> simp
    · rw [Nat.xor_assoc]
    · rw [Nat.xor_assoc, Nat.xor_comm q, Nat.xor_assoc]
    · rw [Nat.xor_assoc, ← Nat.xor_assoc (k + 1), Nat.xor_comm (k + 1) q, Nat.xor_assoc, Nat.xor_self, Nat.xor_zero]
theorem odd_xor (a b : Nat) : ∀ k, oddTo (a ^^^ b) k = (oddTo a k != oddTo b k)
  | 0 => by simp [oddTo]
  | k + 1 => by
    have ih := odd_xor a b k
    have hx := bit_xor2 a b k
    have h1 := bit_lt a k
    have h2 := bit_lt b k
    unfold oddTo
    rw [ih, hx]
    generalize bitN a k = y at *
    generalize bitN b k = z at *
    have e1 : y = 0 ∨ y = 1 := by omega
    have e2 : z = 0 ∨ z = 1 := by omega
    generalize oddTo a k = p
    generalize oddTo b k = q
    rcases e1 with rfl | rfl <;> rcases e2 with rfl | rfl <;> cases p <;> cases q <;> rfl
theorem field_xor (a b i k : Nat) : (a ^^^ b) / 2 ^ i % 2 ^ k = (a / 2 ^ i % 2 ^ k) ^^^ (b / 2 ^ i % 2 ^ k) := by
  apply Nat.eq_of_testBit_eq
  intro j
  rw [Nat.testBit_mod_two_pow, Nat.testBit_div_two_pow, Nat.testBit_xor, Nat.testBit_xor, Nat.testBit_mod_two_pow, Nat.testBit_mod_two_pow, Nat.testBit_div_two_pow, Nat.testBit_div_two_pow]
  by_cases h : j < k <;> simp [h]
theorem gather_same {a b : Nat} (h : gather a = gather b) : (a ^^^ b) / 4 % 2 = 0 ∧ (a ^^^ b) / 16 % 8 = 0 ∧ (a ^^^ b) / 256 % 128 = 0 ∧ (a ^^^ b) / 65536 % 32 = 0 := by
  unfold gather at h
  have f1 := field_xor a b 2 1
  have f2 := field_xor a b 4 3
  have f3 := field_xor a b 8 7
  have f4 := field_xor a b 16 5
  simp only [show (2 : Nat) ^ 2 = 4 from rfl, show (2 : Nat) ^ 1 = 2 from rfl, show (2 : Nat) ^ 4 = 16 from rfl, show (2 : Nat) ^ 3 = 8 from rfl, show (2 : Nat) ^ 8 = 256 from rfl, show (2 : Nat) ^ 7 = 128 from rfl, show (2 : Nat) ^ 16 = 65536 from rfl, show (2 : Nat) ^ 5 = 32 from rfl] at f1 f2 f3 f4
  have m1 : a / 4 % 2 < 2 := by omega
  have m2 : a / 16 % 8 < 8 := by omega
  have m3 : a / 256 % 128 < 128 := by omega
  have m4 : a / 65536 % 32 < 32 := by omega
  have k1 : b / 4 % 2 < 2 := by omega
  have k2 : b / 16 % 8 < 8 := by omega
  have k3 : b / 256 % 128 < 128 := by omega
  have k4 : b / 65536 % 32 < 32 := by omega
  rw [f1, f2, f3, f4]
  clear f1 f2 f3 f4
  generalize a / 4 % 2 = x1 at *
  generalize a / 16 % 8 = x2 at *
  generalize a / 256 % 128 = x3 at *
  generalize a / 65536 % 32 = x4 at *
  generalize b / 4 % 2 = y1 at *
  generalize b / 16 % 8 = y2 at *
  generalize b / 256 % 128 = y3 at *
  generalize b / 65536 % 32 = y4 at *
  obtain rfl : x1 = y1 := by omega
  obtain rfl : x2 = y2 := by omega
  obtain rfl : x3 = y3 := by omega
  obtain rfl : x4 = y4 := by omega
  simp
theorem checks_only : ∀ a : Fin 4, ∀ b : Fin 2, ∀ c : Fin 2, ∀ e : Fin 2, ∀ f : Fin 2, markTo (a.val + b.val * 8 + c.val * 128 + e.val * 32768 + f.val * 2097152) 21 = 0 → oddTo (a.val + b.val * 8 + c.val * 128 + e.val * 32768 + f.val * 2097152) 22 = false → a.val + b.val * 8 + c.val * 128 + e.val * 32768 + f.val * 2097152 = 0 := by decide +kernel
/-- twoV right codes with one word are one code -/
theorem codes_same {a b : Nat} (ha : a < 4194304) (hb : b < 4194304) (hg : gather a = gather b) (m1 : markTo a 21 = 0) (m2 : markTo b 21 = 0) (o1 : oddTo a 22 = false) (o2 : oddTo b 22 = false) : a = b := by
  obtain ⟨g1, g2, g3, g4⟩ := gather_same hg
  have hm : markTo (a ^^^ b) 21 = 0 := by rw [mark_xor, m1, m2]; rfl
  have ho : oddTo (a ^^^ b) 22 = false := by rw [odd_xor, o1, o2]; rfl
  have hl : a ^^^ b < 4194304 := Nat.xor_lt_two_pow (n := 22) ha hb
  suffices h : a ^^^ b = 0 by
    have := congrArg (fun x => x ^^^ b) h
    simpa [Nat.xor_assoc] using this
  generalize a ^^^ b = d at *
  have e : d = d % 4 + d / 8 % 2 * 8 + d / 128 % 2 * 128 + d / 32768 % 2 * 32768 + d / 2097152 * 2097152 := by
    have h1 : d / 4 = d / 8 * 2 := by omega
    have h2 : d / 16 = d / 128 * 8 := by omega
    have h3 : d / 256 = d / 32768 * 128 := by omega
    have h4 : d / 65536 = d / 2097152 * 32 := by omega
    omega
  have := checks_only ⟨d % 4, by omega⟩ ⟨d / 8 % 2, by omega⟩ ⟨d / 128 % 2, by omega⟩ ⟨d / 32768 % 2, by omega⟩ ⟨d / 2097152, by omega⟩
  simp only at this
  rw [← e] at this
  exact this hm ho
theorem one_bit (d : Nat) (hd : d < 4194304) (h : d &&& (d - 1) = 0) : d = 0 ∨ ∃ a, a < 22 ∧ d = 2 ^ a := by
  by_cases h0 : d = 0
  · exact .inl h0
  refine .inr ⟨Nat.log2 d, (Nat.log2_lt h0).2 (by simpa using hd), ?_⟩
  have h1 := Nat.log2_self_le h0
  have h2 : d < 2 ^ (Nat.log2 d + 1) := (Nat.log2_lt h0).1 (by omega)
  generalize Nat.log2 d = k at *
  by_cases e : d = 2 ^ k
  · exact e
  exfalso
  have t1 : d.testBit k = true := by
    rw [Nat.testBit_eq_decide_div_mod_eq]
    have : d / 2 ^ k = 1 := by
      apply Nat.div_eq_of_lt_le <;> simp only [Nat.pow_succ] at * <;> omega
    simp [this]
  have t2 : (d - 1).testBit k = true := by
    rw [Nat.testBit_eq_decide_div_mod_eq]
    have : (d - 1) / 2 ^ k = 1 := by
      apply Nat.div_eq_of_lt_le <;> simp only [Nat.pow_succ] at * <;> omega
    simp [this]
  have := Nat.testBit_and d (d - 1) k
  rw [h, t1, t2] at this
  simp at this
theorem pow_and (a : Nat) : 2 ^ a &&& (2 ^ a - 1) = 0 := by
  rw [Nat.and_two_pow_sub_one_eq_mod]
  simp
end Go.Proofs.Ytpccpkjfnmclfaa

/- the number of set bits, as the library counts it, is odd just where the xor of the bits is. -/
namespace Go.Proofs.Ytpccpkjfnmclfaa

theorem and_split (a b m n : Nat) (hb : b < 256) (hn : n < 256) : (256 * a + b) &&& (256 * m + n) = 256 * (a &&& m) + (b &&& n) := by
  apply Nat.eq_of_testBit_eq
  intro i
  have hx : b &&& n < 2 ^ 8 := Nat.and_lt_two_pow _ (by omega)
  have e1 := Nat.testBit_two_pow_mul_add a (show b < 2 ^ 8 by omega) i
  have e2 := Nat.testBit_two_pow_mul_add m (show n < 2 ^ 8 by omega) i
  have e3 := Nat.testBit_two_pow_mul_add (a &&& m) hx i
  simp only [Nat.reducePow] at e1 e2 e3
  rw [Nat.testBit_and, e1, e2, e3]
  split <;> rw [Nat.testBit_and]

/-- one step with a mask -/
def halfN (s m x : Nat) : Nat := (x / s &&& m) + (x &&& m)
/-- the third step -/
def foldN (m x : Nat) : Nat := (x / 16 + x) &&& m
theorem half_2 (a b m : Nat) (hb : b < 256) : halfN 2 (256 * m + 85) (256 * a + b) = 256 * halfN 2 m a + halfN 2 85 b := by
  have e : (256 * a + b) / 2 = 256 * (a / 2) + (128 * (a % 2) + b / 2) := by omega
  have h1 : (128 * (a % 2) + b / 2) &&& 85 = b / 2 &&& 85 := by
    have : ∀ r, r < 2 → ∀ b, b < 256 → (128 * r + b / 2) &&& 85 = b / 2 &&& 85 := by decide +kernel
    exact this _ (by omega) b hb
  unfold halfN
  rw [e, and_split _ _ _ _ (by omega) (by omega), and_split _ _ _ _ hb (by omega), h1]
  omega
theorem half_4 (a b m : Nat) (hb : b < 256) : halfN 4 (256 * m + 51) (256 * a + b) = 256 * halfN 4 m a + halfN 4 51 b := by
  have e : (256 * a + b) / 4 = 256 * (a / 4) + (64 * (a % 4) + b / 4) := by omega
  have h1 : (64 * (a % 4) + b / 4) &&& 51 = b / 4 &&& 51 := by
    have : ∀ r, r < 4 → ∀ b, b < 256 → (64 * r + b / 4) &&& 51 = b / 4 &&& 51 := by decide +kernel
    exact this _ (by omega) b hb
  unfold halfN
  rw [e, and_split _ _ _ _ (by omega) (by omega), and_split _ _ _ _ hb (by omega), h1]
  omega
/-- a byte behind three steps -/
def popB (b : Nat) : Nat := foldN 15 (halfN 4 51 (halfN 2 85 b))
theorem half2_lt : ∀ b, b < 256 → halfN 2 85 b < 256 := by decide +kernel
theorem half4_lt : ∀ b, b < 256 → halfN 4 51 (halfN 2 85 b) ≤ 68 := by decide +kernel
theorem popB_lt : ∀ b, b < 256 → popB b ≤ 8 := by decide +kernel
theorem fold_16 (a b m : Nat) (hb : b ≤ 68) (hn : ∀ b, b ≤ 68 → ∀ r, r < 16 → 16 * r + b / 16 + b < 256 → (16 * r + b / 16 + b) &&& 15 = (b / 16 + b) &&& 15) (hs : 16 * (a % 16) + b / 16 + b < 256) :
    foldN (256 * m + 15) (256 * a + b) = 256 * foldN m a + foldN 15 b := by
  have e : (256 * a + b) / 16 + (256 * a + b) = 256 * (a / 16 + a) + (16 * (a % 16) + b / 16 + b) := by omega
  unfold foldN
  rw [e, and_split _ _ _ _ hs (by omega), hn b hb _ (by omega) hs]
theorem fold_low : ∀ b, b ≤ 68 → ∀ r, r < 16 → 16 * r + b / 16 + b < 256 → (16 * r + b / 16 + b) &&& 15 = (b / 16 + b) &&& 15 := by decide +kernel
theorem half4_mod : ∀ b, b < 256 → halfN 4 51 (halfN 2 85 b) % 16 ≤ 4 := by decide +kernel

theorem and_small (x m k : Nat) (hx : x < 2 ^ k) : x &&& m = x &&& (m % 2 ^ k) := by
  apply Nat.eq_of_testBit_eq
  intro i
  rw [Nat.testBit_and, Nat.testBit_and, Nat.testBit_mod_two_pow]
  by_cases h : i < k
  · simp [h]
  · have : x.testBit i = false := Nat.testBit_lt_two_pow (Nat.lt_of_lt_of_le hx (Nat.pow_le_pow_right (by omega) (by omega)))
    simp [this]
theorem and127 (x : Nat) : x &&& 127 = x % 128 := Nat.and_two_pow_sub_one_eq_mod x 7

/-- what OnesCount64 reckons, of numbers of 24 bits -/
def popX (x : Nat) : Nat := x + x / 256
def popY (x : Nat) : Nat := x + x / 65536
def popZ (x : Nat) : Nat := x + x / 4294967296
def popN (x : Nat) : Nat := popZ (popY (popX (foldN 1085102592571150095 (halfN 4 3689348814741910323 (halfN 2 6148914691236517205 x))))) &&& 127
theorem three (c : Nat) (hc : c < 16777216) : foldN 1085102592571150095 (halfN 4 3689348814741910323 (halfN 2 6148914691236517205 c)) = popB (c % 256) + 256 * popB (c / 256 % 256) + 65536 * popB (c / 65536) := by
  obtain ⟨b0, hb0⟩ : ∃ b, b = c % 256 := ⟨_, rfl⟩
  obtain ⟨b1, hb1⟩ : ∃ b, b = c / 256 % 256 := ⟨_, rfl⟩
  obtain ⟨b2, hb2⟩ : ∃ b, b = c / 65536 := ⟨_, rfl⟩
  have e : c = 256 * (256 * b2 + b1) + b0 := by omega
  have l0 : b0 < 256 := by omega
  have l1 : b1 < 256 := by omega
  have l2 : b2 < 256 := by omega
  rw [← hb0, ← hb1, ← hb2, e]
  clear hb0 hb1 hb2 e hc
  have zero2 : ∀ m, halfN 2 (256 * m + 85) b2 = halfN 2 85 b2 := by
    intro m
    have := half_2 0 b2 m l2
    simpa [halfN] using this
  have s1 : halfN 2 6148914691236517205 (256 * (256 * b2 + b1) + b0) = 256 * (256 * halfN 2 85 b2 + halfN 2 85 b1) + halfN 2 85 b0 := by
    rw [show (6148914691236517205 : Nat) = 256 * (256 * (256 * 366503875925 + 85) + 85) + 85 by rfl, half_2 _ _ _ l0, half_2 _ _ _ l1, zero2]
  rw [s1]
  have k0 := half2_lt b0 l0
  have k1 := half2_lt b1 l1
  have k2 := half2_lt b2 l2
  have q0 := half4_lt b0 l0
  have q1 := half4_lt b1 l1
  have q2 := half4_lt b2 l2
  have r0 := half4_mod b0 l0
  have r1 := half4_mod b1 l1
  have r2 := half4_mod b2 l2
  unfold popB
  generalize halfN 2 85 b0 = y0 at *
  generalize halfN 2 85 b1 = y1 at *
  generalize halfN 2 85 b2 = y2 at *
  have zero4 : ∀ m, halfN 4 (256 * m + 51) y2 = halfN 4 51 y2 := by
    intro m
    have := half_4 0 y2 m k2
    simpa [halfN] using this
  have s2 : halfN 4 3689348814741910323 (256 * (256 * y2 + y1) + y0) = 256 * (256 * halfN 4 51 y2 + halfN 4 51 y1) + halfN 4 51 y0 := by
    rw [show (3689348814741910323 : Nat) = 256 * (256 * (256 * 219902325555 + 51) + 51) + 51 by rfl, half_4 _ _ _ k0, half_4 _ _ _ k1, zero4]
  rw [s2]
  clear s1 s2 zero2 zero4 k0 k1 k2
  generalize halfN 4 51 y0 = z0 at *
  generalize halfN 4 51 y1 = z1 at *
  generalize halfN 4 51 y2 = z2 at *
  have zero16 : ∀ m, foldN (256 * m + 15) z2 = foldN 15 z2 := by
    intro m
    have := fold_16 0 z2 m q2 fold_low (by omega)
    simpa [foldN] using this
  have s3 : foldN 1085102592571150095 (256 * (256 * z2 + z1) + z0) = 256 * (256 * foldN 15 z2 + foldN 15 z1) + foldN 15 z0 := by
    rw [show (1085102592571150095 : Nat) = 256 * (256 * (256 * 64677154575 + 15) + 15) + 15 by rfl, fold_16 _ _ _ q0 fold_low (by omega), fold_16 _ _ _ q1 fold_low (by omega), zero16]
  rw [s3]
  omega
theorem pop_sum (c : Nat) (hc : c < 16777216) : popN c = popB (c % 256) + popB (c / 256 % 256) + popB (c / 65536) := by
  have h0 := popB_lt (c % 256) (by omega)
  have h1 := popB_lt (c / 256 % 256) (by omega)
  have h2 := popB_lt (c / 65536) (by omega)
  unfold popN
  simp only [three c hc, and127, popX, popY, popZ]
  generalize popB (c % 256) = x at *
  generalize popB (c / 256 % 256) = y at *
  generalize popB (c / 65536) = z at *
  rw [show (x + 256 * y + 65536 * z) / 256 = y + 256 * z by omega]
  rw [show (x + 256 * y + 65536 * z + (y + 256 * z)) / 65536 = z by omega]
  rw [show (x + 256 * y + 65536 * z + (y + 256 * z) + z) / 4294967296 = 0 by omega]
  omega
theorem odd_byte : ∀ b, b < 256 → oddTo b 8 = decide (popB b % 2 = 1) := by decide +kernel
theorem bit_low (a b j : Nat) (hj : j < 8) (hb : b < 256) : bitN (256 * a + b) j = bitN b j := by
  have := Nat.testBit_two_pow_mul_add a (show b < 2 ^ 8 by omega) j
  simp only [Nat.reducePow, if_pos hj] at this
  rw [bit_test, bit_test] at this
  have h1 := bit_lt (256 * a + b) j
  have h2 := bit_lt b j
  simp only [decide_eq_decide] at this
  omega
theorem bit_high (a b j : Nat) (hb : b < 256) : bitN (256 * a + b) (8 + j) = bitN a j := by
  have := Nat.testBit_two_pow_mul_add a (show b < 2 ^ 8 by omega) (8 + j)
  simp only [Nat.reducePow, if_neg (show ¬ 8 + j < 8 by omega), Nat.add_sub_cancel_left] at this
  rw [bit_test, bit_test] at this
  have h1 := bit_lt (256 * a + b) (8 + j)
  have h2 := bit_lt a j
  simp only [decide_eq_decide] at this
  omega
theorem odd_low (a b : Nat) (hb : b < 256) : ∀ k, k ≤ 8 → oddTo (256 * a + b) k = oddTo b k
  | 0, _ => rfl
  | k + 1, h => by simp only [oddTo]; rw [odd_low a b hb k (by omega), bit_low a b k (by omega) hb]
theorem odd_succ (c k : Nat) : oddTo c (k + 1) = (oddTo c k != decide (bitN c k = 1)) := rfl
theorem odd_high (a b : Nat) (hb : b < 256) : ∀ k, oddTo (256 * a + b) (8 + k) = (oddTo b 8 != oddTo a k)
  | 0 => by rw [Nat.add_zero, odd_low a b hb 8 (by omega)]; cases oddTo b 8 <;> rfl
  | k + 1 => by
    rw [← Nat.add_assoc, odd_succ (256 * a + b), odd_high a b hb k, bit_high a b k hb, odd_succ a]
    cases oddTo b 8 <;> cases oddTo a k <;> cases decide (bitN a k = 1) <;> rfl
theorem odd_pop (c : Nat) (hc : c < 4194304) : oddTo c 22 = decide (popN c % 2 = 1) := by
  rw [pop_sum c (by omega)]
  have e24 : oddTo c 22 = oddTo c 24 := by
    have z1 : bitN c 22 = 0 := by unfold bitN; rw [Nat.div_eq_of_lt (by omega)]
    have z2 : bitN c 23 = 0 := by unfold bitN; rw [Nat.div_eq_of_lt (by omega)]
    show _ = ((oddTo c 22 != decide (bitN c 22 = 1)) != decide (bitN c 23 = 1))
    rw [z1, z2]
    cases oddTo c 22 <;> rfl
  rw [e24]
  have e : c = 256 * (c / 256) + c % 256 := by omega
  have e2 : c / 256 = 256 * (c / 65536) + c / 256 % 256 := by omega
  have h1 := odd_high (c / 256) (c % 256) (by omega) 16
  have h2 := odd_high (c / 65536) (c / 256 % 256) (by omega) 8
  rw [← e] at h1
  rw [← e2] at h2
  rw [h1, h2, odd_byte _ (by omega), odd_byte _ (by omega), odd_byte _ (by omega)]
  generalize popB (c % 256) = x
  generalize popB (c / 256 % 256) = y
  generalize popB (c / 65536) = z
  rcases Nat.mod_two_eq_zero_or_one x with hx | hx <;> rcases Nat.mod_two_eq_zero_or_one y with hy | hy <;> rcases Nat.mod_two_eq_zero_or_one z with hz | hz
  all_goals
    have hs : (x + y + z) % 2 = (x % 2 + y % 2 + z % 2) % 2 := by omega
    rw [hs, hx, hy, hz]
    rfl
end Go.Proofs.Ytpccpkjfnmclfaa

/- words for memory: a slice whose cells are a list; bytes. -/
namespace Go.Proofs.Ytpccpkjfnmclfaa
open Go.RowKit

theorem add_block (a : Addr) (n : Nat) : (a.add n).block = a.block := by unfold Addr.add; split <;> rfl
theorem addr_zero (a : Addr) : a.add 0 = a := by simp [Addr.add]
theorem add_twice (a : Addr) (i j : Nat) : (a.add i).add j = a.add (i + j) := by
  unfold Addr.add
  by_cases hi : i = 0 <;> by_cases hj : j = 0 <;> simp [hi, hj, Nat.add_assoc]

theorem below_draws {B : Nat} {a w : World} (h : Below B a w) (n : Nat) : Below B a (w.drewN n) := ⟨h.os, h.tape, h.output, h.size, h.block⟩
/-- at A, below block B, lie the cells xs -/
def Cells (w : World) (B : Nat) (A : Option Addr) (xs : List Value) : Prop :=
  xs = [] ∨ ∃ ad, A = some ad ∧ ad.block < B ∧ ∀ j v, xs[j]? = some v → w.cell? (ad.add j) = some v

theorem Cells.get {w : World} {B : Nat} {A : Option Addr} {xs : List Value} (h : Cells w B A xs) (k : Nat) (hk : k < xs.length) :
    ∃ ad, A = some ad ∧ ad.block < B ∧ w.cell? (ad.add k) = some xs[k] := by
  rcases h with rfl | ⟨ad, e, hb, hc⟩
  · simp at hk
  · exact ⟨ad, e, hb, hc k _ (List.getElem?_eq_getElem hk)⟩
theorem Cells.stay {w w' : World} {B : Nat} {A : Option Addr} {xs : List Value} (h : Cells w B A xs) (hk : ∀ p : Addr, p.block < B → w'.cell? p = w.cell? p) : Cells w' B A xs := by
  rcases h with e | ⟨ad, e, hb, hc⟩
  · exact .inl e
  · exact .inr ⟨ad, e, hb, fun j v hv => (hk _ (by rw [add_block]; exact hb)).trans (hc j v hv)⟩
theorem Cells.below {w w' : World} {B : Nat} {A : Option Addr} {xs : List Value} (h : Cells w B A xs) (hb : Below B w w') : Cells w' B A xs := h.stay fun _ hp => hb.cell hp
theorem Cells.lift {w : World} {B B' : Nat} {A : Option Addr} {xs : List Value} (h : Cells w B A xs) (hb : B ≤ B') : Cells w B' A xs := by
  rcases h with e | ⟨ad, e, hl, hc⟩
  · exact .inl e
  · exact .inr ⟨ad, e, by omega, hc⟩
theorem Cells.tail {w : World} {B : Nat} {A : Option Addr} {xs : List Value} (h : Cells w B A xs) (k : Nat) (hk : k < xs.length) : ∃ ad, A = some ad ∧ Cells w B (some (ad.add k)) (xs.drop k) := by
  rcases h with rfl | ⟨ad, e, hl, hc⟩
  · simp at hk
  · refine ⟨ad, e, .inr ⟨_, rfl, by rw [add_block]; exact hl, fun j v hv => ?_⟩⟩
    rw [add_twice]
    rw [List.getElem?_drop] at hv
    exact hc _ v hv
theorem Cells.front {w : World} {B : Nat} {A : Option Addr} {xs : List Value} (h : Cells w B A xs) (k : Nat) : Cells w B A (xs.take k) := by
  rcases h with rfl | ⟨ad, e, hl, hc⟩
  · exact .inl (by simp)
  · refine .inr ⟨ad, e, hl, fun j v hv => hc j v ?_⟩
    rw [List.getElem?_take] at hv
    split at hv
    · exact hv
    · cases hv

theorem Cells.fresh (w : World) (xs : List Value) (t : TypeId) (z : Nat × Nat) (C : Array Value) (hC : C = xs.toArray) : Cells (w.alloc (.cells C t z)) (w.heap.size + 1) (some ⟨w.heap.size, 0, none⟩) xs := by
  subst hC
  refine .inr ⟨_, rfl, by simp, fun j v hv => ?_⟩
  have e : (w.alloc (.cells xs.toArray t z)).heap[w.heap.size]? = some (.cells xs.toArray t z) := by
    show (w.heap.push _)[w.heap.size]? = _
    simp
  have e2 : (⟨w.heap.size, 0, none⟩ : Addr).add j = ⟨w.heap.size, j, none⟩ := by by_cases h : j = 0 <;> simp [Addr.add, h]
  rw [e2]
  simp only [World.cell?, e]
  simpa using hv

/-- a byte as a cell -/
def bv (c : UInt8) : Value := .int .u8 (c.toNat : Int)
def BR (w : World) (B : Nat) (A : Option Addr) (l : List UInt8) : Prop := Cells w B A (l.map bv)
theorem BR.get {w : World} {B : Nat} {A : Option Addr} {l : List UInt8} (h : BR w B A l) (k : Nat) (hk : k < l.length) :
    ∃ ad, A = some ad ∧ ad.block < B ∧ w.cell? (ad.add k) = some (.int .u8 (l[k].toNat : Int)) := by
  obtain ⟨ad, e, hb, hc⟩ := Cells.get h k (by simpa using hk)
  exact ⟨ad, e, hb, by simpa [bv] using hc⟩
theorem BR.below {w w' : World} {B : Nat} {A : Option Addr} {l : List UInt8} (h : BR w B A l) (hb : Below B w w') : BR w' B A l := Cells.below h hb
theorem BR.lift {w : World} {B B' : Nat} {A : Option Addr} {l : List UInt8} (h : BR w B A l) (hb : B ≤ B') : BR w B' A l := Cells.lift h hb
theorem BR.tail {w : World} {B : Nat} {A : Option Addr} {l : List UInt8} (h : BR w B A l) (k : Nat) (hk : k < l.length) : ∃ ad, A = some ad ∧ BR w B (some (ad.add k)) (l.drop k) := by
  obtain ⟨ad, e, hc⟩ := Cells.tail h k (by simpa using hk)
  exact ⟨ad, e, by simpa [BR] using hc⟩
theorem BR.front {w : World} {B : Nat} {A : Option Addr} {l : List UInt8} (h : BR w B A l) (k : Nat) : BR w B A (l.take k) := by
  have := Cells.front h k
  simpa [BR] using this
theorem ret_int {k : IntKind} {a b : Int} (h : a = b) : Ending.returned (.int k a) = .returned (.int k b) := by rw [h]
theorem ret_bool {a b : Bool} (h : a = b) : Ending.returned (.bool a) = .returned (.bool b) := by rw [h]
theorem Cells.fresh' (w : World) (xs : List Value) (t : TypeId) (z : Nat × Nat) (C : Array Value) (hC : C = xs.toArray) : Cells (w.alloc (.cells C t z)) (w.heap.size + 1) (some ⟨w.heap.size, 0, none⟩) xs := Cells.fresh w xs t z C hC
/-- a number as a cell -/
def iv (z : Int) : Value := .int .i64 z
def IR (w : World) (B : Nat) (A : Option Addr) (l : List Int) : Prop := Cells w B A (l.map iv)
theorem IR.get {w : World} {B : Nat} {A : Option Addr} {l : List Int} (h : IR w B A l) (k : Nat) (hk : k < l.length) :
    ∃ ad, A = some ad ∧ ad.block < B ∧ w.cell? (ad.add k) = some (.int .i64 l[k]) := by
  obtain ⟨ad, e, hb, hc⟩ := Cells.get h k (by simpa using hk)
  exact ⟨ad, e, hb, by simpa [iv] using hc⟩
theorem IR.below {w w' : World} {B : Nat} {A : Option Addr} {l : List Int} (h : IR w B A l) (hb : Below B w w') : IR w' B A l := Cells.below h hb
theorem IR.lift {w : World} {B B' : Nat} {A : Option Addr} {l : List Int} (h : IR w B A l) (hb : B ≤ B') : IR w B' A l := Cells.lift h hb
end Go.Proofs.Ytpccpkjfnmclfaa

/- the walks of the program's parity, mark, flip and word. -/
namespace Go.Proofs.Ytpccpkjfnmclfaa
open Go.RowKit

theorem mof64 (a : Nat) (ha : a < 9223372036854775808) : (BitVec.ofInt IntKind.i64.bits (a : Int)).toNat = a := by
  show (BitVec.ofInt 64 (a : Int)).toNat = a
  rw [BitVec.ofInt_natCast, BitVec.toNat_ofNat]; exact Nat.mod_eq_of_lt (by omega)
theorem mand64 (a b : Nat) (ha : a < 9223372036854775808) (hb : b < 9223372036854775808) : bits .and .i64 (a : Int) (b : Int) = ((a &&& b : Nat) : Int) := by
  have hx : a &&& b < 2 ^ 63 := Nat.and_lt_two_pow _ (by omega)
  have e : (BitVec.ofInt IntKind.i64.bits (a : Int) &&& BitVec.ofInt IntKind.i64.bits (b : Int)).toNat = a &&& b := by rw [BitVec.toNat_and, mof64 a ha, mof64 b hb]
  unfold bits
  simp only [e]
  exact IntWalk.i64_in _ (by omega)
theorem mor64 (a b : Nat) (ha : a < 9223372036854775808) (hb : b < 9223372036854775808) : bits .or .i64 (a : Int) (b : Int) = ((a ||| b : Nat) : Int) := by
  have hx : a ||| b < 2 ^ 63 := Nat.or_lt_two_pow (by omega) (by omega)
  have e : (BitVec.ofInt IntKind.i64.bits (a : Int) ||| BitVec.ofInt IntKind.i64.bits (b : Int)).toNat = a ||| b := by rw [BitVec.toNat_or, mof64 a ha, mof64 b hb]
  unfold bits
  simp only [e]
  exact IntWalk.i64_in _ (by omega)
theorem mxor64 (a b : Nat) (ha : a < 9223372036854775808) (hb : b < 9223372036854775808) : bits .xor .i64 (a : Int) (b : Int) = ((a ^^^ b : Nat) : Int) := by
  have hx : a ^^^ b < 2 ^ 63 := Nat.xor_lt_two_pow (by omega) (by omega)
  have e : (BitVec.ofInt IntKind.i64.bits (a : Int) ^^^ BitVec.ofInt IntKind.i64.bits (b : Int)).toNat = a ^^^ b := by rw [BitVec.toNat_xor, mof64 a ha, mof64 b hb]
  unfold bits
  simp only [e]
  exact IntWalk.i64_in _ (by omega)

theorem wu64 (a : Nat) (ha : a < 18446744073709551616) : IntKind.u64.wrap (a : Int) = (a : Int) := by rw [IntKind.wrap_u64]; omega
theorem half_le (s m x : Nat) : halfN s m x ≤ 2 * x := by
  unfold halfN
  have h1 : x / s &&& m ≤ x / s := Nat.and_le_left
  have h2 : x &&& m ≤ x := Nat.and_le_left
  have h3 : x / s ≤ x := Nat.div_le_self _ _
  omega
theorem halfU (s m x : Nat) (hm : m < 18446744073709551616) (hx : x < 4294967296) :
    IntKind.u64.wrap (bits .and .u64 ((x : Int) / (s : Int)) (m : Int) + bits .and .u64 (x : Int) (m : Int)) = ((halfN s m x : Nat) : Int) := by
  have h3 : x / s ≤ x := Nat.div_le_self _ _
  have h := half_le s m x
  rw [← Int.natCast_ediv, u64_and_nat _ _ (by omega) hm, u64_and_nat _ _ (by omega) hm, ← Int.natCast_add]
  exact wu64 _ (by unfold halfN at h; omega)
theorem foldU (m x : Nat) (hm : m < 18446744073709551616) (hx : x < 4294967296) :
    bits .and .u64 (IntKind.u64.wrap ((x : Int) / 16 + (x : Int))) (m : Int) = ((foldN m x : Nat) : Int) := by
  rw [show (x : Int) / 16 + (x : Int) = ((x / 16 + x : Nat) : Int) by omega, wu64 _ (by omega), u64_and_nat _ _ (by omega) hm]
  rfl
theorem fold_le (m x : Nat) : foldN m x ≤ 2 * x := by
  unfold foldN
  have h1 : (x / 16 + x) &&& m ≤ x / 16 + x := Nat.and_le_left
  omega
set_option maxRecDepth 100000 in
set_option maxHeartbeats 1000000 in
theorem ones64_any (c : Nat) (hc : c < 4194304) (w : World) :
    Calls Try.prog 126 #[.int .u64 (c : Int)] w fun e w' => e = .returned (.int .i64 ((popN c : Nat) : Int)) ∧ w = w' := by
  go_enter Try.func126, Try.ntmps126
  go_wp2
  go_ret
  refine ⟨ret_int ?_, rfl⟩
  have e1 := halfU 2 6148914691236517205 c (by omega) (by omega)
  have l1 := half_le 2 6148914691236517205 c
  have e2 := halfU 4 3689348814741910323 (halfN 2 6148914691236517205 c) (by omega) (by omega)
  have l2 := half_le 4 3689348814741910323 (halfN 2 6148914691236517205 c)
  have e3 := foldU 1085102592571150095 (halfN 4 3689348814741910323 (halfN 2 6148914691236517205 c)) (by omega) (by omega)
  have l3 := fold_le 1085102592571150095 (halfN 4 3689348814741910323 (halfN 2 6148914691236517205 c))
  simp only [Int.cast_ofNat_Int] at e1 e2 e3
  unfold popN
  rw [e1, e2, e3]
  generalize foldN 1085102592571150095 (halfN 4 3689348814741910323 (halfN 2 6148914691236517205 c)) = x at *
  have a1 : IntKind.u64.wrap ((x : Int) + (x : Int) / 256) = ((popX x : Nat) : Int) := by
    rw [show (x : Int) + (x : Int) / 256 = ((popX x : Nat) : Int) by unfold popX; omega]; exact wu64 _ (by unfold popX; omega)
  rw [a1]
  have l4 : popX x < 4294967296 := by unfold popX; omega
  generalize popX x = y at *
  have a2 : IntKind.u64.wrap ((y : Int) + (y : Int) / 65536) = ((popY y : Nat) : Int) := by
    rw [show (y : Int) + (y : Int) / 65536 = ((popY y : Nat) : Int) by unfold popY; omega]; exact wu64 _ (by unfold popY; omega)
  rw [a2]
  have l5 : popY y < 8589934592 := by unfold popY; omega
  generalize popY y = z at *
  have a3 : IntKind.u64.wrap ((z : Int) + (z : Int) / 4294967296) = ((popZ z : Nat) : Int) := by
    rw [show (z : Int) + (z : Int) / 4294967296 = ((popZ z : Nat) : Int) by unfold popZ; omega]; exact wu64 _ (by unfold popZ; omega)
  have l6 : popZ z < 17179869184 := by unfold popZ; omega
  rw [a3]
  generalize popZ z = u at *
  rw [IntWalk.wrap64_in _ ⟨by omega, by omega⟩]
  exact mand64 u 127 (by omega) (by omega)
set_option maxRecDepth 100000 in
set_option maxHeartbeats 400000 in
theorem ones_any (c : Nat) (hc : c < 4194304) (w : World) :
    Calls Try.prog 117 #[.int .u64 (c : Int)] w fun e w' => e = .returned (.int .i64 ((popN c : Nat) : Int)) ∧ w = w' := by
  have H := Lib.hid (ones64_any c hc w)
  go_enter Try.func117, Try.ntmps117
  go_wp2_with fail
  refine H.out.mono ?_
  rintro e w' ⟨rfl, rfl⟩
  go_wp2_with fail
  go_ret
  exact ⟨rfl, rfl⟩
theorem pop_le (c : Nat) : popN c ≤ 127 := by
  unfold popN
  rw [and127]
  omega
set_option maxRecDepth 100000 in
set_option maxHeartbeats 400000 in
theorem odd_any (c : Nat) (hc : c < 4194304) (w : World) :
    Calls Try.prog 96 #[.int .i64 (c : Int)] w fun e w' => e = .returned (.bool (oddTo c 22)) ∧ w = w' := by
  have H := Lib.hid (ones_any c hc w)
  have hp := pop_le c
  have HO := Lib.hid (odd_pop c hc)
  generalize popN c = p at *
  go_enter Try.func96, Try.ntmps96
  go_wp2_with fail
  refine H.out.mono ?_
  rintro e w' ⟨rfl, rfl⟩
  go_wp2_with fail
  go_ret
  refine ⟨ret_bool ?_, rfl⟩
  rw [HO.out]
  have e : (p : Int) % 2 = ((p % 2 : Nat) : Int) := by omega
  rw [e]
  rcases Nat.mod_two_eq_zero_or_one p with h | h <;> rw [h] <;> rfl
theorem wpow (b : Nat) (hb : b < 62) : wrap64 ((2 : Int) ^ b) = ((2 ^ b : Nat) : Int) := by
  have hp : 2 ^ b < 2 ^ 62 := Nat.pow_lt_pow_right (by omega) hb
  rw [show ((2 : Int) ^ b) = ((2 ^ b : Nat) : Int) by simp]
  generalize 2 ^ b = P at *
  exact IntWalk.wrap64_in _ ⟨by omega, by omega⟩
set_option maxRecDepth 100000 in
set_option maxHeartbeats 400000 in
theorem flipped_any (c b : Nat) (hc : c < 4194304) (hb : b < 22) (z : Int) (hz : Hid (z = (b : Int) + 1)) (w : World) :
    Calls Try.prog 95 #[.int .i64 (c : Int), .int .i64 z] w fun e w' => e = .returned (.int .i64 ((c ^^^ 2 ^ b : Nat) : Int)) ∧ w = w' := by
  obtain rfl : z = (b : Int) + 1 := hz
  have hp : 2 ^ b < 2 ^ 22 := Nat.pow_lt_pow_right (by omega) hb
  have hx := mxor64 c (2 ^ b) (by omega) (by omega)
  have hw := wpow b (by omega)
  go_enter Try.func95, Try.ntmps95
  go_wp2
  go_ret
  exact ⟨ret_int (by rw [show ((2 : Int) ^ b) = ((2 ^ b : Nat) : Int) by simp]; exact hx), rfl⟩

theorem shr_nat (c k : Nat) : (c : Int) / 2 ^ k = ((c / 2 ^ k : Nat) : Int) := by simp
theorem and_one (x : Nat) (hx : x < 4194304) : bits .and .i64 (x : Int) 1 = ((x % 2 : Nat) : Int) := by
  have := mand64 x 1 (by omega) (by omega)
  rw [Nat.and_one_is_mod] at this
  exact this
theorem and_bit (c k : Nat) (hc : c < 4194304) : bits .and .i64 ((c : Int) / 2 ^ k) 1 = ((bitN c k : Nat) : Int) := by
  rw [shr_nat]
  exact and_one _ (Nat.lt_of_le_of_lt (Nat.div_le_self _ _) hc)
set_option maxRecDepth 100000 in
set_option maxHeartbeats 1000000 in
theorem mark_any (c : Nat) (hc : c < 4194304) (w : World) :
    Calls Try.prog 94 #[.int .i64 (c : Int)] w fun e w' => e = .returned (.int .i64 ((markTo c 21 : Nat) : Int)) ∧ w = w' := by
  go_enter Try.func94, Try.ntmps94
  go_wp2
  go_loop [3, 4] (fun m i => ∃ k : Nat, k ≤ 21 ∧ i = .int .i64 ((k : Int) + 1) ∧ m = .int .i64 ((markTo c k : Nat) : Int)) (fun _ i => 23 - (intOf i).toNat)
  case atStart => exact ⟨0, by omega, rfl, rfl⟩
  case round =>
    obtain ⟨k, hk, rfl, rfl⟩ := hrel
    by_cases hlt : k < 21
    · have hb := and_bit c k hc
      have hml := mark_lt c k hk
      have HS := Lib.hid (show markTo c (k + 1) = if bitN c k = 1 then markTo c k ^^^ (k + 1) else markTo c k from rfl)
      have hx := mxor64 (markTo c k) (k + 1) (by omega) (by omega)
      generalize markTo c k = M at *
      by_cases h1 : bitN c k = 1
      · rw [if_pos h1] at HS
        rw [h1] at hb
        have HX := Lib.hid hx
        clear hx h1
        go_wp2
        go_round
        case rel => exact ⟨k + 1, by omega, by go_num, by rw [HS.out]; exact congrArg _ HX.out⟩
        case measure => simp [intOf]; omega
      · rw [if_neg h1] at HS
        have h0 : bitN c k = 0 := by have := bit_lt c k; omega
        rw [h0] at hb
        clear hx h1 h0
        go_wp2
        go_round
        case rel => exact ⟨k + 1, by omega, by go_num, by rw [HS.out]⟩
        case measure => simp [intOf]; omega
    · obtain rfl : k = 21 := by omega
      go_wp2
      go_ret
      exact ⟨rfl, rfl⟩
end Go.Proofs.Ytpccpkjfnmclfaa

/- the walks of the program's codes and words. -/
namespace Go.Proofs.Ytpccpkjfnmclfaa
open Go.RowKit

theorem or_add (a b k : Nat) (ha : a < 2 ^ k) : a ||| b * 2 ^ k = a + b * 2 ^ k := by
  have := Nat.two_pow_add_eq_or_of_lt ha b
  rw [Nat.or_comm, Nat.mul_comm b, ← this, Nat.add_comm]
theorem wi64 (a : Nat) (ha : a < 9223372036854775808) : wrap64 (a : Int) = (a : Int) := IntWalk.wrap64_in _ ⟨by omega, by omega⟩
/-- a field of k bits, moved up by s -/
theorem and_field (x k m s : Nat) (hm : m = 2 ^ k - 1) (hk : k ≤ 7) (hx : x < 4194304) (hs : s ≤ 65536) : wrap64 (bits .and .i64 (x : Int) (m : Int) * (s : Int)) = ((x % 2 ^ k * s : Nat) : Int) := by
  have h1 : 2 ^ k ≤ 2 ^ 7 := Nat.pow_le_pow_right (by omega) hk
  have h2 : x % 2 ^ k < 2 ^ k := Nat.mod_lt _ (Nat.two_pow_pos k)
  have h3 : x % 2 ^ k * s ≤ 128 * 65536 := Nat.mul_le_mul (by omega) hs
  rw [hm, mand64 _ _ (by omega) (by omega), Nat.and_two_pow_sub_one_eq_mod, ← Int.natCast_mul]
  exact wi64 _ (by omega)
theorem and_low (x k m : Nat) (hm : m = 2 ^ k - 1) (hk : k ≤ 7) (hx : x < 4194304) : bits .and .i64 (x : Int) (m : Int) = ((x % 2 ^ k : Nat) : Int) := by
  have h1 : 2 ^ k ≤ 2 ^ 7 := Nat.pow_le_pow_right (by omega) hk
  rw [hm, mand64 _ _ (by omega) (by omega), Nat.and_two_pow_sub_one_eq_mod]
theorem gather_bits (c : Nat) (hc : c < 4194304) :
    bits .or .i64 (bits .or .i64 (bits .or .i64 (bits .and .i64 ((c : Int) / 4) 1) (wrap64 (bits .and .i64 ((c : Int) / 16) 7 * 2))) (wrap64 (bits .and .i64 ((c : Int) / 256) 127 * 16)))
      (wrap64 (bits .and .i64 ((c : Int) / 65536) 31 * 2048)) = ((gather c : Nat) : Int) := by
  have e1 := and_low (c / 4) 1 1 rfl (by omega) (by omega)
  have e2 := and_field (c / 16) 3 7 2 rfl (by omega) (by omega) (by omega)
  have e3 := and_field (c / 256) 7 127 16 rfl (by omega) (by omega) (by omega)
  have e4 := and_field (c / 65536) 5 31 2048 rfl (by omega) (by omega) (by omega)
  simp only [Nat.reducePow, Int.natCast_ediv, Int.cast_ofNat_Int] at e1 e2 e3 e4
  rw [e1, e2, e3, e4]
  have b1 : c / 4 % 2 < 2 := Nat.mod_lt _ (by omega)
  have b2 : c / 16 % 8 < 8 := Nat.mod_lt _ (by omega)
  have b3 : c / 256 % 128 < 128 := Nat.mod_lt _ (by omega)
  have b4 : c / 65536 % 32 < 32 := Nat.mod_lt _ (by omega)
  unfold gather
  generalize c / 4 % 2 = a1, c / 16 % 8 = a2, c / 256 % 128 = a3, c / 65536 % 32 = a4 at *
  rw [mor64 _ _ (by omega) (by omega), or_add _ a2 1 (by omega), mor64 _ _ (by omega) (by omega), or_add _ a3 4 (by omega), mor64 _ _ (by omega) (by omega), or_add _ a4 11 (by omega)]
theorem spread_bits (n : Nat) (hn : n < 65536) :
    bits .or .i64 (bits .or .i64 (bits .or .i64 (wrap64 (bits .and .i64 (n : Int) 1 * 4)) (wrap64 (bits .and .i64 ((n : Int) / 2) 7 * 16))) (wrap64 (bits .and .i64 ((n : Int) / 16) 127 * 256)))
      (wrap64 (bits .and .i64 ((n : Int) / 2048) 31 * 65536)) = ((spread n : Nat) : Int) := by
  have e1 := and_field n 1 1 4 rfl (by omega) (by omega) (by omega)
  have e2 := and_field (n / 2) 3 7 16 rfl (by omega) (by omega) (by omega)
  have e3 := and_field (n / 16) 7 127 256 rfl (by omega) (by omega) (by omega)
  have e4 := and_field (n / 2048) 5 31 65536 rfl (by omega) (by omega) (by omega)
  simp only [Nat.reducePow, Int.natCast_ediv, Int.cast_ofNat_Int] at e1 e2 e3 e4
  rw [e1, e2, e3, e4]
  have b1 : n % 2 < 2 := Nat.mod_lt _ (by omega)
  have b2 : n / 2 % 8 < 8 := Nat.mod_lt _ (by omega)
  have b3 : n / 16 % 128 < 128 := Nat.mod_lt _ (by omega)
  have b4 : n / 2048 % 32 < 32 := Nat.mod_lt _ (by omega)
  unfold spread
  generalize n % 2 = a1, n / 2 % 8 = a2, n / 16 % 128 = a3, n / 2048 % 32 = a4 at *
  rw [mor64 _ _ (by omega) (by omega), or_add _ a2 4 (by omega), mor64 _ _ (by omega) (by omega), or_add _ a3 8 (by omega), mor64 _ _ (by omega) (by omega), or_add _ a4 16 (by omega)]

set_option maxRecDepth 100000 in
set_option maxHeartbeats 400000 in
theorem wordOf_any (c : Nat) (hc : c < 4194304) (w : World) :
    Calls Try.prog 99 #[.int .i64 (c : Int)] w fun e w' => e = .returned (.int .i64 ((gather c : Nat) : Int)) ∧ w = w' := by
  go_enter Try.func99, Try.ntmps99
  go_wp2
  go_ret
  exact ⟨ret_int (gather_bits c hc), rfl⟩

/-- the check bits, one behind the other -/
def checkOf : Nat → Int
  | 0 => 1
  | 1 => 2
  | 2 => 4
  | 3 => 8
  | 4 => 16
  | _ => 32
theorem and_check (m : Nat) (hm : m < 32) (k : Nat) (hk : k < 5) : bits .and .i64 (m : Int) (checkOf k) = if bitN m k = 1 then checkOf k else 0 := by
  have key : ∀ m, m < 32 → ∀ k, k < 5 → ((m &&& 2 ^ k : Nat) : Int) = if bitN m k = 1 then checkOf k else 0 := by decide +kernel
  have e : checkOf k = ((2 ^ k : Nat) : Int) := by
    rcases (by omega : k = 0 ∨ k = 1 ∨ k = 2 ∨ k = 3 ∨ k = 4) with rfl | rfl | rfl | rfl | rfl <;> rfl
  have hp : 2 ^ k < 2 ^ 5 := Nat.pow_lt_pow_right (by omega) hk
  rw [← key m hm k hk, e]
  exact mand64 m (2 ^ k) (by omega) (by omega)
set_option maxRecDepth 100000 in
set_option maxHeartbeats 1000000 in
theorem coded_any (n : Nat) (hn : n < 65536) (w : World) :
    Calls Try.prog 66 #[.int .i64 (n : Int)] w fun e w' => e = .returned (.int .i64 ((codeN n : Nat) : Int)) ∧ w = w' := by
  have HS := Lib.hid (spread_bits n hn)
  have hs := spread_lt n
  have HM := Lib.hid (mark_any (spread n) (by omega))
  have HN := Lib.hid (show nearCode n = checksTo (markTo (spread n) 21) (spread n) 5 from rfl)
  have hml := mark_lt (spread n) 21 (by omega)
  generalize hm0 : markTo (spread n) 21 = m at *
  have HC := Lib.hid (checks_lt m (spread n) (by omega))
  have HO := Lib.hid (odd_any (nearCode n) (near_lt n))
  have HF := Lib.hid (flipped_any (nearCode n) 21 (near_lt n) (by omega) 22 rfl)
  have HE := Lib.hid (show codeN n = if oddTo (nearCode n) 22 = true then nearCode n ^^^ 2 ^ 21 else nearCode n from rfl)
  generalize codeN n = R at *
  go_enter Try.func66, Try.ntmps66
  go_wp2_with fail
  simp only [HS.out]
  refine (HM.out _).mono ?_
  rintro e w' ⟨rfl, rfl⟩
  clear hm0 HS HM
  generalize spread n = s at *
  go_wp2_with fail
  go_loop [3, 5] (fun c i => ∃ k : Nat, k ≤ 5 ∧ i = .int .i64 (checkOf k) ∧ c = .int .i64 ((checksTo m s k : Nat) : Int)) (fun _ i => 64 - (intOf i).toNat)
  case atStart => exact ⟨0, by omega, rfl, rfl⟩
  case round =>
    obtain ⟨k, hk, rfl, rfl⟩ := hrel
    by_cases hlt : k < 5
    · have hcl := HC.out k hk
      have hand := and_check m hml k hlt
      have HK := Lib.hid (show checksTo m s (k + 1) = if bitN m k = 1 then checksTo m s k ^^^ 2 ^ (2 ^ k - 1) else checksTo m s k from rfl)
      generalize checksTo m s k = c at *
      by_cases h1 : bitN m k = 1
      · rw [if_pos h1] at HK hand
        clear h1 hk
        have hc : k = 0 ∨ k = 1 ∨ k = 2 ∨ k = 3 ∨ k = 4 := by omega
        clear hlt
        rcases hc with rfl | rfl | rfl | rfl | rfl <;> simp only [checkOf, Nat.reducePow, Nat.reduceSub] at *
        · have HF1 := Lib.hid (flipped_any c 0 hcl (by omega) 1 rfl)
          go_wp2_with fail
          refine (HF1.out _).mono ?_
          rintro e w' ⟨rfl, rfl⟩
          go_wp2_with fail
          go_round
          case rel => exact ⟨1, by omega, rfl, by rw [HK.out]⟩
          case measure => simp [intOf]
        · have HF1 := Lib.hid (flipped_any c 1 hcl (by omega) 2 rfl)
          go_wp2_with fail
          refine (HF1.out _).mono ?_
          rintro e w' ⟨rfl, rfl⟩
          go_wp2_with fail
          go_round
          case rel => exact ⟨2, by omega, rfl, by rw [HK.out]⟩
          case measure => simp [intOf]
        · have HF1 := Lib.hid (flipped_any c 3 hcl (by omega) 4 rfl)
          go_wp2_with fail
          refine (HF1.out _).mono ?_
          rintro e w' ⟨rfl, rfl⟩
          go_wp2_with fail
          go_round
          case rel => exact ⟨3, by omega, rfl, by rw [HK.out]⟩
          case measure => simp [intOf]
        · have HF1 := Lib.hid (flipped_any c 7 hcl (by omega) 8 rfl)
          go_wp2_with fail
          refine (HF1.out _).mono ?_
          rintro e w' ⟨rfl, rfl⟩
          go_wp2_with fail
          go_round
          case rel => exact ⟨4, by omega, rfl, by rw [HK.out]⟩
          case measure => simp [intOf]
        · have HF1 := Lib.hid (flipped_any c 15 hcl (by omega) 16 rfl)
          go_wp2_with fail
          refine (HF1.out _).mono ?_
          rintro e w' ⟨rfl, rfl⟩
          go_wp2_with fail
          go_round
          case rel => exact ⟨5, by omega, rfl, by rw [HK.out]⟩
          case measure => simp [intOf]
      · rw [if_neg h1] at HK hand
        clear h1 hk
        have hc : k = 0 ∨ k = 1 ∨ k = 2 ∨ k = 3 ∨ k = 4 := by omega
        clear hlt
        rcases hc with rfl | rfl | rfl | rfl | rfl <;> simp only [checkOf] at *
        · go_wp2_with fail
          go_round
          case rel => exact ⟨1, by omega, rfl, by rw [HK.out]⟩
          case measure => simp [intOf]
        · go_wp2_with fail
          go_round
          case rel => exact ⟨2, by omega, rfl, by rw [HK.out]⟩
          case measure => simp [intOf]
        · go_wp2_with fail
          go_round
          case rel => exact ⟨3, by omega, rfl, by rw [HK.out]⟩
          case measure => simp [intOf]
        · go_wp2_with fail
          go_round
          case rel => exact ⟨4, by omega, rfl, by rw [HK.out]⟩
          case measure => simp [intOf]
        · go_wp2_with fail
          go_round
          case rel => exact ⟨5, by omega, rfl, by rw [HK.out]⟩
          case measure => simp [intOf]
    · obtain rfl : k = 5 := by omega
      have HN2 := Lib.hid HN.out.symm
      simp only [checkOf]
      rw [HN2.out]
      clear HN HN2 HC
      generalize nearCode n = q at *
      go_wp2_with fail
      refine (HO.out _).mono ?_
      rintro e w' ⟨rfl, rfl⟩
      cases ho : oddTo q 22
      · have HR : Hid (R = q) := by have := HE.out; rw [ho] at this; exact Lib.hid (by simpa using this)
        clear HE ho
        go_wp2_with fail
        go_ret
        exact ⟨ret_int (by rw [HR.out]), rfl⟩
      · have HR : Hid (R = q ^^^ 2 ^ 21) := by have := HE.out; rw [ho] at this; exact Lib.hid (by simpa using this)
        clear HE ho
        go_wp2_with fail
        refine (HF.out _).mono ?_
        rintro e w' ⟨rfl, rfl⟩
        go_wp2_with fail
        go_ret
        exact ⟨ret_int (by rw [HR.out]), rfl⟩
end Go.Proofs.Ytpccpkjfnmclfaa

/- the walks of the program's Coded, Kind and Decoded. -/
namespace Go.Proofs.Ytpccpkjfnmclfaa
open Go.RowKit

set_option maxRecDepth 100000 in
set_option maxHeartbeats 400000 in
theorem mwithin_any (n a b : Int) (w : World) :
    Calls Try.prog 65 #[.int .i64 n, .int .i64 a, .int .i64 b] w fun e w' => e = .returned (.bool (decide (a ≤ n ∧ n ≤ b))) ∧ w = w' := by
  by_cases h1 : a ≤ n
  · by_cases h2 : n ≤ b
    · have hd := Lib.hid (show decide (a ≤ n ∧ n ≤ b) = true by simp [h1, h2])
      go_enter Try.func65, Try.ntmps65
      go_wp2
      go_ret
      exact ⟨ret_bool (by have := hd.out; simp_all), rfl⟩
    · have hd := Lib.hid (show decide (a ≤ n ∧ n ≤ b) = false by simp [h2])
      go_enter Try.func65, Try.ntmps65
      go_wp2
      go_ret
      exact ⟨ret_bool (by have := hd.out; simp_all), rfl⟩
  · have hd := Lib.hid (show decide (a ≤ n ∧ n ≤ b) = false by simp [h1])
    go_enter Try.func65, Try.ntmps65
    go_wp2
    go_ret
    exact ⟨ret_bool (by have := hd.out; simp_all), rfl⟩
/-- the numbers of faults -/
def decN (c : Nat) : Nat × Nat × Nat := if (kindN c).1 = 3 then (0, 0, 15) else if (kindN c).1 = 2 then (gather (c ^^^ 2 ^ ((kindN c).2 - 1)), 1, 0) else (gather c, 0, 0)
theorem kind_bit (c : Nat) (h : (kindN c).1 = 2) : 1 ≤ (kindN c).2 ∧ (kindN c).2 ≤ 22 := by
  have hm := mark_lt c 21 (by omega)
  unfold kindN at *
  generalize markTo c 21 = m at *
  by_cases h1 : oddTo c 22 = true
  · simp only [h1, if_true] at *
    by_cases h2 : m = 0
    · simp [h2]
    · by_cases h3 : m < 22
      · simp [h2, h3]; omega
      · simp [h2, h3] at h
  · simp only [h1] at *
    by_cases h2 : m = 0
    · simp [h2] at h
    · simp [h2] at h
theorem kind_three (c : Nat) : (kindN c).1 = 1 ∨ (kindN c).1 = 2 ∨ (kindN c).1 = 3 := by
  unfold kindN
  split
  · split
    · simp
    · split <;> simp
  · split <;> simp
def codS (z : Int) : Int × Int := if 0 ≤ z ∧ z ≤ 65535 then ((codeN z.toNat : Nat), 0) else (0, 1)
def kindS (z : Int) : Int × Int × Int := if 0 ≤ z ∧ z ≤ 4194303 then (((kindN z.toNat).1 : Nat), ((kindN z.toNat).2 : Nat), 0) else (0, 0, 1)
def decS (z : Int) : Int × Int × Int := if 0 ≤ z ∧ z ≤ 4194303 then (((decN z.toNat).1 : Nat), ((decN z.toNat).2.1 : Nat), ((decN z.toNat).2.2 : Nat)) else (0, 0, 1)
/-- twoV, three results -/
def twoV (p : Int × Int) : Value := .tuple #[.int .i64 p.1, .int .i64 p.2]
def three' (p : Int × Int × Int) : Value := .tuple #[.int .i64 p.1, .int .i64 p.2.1, .int .i64 p.2.2]

set_option maxRecDepth 100000 in
set_option maxHeartbeats 400000 in
theorem kindOf_any (c : Nat) (hc : c < 4194304) (w : World) :
    Calls Try.prog 98 #[.int .i64 (c : Int)] w fun e w' => e = .returned (.tuple #[.int .i64 ((kindN c).1 : Int), .int .i64 ((kindN c).2 : Int)]) ∧ w = w' := by
  have HM := Lib.hid (mark_any c hc)
  have HO := Lib.hid (odd_any c hc)
  have HK := Lib.hid (show kindN c = if oddTo c 22 = true then (if markTo c 21 = 0 then (2, 22) else if markTo c 21 < 22 then (2, markTo c 21) else (3, 0)) else if markTo c 21 = 0 then (1, 0) else (3, 0) from rfl)
  generalize kindN c = K at *
  generalize markTo c 21 = m at *
  cases ho : oddTo c 22
  · rw [ho] at HO HK
    by_cases hm : m = 0
    · subst hm
      have HK2 : Hid (K = (1, 0)) := Lib.hid (by simpa using HK.out)
      clear HK ho
      go_enter Try.func98, Try.ntmps98
      go_wp2_with (first | (go_at_call 94; refine (HM.out _).mono ?_; rintro e w' ⟨rfl, rfl⟩) | (go_at_call 96; refine (HO.out _).mono ?_; rintro e w' ⟨rfl, rfl⟩) | fail)
      go_ret2
      rw [HK2.out]
      exact ⟨rfl, rfl⟩
    · have HK2 : Hid (K = (3, 0)) := Lib.hid (by have := HK.out; rw [if_neg (by simp), if_neg hm] at this; exact this)
      have hm1 : ((m : Int) != 0) = true := by simp; omega
      clear HK ho
      go_enter Try.func98, Try.ntmps98
      go_wp2_with (first | (go_at_call 94; refine (HM.out _).mono ?_; rintro e w' ⟨rfl, rfl⟩) | (go_at_call 96; refine (HO.out _).mono ?_; rintro e w' ⟨rfl, rfl⟩) | fail)
      go_ret2
      rw [HK2.out]
      exact ⟨rfl, rfl⟩
  · rw [ho] at HO HK
    by_cases hm : m = 0
    · subst hm
      have HK2 : Hid (K = (2, 22)) := Lib.hid (by simpa using HK.out)
      clear HK ho
      go_enter Try.func98, Try.ntmps98
      go_wp2_with (first | (go_at_call 94; refine (HM.out _).mono ?_; rintro e w' ⟨rfl, rfl⟩) | (go_at_call 96; refine (HO.out _).mono ?_; rintro e w' ⟨rfl, rfl⟩) | fail)
      go_ret2
      rw [HK2.out]
      exact ⟨rfl, rfl⟩
    · have hm1 : ((m : Int) == 0) = false := by simp; omega
      by_cases hm2 : m < 22
      · have HK2 : Hid (K = (2, m)) := Lib.hid (by have := HK.out; rw [if_pos rfl, if_neg hm, if_pos hm2] at this; exact this)
        clear HK ho
        go_enter Try.func98, Try.ntmps98
        go_wp2_with (first | (go_at_call 94; refine (HM.out _).mono ?_; rintro e w' ⟨rfl, rfl⟩) | (go_at_call 96; refine (HO.out _).mono ?_; rintro e w' ⟨rfl, rfl⟩) | fail)
        go_ret2
        rw [HK2.out]
        exact ⟨rfl, rfl⟩
      · have HK2 : Hid (K = (3, 0)) := Lib.hid (by have := HK.out; rw [if_pos rfl, if_neg hm, if_neg hm2] at this; exact this)
        clear HK ho
        go_enter Try.func98, Try.ntmps98
        go_wp2_with (first | (go_at_call 94; refine (HM.out _).mono ?_; rintro e w' ⟨rfl, rfl⟩) | (go_at_call 96; refine (HO.out _).mono ?_; rintro e w' ⟨rfl, rfl⟩) | fail)
        go_ret2
        rw [HK2.out]
        exact ⟨rfl, rfl⟩

set_option maxRecDepth 100000 in
set_option maxHeartbeats 400000 in
theorem Coded_any (z : Int) (w : World) :
    Calls Try.prog 29 #[.int .i64 z] w fun e w' => e = .returned (twoV (codS z)) ∧ w = w' := by
  by_cases h : 0 ≤ z ∧ z ≤ 65535
  · obtain ⟨n, rfl⟩ : ∃ n : Nat, z = (n : Int) := ⟨z.toNat, by omega⟩
    have hn : n < 65536 := by omega
    have HR := Lib.hid (show codS (n : Int) = (((codeN n : Nat) : Int), (0 : Int)) by unfold codS; rw [if_pos h]; rfl)
    have HC := Lib.hid (coded_any n hn)
    have hd : decide ((0 : Int) ≤ (n : Int) ∧ (n : Int) ≤ 65535) = true := by simp; omega
    go_enter Try.func29, Try.ntmps29
    go_wp2_with (first | (go_at_call 65; refine (mwithin_any _ _ _ _).mono ?_; rintro e w' ⟨rfl, rfl⟩) | (go_at_call 66; refine (HC.out _).mono ?_; rintro e w' ⟨rfl, rfl⟩) | fail)
    go_ret2
    rw [HR.out]
    exact ⟨rfl, rfl⟩
  · have HR := Lib.hid (show codS z = (0, 1) by unfold codS; rw [if_neg h])
    have hd : decide ((0 : Int) ≤ z ∧ z ≤ 65535) = false := by simp; omega
    go_enter Try.func29, Try.ntmps29
    go_wp2_with (first | (go_at_call 65; refine (mwithin_any _ _ _ _).mono ?_; rintro e w' ⟨rfl, rfl⟩) | fail)
    go_ret2
    rw [HR.out]
    exact ⟨rfl, rfl⟩
set_option maxRecDepth 100000 in
set_option maxHeartbeats 400000 in
theorem Decoded_any (z : Int) (w : World) :
    Calls Try.prog 70 #[.int .i64 z] w fun e w' => e = .returned (three' (decS z)) ∧ w = w' := by
  by_cases h : 0 ≤ z ∧ z ≤ 4194303
  · obtain ⟨n, rfl⟩ : ∃ n : Nat, z = (n : Int) := ⟨z.toNat, by omega⟩
    have hn : n < 4194304 := by omega
    have HR := Lib.hid (show decS (n : Int) = ((((decN n).1 : Nat) : Int), (((decN n).2.1 : Nat) : Int), (((decN n).2.2 : Nat) : Int)) by unfold decS; rw [if_pos h]; rfl)
    have HC := Lib.hid (kindOf_any n hn)
    have hd : decide ((0 : Int) ≤ (n : Int) ∧ (n : Int) ≤ 4194303) = true := by simp; omega
    have hk := kind_three n
    have hb := kind_bit n
    have HD := Lib.hid (show decN n = if (kindN n).1 = 3 then (0, 0, 15) else if (kindN n).1 = 2 then (gather (n ^^^ 2 ^ ((kindN n).2 - 1)), 1, 0) else (gather n, 0, 0) from rfl)
    rw [HD.out] at HR
    clear HD
    generalize kindN n = K at *
    obtain ⟨k, b⟩ := K
    simp only at *
    rcases hk with rfl | rfl | rfl
    · clear hb
      have HG := Lib.hid (wordOf_any n hn)
      go_enter Try.func70, Try.ntmps70
      go_wp2_with (first | (go_at_call 65; refine (mwithin_any _ _ _ _).mono ?_; rintro e w' ⟨rfl, rfl⟩) | (go_at_call 98; refine (HC.out _).mono ?_; rintro e w' ⟨rfl, rfl⟩) | (go_at_call 99; refine (HG.out _).mono ?_; rintro e w' ⟨rfl, rfl⟩) | fail)
      refine bodyPost_ret (v := .tuple #[.int .i64 ((gather n : Nat) : Int), .int .i64 0, .int .i64 0]) (by simp [results, Try.results70, go_sem]) rfl ⟨?_, rfl⟩
      rw [HR.out]
      rfl
    · obtain ⟨hb1, hb2⟩ := hb rfl
      clear hb
      have HF := Lib.hid (flipped_any n (b - 1) hn (by omega) (b : Int) (Lib.hid (by omega)))
      have hl := flip_lt n (b - 1) (by omega) hn
      simp only [show ¬ (2 : Nat) = 3 by omega, if_false, if_true] at HR
      generalize n ^^^ 2 ^ (b - 1) = q at *
      have HG := Lib.hid (wordOf_any q hl)
      go_enter Try.func70, Try.ntmps70
      go_wp2_with (first | (go_at_call 65; refine (mwithin_any _ _ _ _).mono ?_; rintro e w' ⟨rfl, rfl⟩) | (go_at_call 98; refine (HC.out _).mono ?_; rintro e w' ⟨rfl, rfl⟩) | (go_at_call 95; refine (HF.out _).mono ?_; rintro e w' ⟨rfl, rfl⟩) | (go_at_call 99; refine (HG.out _).mono ?_; rintro e w' ⟨rfl, rfl⟩) | fail)
      refine bodyPost_ret (v := .tuple #[.int .i64 ((gather q : Nat) : Int), .int .i64 1, .int .i64 0]) (by simp [results, Try.results70, go_sem]) rfl ⟨?_, rfl⟩
      rw [HR.out]
      rfl
    · clear hb
      go_enter Try.func70, Try.ntmps70
      go_wp2_with (first | (go_at_call 65; refine (mwithin_any _ _ _ _).mono ?_; rintro e w' ⟨rfl, rfl⟩) | (go_at_call 98; refine (HC.out _).mono ?_; rintro e w' ⟨rfl, rfl⟩) | fail)
      refine bodyPost_ret (v := .tuple #[.int .i64 0, .int .i64 0, .int .i64 15]) (by simp [results, Try.results70, go_sem]) rfl ⟨?_, rfl⟩
      rw [HR.out]
      rfl
  · have HR := Lib.hid (show decS z = (0, 0, 1) by unfold decS; rw [if_neg h])
    have hd : decide ((0 : Int) ≤ z ∧ z ≤ 4194303) = false := by simp; omega
    go_enter Try.func70, Try.ntmps70
    go_wp2_with (first | (go_at_call 65; refine (mwithin_any _ _ _ _).mono ?_; rintro e w' ⟨rfl, rfl⟩) | fail)
    refine bodyPost_ret (v := .tuple #[.int .i64 0, .int .i64 0, .int .i64 1]) (by simp [results, Try.results70, go_sem]) rfl ⟨?_, rfl⟩
    rw [HR.out]
    rfl
end Go.Proofs.Ytpccpkjfnmclfaa

/- what is wrong with a bank, and what follows where nothing is. -/
namespace Go.Proofs.Ytpccpkjfnmclfaa

/-- its code and its saved word are in their ranges -/
def okAt (p : Int × Int) : Bool := decide (0 ≤ p.1 ∧ p.1 ≤ 4194303) && decide (0 ≤ p.2 ∧ p.2 ≤ 65535)
def chkB (l l' : List Int) : Int :=
  if l.length = 0 then 9 else if 2000 < l.length then 2 else if l'.length ≠ l.length then 3 else if (l.zip l').all okAt = true then 0 else 1
/-- nothing is wrong with a bank -/
structure Right (l l' : List Int) : Prop where
  pos : 0 < l.length
  few : l.length ≤ 2000
  same : l'.length = l.length
  codes : ∀ k (h : k < l.length), 0 ≤ l[k] ∧ l[k] ≤ 4194303
  words : ∀ k (h : k < l'.length), 0 ≤ l'[k] ∧ l'[k] ≤ 65535
theorem chk_right {l l' : List Int} (h : chkB l l' = 0) : Right l l' := by
  unfold chkB at h
  by_cases h1 : l.length = 0
  · rw [if_pos h1] at h; omega
  rw [if_neg h1] at h
  by_cases h2 : 2000 < l.length
  · rw [if_pos h2] at h; omega
  rw [if_neg h2] at h
  by_cases h3 : l'.length ≠ l.length
  · rw [if_pos h3] at h; omega
  rw [if_neg h3] at h
  by_cases h4 : (l.zip l').all okAt = true
  · have h5 : l'.length = l.length := by omega
    have key : ∀ k (hk : k < l.length), okAt (l[k], l'[k]'(by omega)) = true := by
      intro k hk
      have := List.all_eq_true.1 h4 (l[k], l'[k]'(by omega)) (by
        have hz : k < (l.zip l').length := by simp; omega
        have e : (l.zip l')[k] = (l[k], l'[k]'(by omega)) := by simp
        rw [← e]
        exact List.getElem_mem hz)
      exact this
    refine ⟨by omega, by omega, h5, fun k hk => ?_, fun k hk => ?_⟩
    · have := key k hk
      simp only [okAt, Bool.and_eq_true, decide_eq_true_eq] at this
      exact this.1
    · have := key k (by omega)
      simp only [okAt, Bool.and_eq_true, decide_eq_true_eq] at this
      exact this.2
  · rw [if_neg h4] at h; omega
theorem chk_cases (l l' : List Int) : chkB l l' = 0 ∨ chkB l l' = 9 ∨ chkB l l' = 2 ∨ chkB l l' = 3 ∨ chkB l l' = 1 := by
  unfold chkB
  split
  · simp
  · split
    · simp
    · split
      · simp
      · split <;> simp
theorem right_chk {l l' : List Int} (h : Right l l') : chkB l l' = 0 := by
  unfold chkB
  rw [if_neg (by have := h.pos; omega), if_neg (by have := h.few; omega), if_neg (by have := h.same; omega), if_pos]
  rw [List.all_eq_true]
  intro p hp
  obtain ⟨k, hk, rfl⟩ := List.mem_iff_getElem.1 hp
  have hs := h.same
  have hk1 : k < l.length := by simp at hk; omega
  have h1 := h.codes k hk1
  have h2 := h.words k (by omega)
  simp [okAt, h1, h2]
/-- the numbers of natural numbers -/
def ints (l : List Nat) : List Int := l.map fun (n : Nat) => (n : Int)
theorem ints_len (l : List Nat) : (ints l).length = l.length := by simp [ints]
theorem ints_get (l : List Nat) (k : Nat) (h : k < l.length) : (ints l)[k]'(by rw [ints_len]; exact h) = (l[k] : Int) := by simp [ints]
theorem ints_inj {a b : List Nat} (h : ints a = ints b) : a = b := by
  unfold ints at h
  exact List.map_inj_right (fun x y hxy => by omega) |>.1 h
theorem to_nats (l : List Int) (h : ∀ k (h : k < l.length), 0 ≤ l[k]) : ∃ m : List Nat, l = ints m := by
  refine ⟨l.map Int.toNat, ?_⟩
  unfold ints
  rw [List.map_map]
  conv => lhs; rw [← List.map_id l]
  apply List.map_congr_left
  intro z hz
  obtain ⟨k, hk, rfl⟩ := List.mem_iff_getElem.1 hz
  have := h k hk
  simp
  omega
end Go.Proofs.Ytpccpkjfnmclfaa

/- what Written, Flipped and ReadAt answer. -/
namespace Go.Proofs.Ytpccpkjfnmclfaa

def placeS (l l' : List Int) (a : Int) : Int := if chkB l l' = 0 then (if 0 ≤ a ∧ a ≤ (l.length : Int) - 1 then 0 else 9) else chkB l l'
def writtenS (l l' : List Int) (a z : Int) : (List Int × List Int) × Int :=
  if placeS l l' a = 0 then (if 0 ≤ z ∧ z ≤ 65535 then ((l.set a.toNat ((codeN z.toNat : Nat) : Int), l'.set a.toNat z), 0) else (([], []), 1)) else (([], []), placeS l l' a)
/-- a code with a bit, from 1 on, flipped -/
def flipZ (c b : Int) : Int := ((c.toNat ^^^ 2 ^ (b.toNat - 1) : Nat) : Int)
def flippedS (l l' : List Int) (a b : Int) : (List Int × List Int) × Int :=
  if placeS l l' a = 0 then (if 1 ≤ b ∧ b ≤ 22 then ((l.set a.toNat (flipZ (l.getD a.toNat 0) b), l'), 0) else (([], []), 1)) else (([], []), placeS l l' a)
def readS (l l' : List Int) (a : Int) : Int × Int × Int := if placeS l l' a = 0 then decS (l.getD a.toNat 0) else (0, 0, placeS l l' a)
theorem place_cases (l l' : List Int) (a : Int) : (chkB l l' = 0 ∧ (0 ≤ a ∧ a ≤ (l.length : Int) - 1) ∧ placeS l l' a = 0) ∨ (chkB l l' = 0 ∧ ¬ (0 ≤ a ∧ a ≤ (l.length : Int) - 1) ∧ placeS l l' a = 9) ∨ (chkB l l' ≠ 0 ∧ placeS l l' a = chkB l l') := by
  unfold placeS
  by_cases h1 : chkB l l' = 0
  · by_cases h2 : 0 ≤ a ∧ a ≤ (l.length : Int) - 1
    · exact .inl ⟨h1, h2, by rw [if_pos h1, if_pos h2]⟩
    · exact .inr (.inl ⟨h1, h2, by rw [if_pos h1, if_neg h2]⟩)
  · exact .inr (.inr ⟨h1, by rw [if_neg h1]⟩)
theorem place_right {l l' : List Int} {a : Int} (h : placeS l l' a = 0) : Right l l' ∧ ∃ k : Nat, a = (k : Int) ∧ k < l.length := by
  rcases place_cases l l' a with ⟨h1, h2, _⟩ | ⟨_, _, h3⟩ | ⟨h1, h3⟩
  · have hr := chk_right h1
    have := hr.pos
    exact ⟨hr, a.toNat, by omega, by omega⟩
  · omega
  · omega
end Go.Proofs.Ytpccpkjfnmclfaa

/- what going through codes does. -/
namespace Go.Proofs.Ytpccpkjfnmclfaa

/-- what was done: when, where, what it was, which bit -/
structure Scr where
  t : Nat
  p : Nat
  k : Nat
  b : Nat
/-- codes, where it goes on, what was done -/
structure St where
  C : List Nat
  next : Nat
  done : List Scr
/-- a code, mended if it can be -/
def mend (c : Nat) : Nat := if (kindN c).1 = 2 then c ^^^ 2 ^ ((kindN c).2 - 1) else c
def stepS (t : Nat) (s : St) : St :=
  ⟨s.C.set s.next (mend (s.C.getD s.next 0)), (s.next + 1) % s.C.length,
    if (kindN (s.C.getD s.next 0)).1 = 1 then s.done else s.done ++ [⟨t, s.next, (kindN (s.C.getD s.next 0)).1, (kindN (s.C.getD s.next 0)).2⟩]⟩
def scrubT (t : Nat) : Nat → St → St
  | 0, s => s
  | k + 1, s => stepS t (scrubT t k s)
/-- codes that are codes, and a place of theirs -/
structure St.ok (s : St) (n : Nat) : Prop where
  len : s.C.length = n
  next : s.next < n
  codes : ∀ k (h : k < s.C.length), s.C[k] < 4194304
theorem mend_lt (c : Nat) (h : c < 4194304) : mend c < 4194304 := by
  unfold mend
  split
  · rename_i hk
    have := kind_bit c hk
    exact flip_lt _ _ (by omega) h
  · exact h
theorem step_ok {s : St} {n t : Nat} (h : s.ok n) : (stepS t s).ok n := by
  have h1 := h.len
  have h2 := h.next
  refine ⟨by simpa [stepS] using h1, ?_, fun k hk => ?_⟩
  · simp only [stepS]
    rw [h1]
    exact Nat.mod_lt _ (by omega)
  · simp only [stepS] at hk ⊢
    rw [List.getElem_set]
    split
    · have e : s.C.getD s.next 0 = s.C[s.next]'(by omega) := by simp [List.getD, show s.next < s.C.length by omega]
      rw [e]
      exact mend_lt _ (h.codes _ _)
    · exact h.codes k (by simpa using hk)
theorem scrub_ok {s : St} {n t : Nat} (h : s.ok n) : ∀ k, (scrubT t k s).ok n
  | 0 => h
  | k + 1 => step_ok (scrub_ok h k)
theorem step_done (t : Nat) (s : St) : (stepS t s).done.length ≤ s.done.length + 1 := by
  simp only [stepS]
  split <;> simp
theorem scrub_done (t : Nat) (s : St) : ∀ k, (scrubT t k s).done.length ≤ s.done.length + k
  | 0 => Nat.le_refl _
  | k + 1 => by
    have := scrub_done t s k
    have := step_done t (scrubT t k s)
    simp only [scrubT]
    omega
theorem set_same (l : List Nat) (k : Nat) (hk : k < l.length) : l.set k (l.getD k 0) = l := by
  apply List.ext_getElem
  · simp
  · intro i h1 h2
    rw [List.getElem_set]
    split
    · rename_i e; subst e; simp [List.getD, hk]
    · rfl
theorem ints_set (l : List Nat) (k c : Nat) : (ints l).set k (c : Int) = ints (l.set k c) := by
  unfold ints
  rw [List.map_set]
end Go.Proofs.Ytpccpkjfnmclfaa

/- what Scrubbed answers. -/
namespace Go.Proofs.Ytpccpkjfnmclfaa

def nats (l : List Int) : List Nat := l.map Int.toNat
theorem ints_nats (l : List Int) (h : ∀ k (h : k < l.length), 0 ≤ l[k]) : ints (nats l) = l := by
  unfold ints nats
  rw [List.map_map]
  conv => rhs; rw [← List.map_id l]
  apply List.map_congr_left
  intro z hz
  obtain ⟨k, hk, rfl⟩ := List.mem_iff_getElem.1 hz
  have := h k hk
  simp
  omega
theorem nats_len (l : List Int) : (nats l).length = l.length := by simp [nats]
theorem nats_get (l : List Int) (k : Nat) (h : k < l.length) : (nats l)[k]'(by rw [nats_len]; exact h) = (l[k]).toNat := by simp [nats]
theorem right_ints {l l' : List Int} (h : Right l l') : ints (nats l) = l := ints_nats l fun k hk => (h.codes k hk).1
theorem right_ok {l l' : List Int} (h : Right l l') (k : Nat) (hk : k < l.length) (D : List Scr) : (⟨nats l, k, D⟩ : St).ok l.length := by
  refine ⟨nats_len l, hk, fun j hj => ?_⟩
  have hj' : j < l.length := by rw [nats_len] at hj; exact hj
  have := h.codes j hj'
  rw [nats_get l j hj']
  omega
def scrubbedS (l l' : List Int) (a m : Int) : (List Int × List Int) × List Scr × Int :=
  if placeS l l' a = 0 then
    (if 0 ≤ m ∧ m ≤ 5000 then ((ints (scrubT 0 m.toNat ⟨nats l, a.toNat, []⟩).C, l'), (scrubT 0 m.toNat ⟨nats l, a.toNat, []⟩).done, 0) else (([], []), [], 1))
  else (([], []), [], placeS l l' a)
end Go.Proofs.Ytpccpkjfnmclfaa

/- what was gone through is read as before. -/
namespace Go.Proofs.Ytpccpkjfnmclfaa

theorem kind_two_bit {c b : Nat} (h : kindN c = (2, b)) : oddTo c 22 = true ∧ ((markTo c 21 = 0 ∧ b = 22) ∨ (markTo c 21 = b ∧ 0 < b ∧ b < 22)) := by
  unfold kindN at h
  by_cases h1 : oddTo c 22 = true
  · rw [if_pos h1] at h
    by_cases h2 : markTo c 21 = 0
    · rw [if_pos h2] at h
      simp at h
      exact ⟨h1, .inl ⟨h2, h.symm⟩⟩
    · rw [if_neg h2] at h
      by_cases h3 : markTo c 21 < 22
      · rw [if_pos h3] at h
        simp at h
        exact ⟨h1, .inr ⟨h, by omega, by omega⟩⟩
      · rw [if_neg h3] at h
        simp at h
  · rw [if_neg h1] at h
    split at h <;> simp at h
theorem kind_mended {c b : Nat} (h : kindN c = (2, b)) : kindN (c ^^^ 2 ^ (b - 1)) = (1, 0) := by
  obtain ⟨h1, h2⟩ := kind_two_bit h
  unfold kindN
  rcases h2 with ⟨h2, rfl⟩ | ⟨h2, h3, h4⟩
  · have e1 : oddTo (c ^^^ 2 ^ (22 - 1)) 22 = false := by rw [odd_flip, if_pos (by omega), h1]; rfl
    have e2 : markTo (c ^^^ 2 ^ (22 - 1)) 21 = 0 := by rw [mark_flip, if_neg (by omega), h2]
    rw [e1, e2]
    rfl
  · have e1 : oddTo (c ^^^ 2 ^ (b - 1)) 22 = false := by rw [odd_flip, if_pos (by omega), h1]; rfl
    have e2 : markTo (c ^^^ 2 ^ (b - 1)) 21 = 0 := by rw [mark_flip, if_pos (by omega), h2, show b - 1 + 1 = b by omega, Nat.xor_self]
    rw [e1, e2]
    rfl
theorem mend_mend (c : Nat) : mend (mend c) = mend c := by
  unfold mend
  by_cases h : (kindN c).1 = 2
  · have hk : kindN c = (2, (kindN c).2) := by rw [← h]
    have := kind_mended hk
    rw [if_pos h, if_neg (by rw [this]; simp)]
  · rw [if_neg h, if_neg h]
theorem dec_mend (c : Nat) : (decN (mend c)).1 = (decN c).1 ∧ (decN (mend c)).2.2 = (decN c).2.2 ∧ (decN (mend c)).2.1 = 0 := by
  unfold mend
  by_cases h : (kindN c).1 = 2
  · have hk : kindN c = (2, (kindN c).2) := by rw [← h]
    have hm := kind_mended hk
    rw [if_pos h]
    unfold decN
    simp [hm, h]
  · rw [if_neg h]
    unfold decN
    by_cases h3 : (kindN c).1 = 3
    · simp [h3]
    · simp [h3, h]
/-- where it came to behind j codes -/
theorem scrub_at {C : List Nat} {n k : Nat} (hn : C.length = n) (hk : k < n) (hok : (⟨C, k, []⟩ : St).ok n) : ∀ j i (hi : i < n),
    (scrubT 0 j ⟨C, k, []⟩).C[i]'(by rw [(scrub_ok hok j).len]; exact hi) = if (i + n - k) % n < j then mend (C[i]'(by omega)) else C[i]'(by omega)
  | 0, i, hi => by simp [scrubT]
  | j + 1, i, hi => by
    have ih := scrub_at hn hk hok j i hi
    have hl := (scrub_ok hok j (t := 0)).len
    have hx : (scrubT 0 j ⟨C, k, []⟩).next = (k + j) % n := by
      have : ∀ j, (scrubT 0 j ⟨C, k, []⟩).next = (k + j) % n := by
        intro j
        induction j with
        | zero => simp [scrubT, Nat.mod_eq_of_lt hk]
        | succ j ih =>
          have hl := (scrub_ok hok j (t := 0)).len
          simp only [scrubT, stepS, hl, ih]
          rw [← Nat.add_assoc, Nat.mod_add_mod]
      exact this j
    have hxl : (k + j) % n < n := Nat.mod_lt _ (by omega)
    simp only [scrubT, stepS]
    rw [List.getElem_set]
    by_cases he : (scrubT 0 j ⟨C, k, []⟩).next = i
    · rw [if_pos he]
      rw [he]
      have hgd : (scrubT 0 j ⟨C, k, []⟩).C.getD i 0 = (scrubT 0 j ⟨C, k, []⟩).C[i]'(by omega) := by simp [List.getD, show i < (scrubT 0 j ⟨C, k, []⟩).C.length by omega]
      rw [hgd, ih]
      have hlt : (i + n - k) % n < j + 1 := by
        rw [hx] at he
        have e : (i + n - k) % n = j % n := by
          rw [← he]
          have hd := Nat.div_add_mod (k + j) n
          have e2 : (k + j) % n + n - k + n * ((k + j) / n) = j + n := by omega
          have := Nat.add_mul_mod_self_left ((k + j) % n + n - k) n ((k + j) / n)
          rw [← this, e2]
          simp
        rw [e]
        have := Nat.mod_le j n
        omega
      rw [if_pos hlt]
      split
      · exact mend_mend _
      · rfl
    · rw [if_neg he, ih]
      have hne : (i + n - k) % n ≠ j := by
        intro hj
        apply he
        rw [hx, ← hj]
        have hd := Nat.div_add_mod (i + n - k) n
        have e2 : k + (i + n - k) % n + n * ((i + n - k) / n) = i + n := by omega
        have := Nat.add_mul_mod_self_left (k + (i + n - k) % n) n ((i + n - k) / n)
        rw [← this, e2]
        simp [Nat.mod_eq_of_lt hi]
      by_cases h1 : (i + n - k) % n < j
      · rw [if_pos h1, if_pos (by omega)]
      · rw [if_neg h1, if_neg (by omega)]
end Go.Proofs.Ytpccpkjfnmclfaa

/- appending onto a row of the call's own; rows of bytes. -/
namespace Go.Proofs.Ytpccpkjfnmclfaa
open Go.RowKit

/-- t is the slice type of e, whose values take some cells and bytes -/
def Elem (t e : TypeId) (size bytes : Nat) : Prop :=
  Try.prog.underlying t = some (.slice e) ∧ ∃ i z, Try.prog.info? e = some i ∧ i.zero = some z ∧ i.size = size ∧ i.bytes = bytes ∧ z.cells.size = size ∧ 0 < size
theorem info5 : (Try.prog.info? 5).map (fun i => (i.zero, i.size, i.bytes)) = some (some (.int .u8 0), 1, 1) := by kernel_rfl
theorem elem8 : Elem 22 5 1 1 := by
  obtain ⟨i, h1, h2, h3, h4⟩ := info_parts info5
  exact ⟨Try.underlying22, i, _, h1, h2, h3, h4, rfl, by omega⟩

theorem run_app {t e : TypeId} {size bytes : Nat} (hE : Elem t e size bytes) (w : World) (base : Nat) (ty : TypeId) (v : Value) (n : Nat) (xs : List Value) (hown : w.ownsRow base e size v n xs)
    (B : Nat) (A : Option Addr) (m c : Nat) (news : List Value) (hl : news.length = m * size) (hc : Cells w B A news) (h1 : ∀ u ∈ news, u.oneCell' = true)
    (h63 : n + m ≤ maxLen) (hb : (n + m) * bytes ≤ 140737488355328) (hbase : base ≤ w.heap.size) :
    ∃ v' w', (Builtin.append_ #[t, t] ty #[v, .slice A m c]).run Try.prog w = .ok v' w' ∧ w'.ownsRow base e size v' (n + m) (xs ++ news) ∧ w.grownBy w' v.ownBlock ∧
      (v'.ownBlock = v.ownBlock ∨ v'.ownBlock = some w.heap.size) := by
  obtain ⟨ht, i, z, hi, hz, hs, hby, hzs, hsz⟩ := hE
  cases A with
  | none =>
    have hn : news = [] := by
      rcases hc with e | ⟨ad, e, _⟩
      · exact e
      · cases e
    subst hn
    have hm : m = 0 := by
      rcases Nat.eq_zero_or_pos m with h | h
      · exact h
      · have := Nat.mul_pos h hsz
        simp at hl
        omega
    subst hm
    refine ⟨v, w, ?_, by simpa using hown, World.grownBy.refl w _, .inl rfl⟩
    rcases hown.2 with ⟨rfl, rfl⟩ | ⟨g, cap, cur, rfl, _, _, hnc, _⟩
    · simp [Builtin.append_, run_underlying ht, sizeOf, typeInfo, hi, Builtin.lenOf, Builtin.firstCells]
    · simp [Builtin.append_, run_underlying ht, sizeOf, typeInfo, hi, Builtin.lenOf, Builtin.firstCells, hnc, storeCells]
  | some ad =>
    have hnews : ∀ j u, news[j]? = some u → w.cell? (ad.add j) = some u := by
      rcases hc with e | ⟨ad', e, _, h⟩
      · subst e
        intro j u hu
        simp at hu
      · obtain rfl : ad = ad' := by injection e
        exact h
    obtain ⟨v', w', hrun, a1, a2, _, a3⟩ := run_append_own_at (P := Try.prog) w base t ty e i z size bytes ht hi hz hs hby hzs hsz v n xs hown ad m c news hl hnews h1 h63 hb hbase
    exact ⟨v', w', hrun, a1, a2, a3⟩

theorem wpList_app {ops : Array Oper} {rest : List Oper} {o : Oper} {a : Act} {Q : Exit → Act → World → Prop} (w : World) (hgd : o.guard = none) (s x : Operand) (t e : TypeId) (size bytes : Nat)
    (ho : o.op = .call { callee := .builtin .append, args := #[s, x], argTypes := #[t, t] }) (hE : Elem t e size bytes) (base : Nat)
    (v : Value) (n : Nat) (xs : List Value) (hs : a.eval s = v) (hown : w.ownsRow base e size v n xs) (B : Nat) (A : Option Addr) (m c : Nat) (news : List Value)
    (hx : a.eval x = .slice A m c) (hl : news.length = m * size) (hc : Cells w B A news) (h1 : ∀ u ∈ news, u.oneCell' = true)
    (h63 : n + m ≤ maxLen) (hb : (n + m) * bytes ≤ 140737488355328) (hbase : base ≤ w.heap.size)
    (h : ∀ v' w', w'.ownsRow base e size v' (n + m) (xs ++ news) → w.grownBy w' v.ownBlock → (v'.ownBlock = v.ownBlock ∨ v'.ownBlock = some w.heap.size) → wpList Try.prog ops Q rest (a.put o.dst v') w') :
    wpList Try.prog ops Q (o :: rest) a w := by
  refine wpList_plain hgd fun K hK => ?_
  obtain ⟨v', w', hrun, a1, a2, a3⟩ := run_app hE w base o.type v n xs hown B A m c news hl hc h1 h63 hb hbase
  unfold Oper.wp execOp
  simp only [ho, resolve, invoke, builtin, Sem.run_bind, Sem.run_pure, Result.andThen_ok, List.map_toArray, List.map_cons, List.map_nil, hs, hx, hrun]
  exact hK _ _ (h v' w' a1 a2 a3)

/-- a row of bytes of the call's own -/
def Own (w : World) (base : Nat) (v : Value) (l : List UInt8) : Prop := w.ownsRow base 5 1 v l.length (l.map bv)
theorem bv_one (l : List UInt8) : ∀ u ∈ l.map bv, u.oneCell' = true := by
  intro u hu
  obtain ⟨c, _, rfl⟩ := List.mem_map.1 hu
  rfl
theorem Own.form {w : World} {base : Nat} {v : Value} {l : List UInt8} (h : Own w base v l) : ∃ A c, v = .slice A l.length c ∧ BR w w.heap.size A l := by
  have hh := h
  rcases hh.2 with ⟨rfl, hn⟩ | ⟨g, cap, cur, rfl, hb, hg, hnc, _⟩
  · rw [hn]
    exact ⟨none, 0, rfl, .inl (by simp [List.eq_nil_of_length_eq_zero hn])⟩
  · refine ⟨_, cap, rfl, .inr ⟨_, rfl, ?_, fun j u hu => World.ownsRow.cells h (g := g) rfl j u hu⟩⟩
    exact (h.lt g rfl).2
theorem Own.read {w : World} {base n c : Nat} {A : Option Addr} {l : List UInt8} (h : Own w base (.slice A n c) l) : n = l.length ∧ BR w w.heap.size A l := by
  obtain ⟨A', c', e, hB⟩ := h.form
  injection e with e1 e2
  subst e1
  exact ⟨e2, hB⟩
theorem Own.after {w w' : World} {base B : Nat} {v : Value} {l : List UInt8} (h : Own w base v l) (hb : Below B w w') (hB : w.heap.size ≤ B) : Own w' base v l :=
  World.ownsRow.kept (row := none) h ⟨hb.os, hb.tape, hb.output, hb.size, fun k hk _ => hb.block k (by omega)⟩ (by
    rcases h' : v.ownBlock with _ | g
    · exact .inl rfl
    · exact .inr (by simp))
theorem Own.nil (w : World) (base : Nat) : Own w base (.slice none 0 0) [] := w.ownsRow_nil base 5 1
theorem Own.of {w : World} {base m : Nat} {v : Value} {a b : List UInt8} (h : w.ownsRow base 5 1 v (a.length + m) (a.map bv ++ b.map bv)) (hm : m = b.length) : Own w base v (a ++ b) := by
  subst hm
  unfold Own
  rw [List.length_append, List.map_append]
  exact h
/-- what an append leaves, said of bytes -/
def Next (w w' : World) (v v' : Value) : Prop := w.grownBy w' v.ownBlock ∧ (v'.ownBlock = v.ownBlock ∨ ∃ g, v'.ownBlock = some g ∧ w.heap.size ≤ g)
theorem Next.below {w w0 w' : World} {v v' : Value} {base : Nat} {l : List UInt8} (h : Next w w' v v') (ho : Own w base v l) (hb : Below base w0 w) (hz : base ≤ w.heap.size) : Below base w0 w' :=
  hb.grown h.1 hz fun k hk => (ho.lt k hk).1

theorem Own.lower {w : World} {base base' : Nat} {v : Value} {l : List UInt8} (h : Own w base v l) (hb : base' ≤ base) : Own w base' v l := by
  refine ⟨h.1, ?_⟩
  rcases h.2 with e | ⟨g, cap, cur, e, hg, r⟩
  · exact .inl e
  · exact .inr ⟨g, cap, cur, e, by omega, r⟩
/-- below a row's base all is as it was -/
theorem Below.at_ {B : Nat} {a w : World} (h : Below B a w) (b : Nat) (hb : b < B) (k : Nat) : w.cell? ⟨b, k, none⟩ = a.cell? ⟨b, k, none⟩ := h.cell (p := ⟨b, k, none⟩) hb

/-- the two bytes of a number -/
def two (n : Nat) : List UInt8 := [UInt8.ofNat (n / 256), UInt8.ofNat n]
theorem bv_two (n : Nat) : (two n).map bv = [.int .u8 ((n : Int) / 256 % 256), .int .u8 ((n : Int) % 256)] := by
  simp [two, bv]

theorem Next.refl (w : World) (v : Value) : Next w w v v := ⟨World.grownBy.refl w _, .inl rfl⟩
theorem Next.trans {a b c : World} {u v x : Value} (h1 : Next a b u v) (h2 : Next b c v x) : Next a c u x := by
  refine ⟨⟨h2.1.os.trans h1.1.os, h2.1.tape.trans h1.1.tape, h2.1.output.trans h1.1.output, Nat.le_trans h1.1.size h2.1.size, fun k hk hne => ?_⟩, ?_⟩
  · refine (h2.1.block k (Nat.lt_of_lt_of_le hk h1.1.size) fun e => ?_).trans (h1.1.block k hk hne)
    rcases h1.2 with e1 | ⟨g, e1, hg⟩
    · exact hne (e.trans e1)
    · rw [e1] at e
      injection e with e
      omega
  · rcases h2.2 with e | ⟨g, e, hg⟩
    · rw [e]; exact h1.2
    · exact .inr ⟨g, e, Nat.le_trans h1.1.size hg⟩
theorem Next.alloc (w : World) (o : Obj) (v : Value) : Next w (w.alloc o) v v := by
  have h := (Below.refl w.heap.size w).alloc (Nat.le_refl _) o
  exact ⟨⟨h.os, h.tape, h.output, h.size, fun k hk _ => h.block k hk⟩, .inl rfl⟩

/-- a number in so many bytes, the greatest one first -/
def bigE (n : Nat) : Nat → List UInt8
  | 0 => []
  | m + 1 => UInt8.ofNat (n / 256 ^ m) :: bigE n m
theorem bigE_len (n : Nat) : ∀ m, (bigE n m).length = m
  | 0 => rfl
  | m + 1 => by simp [bigE, bigE_len n m]

theorem shr_byte (n k : Nat) : (n : Int) / 2 ^ (8 * k) % 256 = ((UInt8.ofNat (n / 256 ^ k)).toNat : Int) := by
  have e : (2 : Nat) ^ (8 * k) = 256 ^ k := by rw [Nat.pow_mul]
  rw [show ((2 : Int) ^ (8 * k)) = ((256 ^ k : Nat) : Int) by rw [← e, Int.natCast_pow]; rfl]
  have h : (UInt8.ofNat (n / 256 ^ k)).toNat = n / 256 ^ k % 256 := UInt8.toNat_ofNat'
  rw [h]
  generalize 256 ^ k = q
  rw [Int.natCast_emod, Int.natCast_ediv]
  rfl
set_option maxRecDepth 100000 in
set_option maxHeartbeats 1000000 in
theorem append_any (base : Nat) (v : Value) (l : List UInt8) (n m : Nat) (w : World) (hm : m ≤ 8) (hl : l.length ≤ 1000000) (hbase : base ≤ w.heap.size) (h : Own w base v l) :
    Calls Try.prog 116 #[v, .int .i64 n, .int .i64 m] w fun e w' => ∃ v', e = .returned v' ∧ Own w' base v' (l ++ bigE n m) ∧ Next w w' v v' := by
  go_enter Try.func116, Try.ntmps116
  go_wp2_with fail
  go_loopw [0, 7] (fun u i wr => ∃ (k : Nat) (X : List UInt8), k ≤ m ∧ i = .int .i64 ((k : Int) - 1) ∧ X.length + k = m ∧ bigE n m = X ++ bigE n k ∧ Own wr base u (l ++ X) ∧ Next w wr v u) (fun _ i _ => (intOf i + 1).toNat)
  case atStart => exact ⟨m, [], Nat.le_refl _, by go_num, by simp, rfl, by simpa using h, Next.refl _ _⟩
  case round =>
    obtain ⟨k, X, hk, rfl, hX, hE, hown, hnx⟩ := hrel
    rcases k with _ | k
    · go_wp2_with fail
      go_ret
      have : bigE n m = X := by simpa [bigE] using hE
      exact ⟨_, rfl, by rw [this]; exact hown, hnx⟩
    · have hXl : (l ++ X).length ≤ 1000008 := by simp; omega
      have HE := Lib.hid hE
      have HX := Lib.hid hX
      clear hE hX h
      generalize hL : l ++ X = L at *
      have HL := Lib.hid hL
      clear hL
      have hz := hnx.1.size
      have hk8 : k ≤ 7 := by omega
      obtain ⟨t, ht⟩ : ∃ t : UInt8, t = UInt8.ofNat (n / 256 ^ k) := ⟨_, rfl⟩
      have HT := Lib.hid ht
      have hval : (n : Int) / 2 ^ (8 * k) % 256 = (t.toNat : Int) := by
        rw [ht]
        exact shr_byte n k
      have HV := Lib.hid hval
      clear hval ht
      go_wp2_with (first | (at_builtin; refine wpList_app _ rfl (.tmp 14) (.tmp 20) 22 5 1 1 rfl elem8 base u0 L.length (L.map bv) rfl (World.ownsRow.alloc hown _) (wr.heap.size + 1) _ 1 1 ([t].map bv) rfl rfl (Cells.fresh wr _ 5 _ _ (by rw [HV.out]; rfl)) (bv_one _) (by unfold maxLen; omega) (by omega) (by simp; omega) ?_; intro v3 w3 hown3 hgrow3 hat3) | fail)
      go_roundw
      case rel =>
        have HTT : t = UInt8.ofNat (n / 256 ^ k) := HT.out
        refine ⟨k, X ++ [t], by omega, by go_num, by have := HX.out; simp; omega, ?_, ?_, ?_⟩
        · rw [HE.out, HTT]; simp [bigE]
        · rw [← List.append_assoc, HL.out]; exact Own.of (b := [t]) hown3 rfl
        · refine hnx.trans ((Next.alloc wr _ u0).trans ⟨hgrow3, ?_⟩)
          rcases hat3 with e | e
          · exact .inl e
          · exact .inr ⟨_, e, Nat.le_refl _⟩
      case measure => simp [intOf]

theorem bigE_two (n : Nat) : bigE n 2 = two n := by simp [bigE, two]
set_option maxHeartbeats 400000 in
theorem appendTwo_any (base : Nat) (v : Value) (l : List UInt8) (z : Int) (n : Nat) (w : World) (hzn : Hid (z = (n : Int))) (hl : l.length ≤ 1000000) (ho : Own w base v l) (hz : base ≤ w.heap.size) :
    Calls Try.prog 93 #[v, .int .i64 z] w fun e w' => ∃ v', e = .returned v' ∧ Own w' base v' (l ++ two n) ∧ Next w w' v v' := by
  obtain rfl : z = (n : Int) := hzn
  have HA := Lib.hid (append_any base v l n 2 w (by omega) hl hz ho)
  rw [bigE_two] at HA
  go_enter Try.func93, Try.ntmps93
  go_wp2_with (first | (go_at_call 116; refine HA.out.mono ?_; rintro e w' ⟨v', rfl, q1, q2⟩) | fail)
  go_ret
  exact ⟨_, rfl, q1, q2⟩

theorem setCell_grown (w : World) (g k : Nat) (u : Value) : w.grownBy (w.setCell ⟨g, k, none⟩ u) (some g) :=
  ⟨rfl, rfl, rfl, by simp [World.setCell], fun i _ hne => Below.heap_setCell w ⟨g, k, none⟩ u i (fun e => hne (by rw [e]))⟩
theorem Own.apart {w w' : World} {base g : Nat} {v : Value} {l : List UInt8} (h : Own w base v l) (hg : w.grownBy w' (some g)) (hlt : g < base) : Own w' base v l :=
  World.ownsRow.kept h hg (.inr (fun e => by have := (h.lt g e).1; omega))
/-- a call that makes memory alone, among several: what is below b stays, what was owned stays owned -/
theorem carry {b : Nat} {W0 w : World} {f : FuncId} {args : Array Value} {v : Value} (hc : Calls Try.prog f args w fun e w' => e = .returned v ∧ Below w.heap.size w w') (hb : Below b W0 w) (hs : b ≤ w.heap.size) :
    Calls Try.prog f args w fun e w' => e = .returned v ∧ Below b W0 w' ∧ b ≤ w'.heap.size ∧ (∀ base u l, Own w base u l → Own w' base u l) := by
  refine hc.mono ?_
  rintro e w' ⟨rfl, hb'⟩
  exact ⟨rfl, hb.trans (hb'.mono hs), Nat.le_trans hs hb'.size, fun base u l h => h.after hb' (Nat.le_refl _)⟩
theorem wrapped {z : Int} {n : Nat} (h : z = (n : Int)) (hn : n ≤ 9223372036854775807) : IntKind.i64.wrap z = (n : Int) := by
  rw [IntWalk.i64_in _ (by omega)]; exact h
theorem info3 : (Try.prog.info? 3).map (fun i => (i.zero, i.size, i.bytes)) = some (some (.int .i64 0), 1, 8) := by kernel_rfl
theorem elemI : Elem 43 3 1 8 := by
  obtain ⟨i, h1, h2, h3, h4⟩ := info_parts info3
  exact ⟨Try.underlying43, i, _, h1, h2, h3, h4, rfl, by omega⟩

/-- a row of numbers of the call's own -/
def OwnI (w : World) (base : Nat) (v : Value) (l : List Int) : Prop := w.ownsRow base 3 1 v l.length (l.map iv)
theorem iv_one (l : List Int) : ∀ u ∈ l.map iv, u.oneCell' = true := by
  intro u hu
  obtain ⟨c, _, rfl⟩ := List.mem_map.1 hu
  rfl
theorem OwnI.form {w : World} {base : Nat} {v : Value} {l : List Int} (h : OwnI w base v l) : ∃ A c, v = .slice A l.length c ∧ IR w w.heap.size A l := by
  have hh := h
  rcases hh.2 with ⟨rfl, hn⟩ | ⟨g, cap, cur, rfl, hb, hg, hnc, _⟩
  · rw [hn]
    exact ⟨none, 0, rfl, .inl (by simp [List.eq_nil_of_length_eq_zero hn])⟩
  · refine ⟨_, cap, rfl, .inr ⟨_, rfl, ?_, fun j u hu => World.ownsRow.cells h (g := g) rfl j u hu⟩⟩
    exact (h.lt g rfl).2
theorem OwnI.read {w : World} {base n c : Nat} {A : Option Addr} {l : List Int} (h : OwnI w base (.slice A n c) l) : n = l.length ∧ IR w w.heap.size A l := by
  obtain ⟨A', c', e, hB⟩ := h.form
  injection e with e1 e2
  subst e1
  exact ⟨e2, hB⟩
theorem OwnI.after {w w' : World} {base B : Nat} {v : Value} {l : List Int} (h : OwnI w base v l) (hb : Below B w w') (hB : w.heap.size ≤ B) : OwnI w' base v l :=
  World.ownsRow.kept (row := none) h ⟨hb.os, hb.tape, hb.output, hb.size, fun k hk _ => hb.block k (by omega)⟩ (by
    rcases h' : v.ownBlock with _ | g
    · exact .inl rfl
    · exact .inr (by simp))
theorem OwnI.nil (w : World) (base : Nat) : OwnI w base (.slice none 0 0) [] := w.ownsRow_nil base 3 1
theorem OwnI.of {w : World} {base m : Nat} {v : Value} {a b : List Int} (h : w.ownsRow base 3 1 v (a.length + m) (a.map iv ++ b.map iv)) (hm : m = b.length) : OwnI w base v (a ++ b) := by
  subst hm
  unfold OwnI
  rw [List.length_append, List.map_append]
  exact h
theorem OwnI.lower {w : World} {base base' : Nat} {v : Value} {l : List Int} (h : OwnI w base v l) (hb : base' ≤ base) : OwnI w base' v l := by
  refine ⟨h.1, ?_⟩
  rcases h.2 with e | ⟨g, cap, cur, e, hg, r⟩
  · exact .inl e
  · exact .inr ⟨g, cap, cur, e, by omega, r⟩
end Go.Proofs.Ytpccpkjfnmclfaa

/- a row of numbers that lies in a block of its own and is written in place; slices.Clone. -/
namespace Go.Proofs.Ytpccpkjfnmclfaa
open Go.RowKit

/-- block g holds the numbers l, with room for some more -/
def RowAt (w : World) (g cap : Nat) (l : List Int) : Prop :=
  ∃ cur, w.heap[g]? = some (.cells cur 3 (0, 0)) ∧ l.length ≤ cap ∧ cap ≤ maxLen ∧ cur.size = cap ∧ cur.toList.take l.length = l.map iv
theorem RowAt.lt {w : World} {g cap : Nat} {l : List Int} (h : RowAt w g cap l) : g < w.heap.size := by
  obtain ⟨cur, h1, _⟩ := h
  exact (Array.getElem?_eq_some_iff.1 h1).1
theorem RowAt.cell {w : World} {g cap : Nat} {l : List Int} (h : RowAt w g cap l) (k : Nat) (hk : k < l.length) : w.cell? ⟨g, k, none⟩ = some (.int .i64 l[k]) := by
  obtain ⟨cur, h1, h2, h3, h4, h5⟩ := h
  simp only [World.cell?, h1]
  have e : (cur.toList.take l.length)[k]? = (l.map iv)[k]? := by rw [h5]
  rw [List.getElem?_take, if_pos hk] at e
  simp [hk] at e
  simpa [iv] using e
theorem RowAt.free {w : World} {g cap : Nat} {l : List Int} (h : RowAt w g cap l) (k : Nat) : w.frozen? ⟨g, k, none⟩ = false := by
  obtain ⟨cur, h1, _⟩ := h
  simp [World.frozen?, h1]
theorem RowAt.below {w w' : World} {B g cap : Nat} {l : List Int} (h : RowAt w g cap l) (hb : Below B w w') (hg : g < B) : RowAt w' g cap l := by
  obtain ⟨cur, h1, h2⟩ := h
  exact ⟨cur, (hb.block g hg).trans h1, h2⟩
theorem RowAt.set {w : World} {g cap : Nat} {l : List Int} (h : RowAt w g cap l) (k : Nat) (z : Int) : RowAt (w.setCell ⟨g, k, none⟩ (.int .i64 z)) g cap (l.set k z) := by
  have hlt := h.lt
  obtain ⟨cur, h1, h2, h3, h4, h5⟩ := h
  refine ⟨cur.setIfInBounds k (.int .i64 z), ?_, by simpa using h2, h3, by simpa using h4, ?_⟩
  · have h' : w.heap[g] = .cells cur 3 (0, 0) := by simpa [Array.getElem?_eq_getElem hlt] using h1
    simp only [World.setCell]
    rw [Array.getElem?_modify, if_pos rfl, Array.getElem?_eq_getElem hlt, h']
    simp
  · rw [Array.toList_setIfInBounds, List.length_set]
    apply List.ext_getElem?
    intro j
    have e : (cur.toList.take l.length)[j]? = (l.map iv)[j]? := by rw [h5]
    rw [List.map_set]
    rw [List.getElem?_take] at e ⊢
    by_cases hj : j < l.length
    · rw [if_pos hj] at e ⊢
      by_cases hkj : k = j
      · subst hkj
        rw [List.getElem?_set_self (by simp; omega), List.getElem?_set_self (by simpa using hj)]
        rfl
      · rw [List.getElem?_set_ne hkj, List.getElem?_set_ne hkj, e]
    · rw [if_neg hj]
      symm
      apply List.getElem?_eq_none
      simp
      omega
theorem RowAt.other {w : World} {g g' cap k : Nat} {l : List Int} {u : Value} (h : RowAt w g cap l) (hne : g ≠ g') : RowAt (w.setCell ⟨g', k, none⟩ u) g cap l := by
  obtain ⟨cur, h1, h2⟩ := h
  exact ⟨cur, (Below.heap_setCell w ⟨g', k, none⟩ u g hne).trans h1, h2⟩
theorem RowAt.drew {w : World} {g cap : Nat} {l : List Int} (h : RowAt w g cap l) : RowAt w.drew g cap l := h
theorem RowAt.drawn {w : World} {g cap : Nat} {l : List Int} (h : RowAt w g cap l) (n : Nat) : RowAt (w.drewN n) g cap l := h
theorem RowAt.ir {w : World} {g cap : Nat} {l : List Int} (h : RowAt w g cap l) : IR w w.heap.size (some ⟨g, 0, none⟩) l := by
  refine .inr ⟨_, rfl, h.lt, fun j v hv => ?_⟩
  have hj : j < l.length := by
    have := (List.getElem?_eq_some_iff.1 hv).1
    simpa using this
  have e2 : (⟨g, 0, none⟩ : Addr).add j = ⟨g, j, none⟩ := by by_cases h : j = 0 <;> simp [Addr.add, h]
  rw [e2, h.cell j hj, ← hv]
  simp [iv, hj]
theorem OwnI.row {w : World} {base : Nat} {v : Value} {l : List Int} (h : OwnI w base v l) (hl : 0 < l.length) : ∃ g cap, v = .slice (some ⟨g, 0, none⟩) l.length cap ∧ base ≤ g ∧ RowAt w g cap l := by
  rcases h.2 with ⟨rfl, hn⟩ | ⟨g, cap, cur, rfl, hb, hg, h1, h2, h3, h4⟩
  · omega
  · refine ⟨g, cap, rfl, hb, cur, hg, h1, h2, ?_, ?_⟩
    · rw [Nat.mul_one] at h3; exact h3
    · rw [Nat.mul_one] at h4; exact h4
theorem RowAt.own {w : World} {g cap : Nat} {l : List Int} (h : RowAt w g cap l) (base : Nat) (hb : base ≤ g) : OwnI w base (.slice (some ⟨g, 0, none⟩) l.length cap) l := by
  obtain ⟨cur, h1, h2, h3, h4, h5⟩ := h
  refine ⟨by simp, .inr ⟨g, cap, cur, rfl, hb, h1, h2, h3, by rw [Nat.mul_one]; exact h4, by rw [Nat.mul_one]; exact h5⟩⟩

theorem mrun_isnil (A : Option Addr) (n c : Nat) (w : World) : (binOp .eql 43 (.slice A n c) (.slice none 0 0)).run Try.prog w = .ok (.bool A.isNone) w := by
  simp only [binOp]
  simp [Op.equal, Op.maxDepth, Lib.run_equalIn_slice_nil w 9999 43 3 A n c 0 0 Try.underlying43]
set_option maxRecDepth 100000 in
set_option maxHeartbeats 400000 in
/-- slices.Clone of a list that is not empty -/
theorem cloneI_any (A : Option Addr) (c : Nat) (l : List Int) (B : Nat) (w : World) (hl0 : 0 < l.length) (hl : l.length ≤ 2000) (hB : B ≤ w.heap.size) (h : IR w B A l) :
    Calls Try.prog 90 #[.slice A l.length c] w fun e w' => ∃ g cap, e = .returned (.slice (some ⟨g, 0, none⟩) l.length cap) ∧ w.heap.size ≤ g ∧ RowAt w' g cap l ∧ Below w.heap.size w w' := by
  obtain ⟨ad, rfl, had, hc0⟩ := h.get 0 hl0
  have hq := fun (n c : Nat) (w : World) => mrun_isnil (some ad) n c w
  have h2 : IR (w.alloc (.cells #[] 3)) w.heap.size (some ad) l := (h.lift hB).below ((Below.refl _ _).alloc (Nat.le_refl _) _)
  go_enter Try.func90, Try.ntmps90
  go_wp2_with (first | (at_builtin; refine wpList_app _ rfl (.tmp 5) (.tmp 6) 43 3 1 8 rfl elemI w.heap.size _ 0 [] rfl (World.ownsRow_lit (e := 3) (size := 1) w #[] 0 (Nat.le_refl _) (by simp [maxLen]) rfl) w.heap.size (some ad) l.length c (l.map iv) rfl (by simp) h2 (iv_one _) (by unfold maxLen; omega) (by omega) (by simp) ?_; intro v2 w2 hown2 hgrow2 hat2) | fail)
  go_ret
  have ho : OwnI w2 w.heap.size v2 l := by
    have := OwnI.of (a := []) hown2 rfl
    simpa using this
  obtain ⟨g, cap, rfl, hg, hr⟩ := ho.row hl0
  exact ⟨g, cap, rfl, hg, hr, ((Below.refl _ _).alloc (Nat.le_refl _) _).grown hgrow2 (by simp) (fun k hk => Nat.le_of_eq (by injection hk))⟩
end Go.Proofs.Ytpccpkjfnmclfaa

/- the walks of the program's and the reference's CheckBank. -/
namespace Go.Proofs.Ytpccpkjfnmclfaa
open Go.RowKit

/-- a bank as a value -/
def bankV (A A' : Option Addr) (n n' c c' : Nat) : Value := .agg #[.slice A n c, .slice A' n' c']
theorem zip_take {α β : Type} (l : List α) (l' : List β) (k : Nat) (h : k < l.length) (h' : k < l'.length) : (l.zip l').take (k + 1) = (l.zip l').take k ++ [(l[k], l'[k])] := by
  rw [List.take_succ_eq_append_getElem (by simp; omega)]
  simp

set_option maxRecDepth 100000 in
set_option maxHeartbeats 1000000 in
theorem checkBank_any (A A' : Option Addr) (c c' : Nat) (l l' : List Int) (B : Nat) (w : World) (hB : B ≤ w.heap.size) (hl : l.length ≤ 9223372036854775807) (hl' : l'.length ≤ 9223372036854775807) (h : IR w B A l) (h' : IR w B A' l') :
    Calls Try.prog 97 #[bankV A A' l.length l'.length c c'] w fun e w' => e = .returned (.int .i64 (chkB l l')) ∧ Below w.heap.size w w' := by
  unfold bankV
  have HE := Lib.hid (show chkB l l' = if l.length = 0 then 9 else if 2000 < l.length then 2 else if l'.length ≠ l.length then 3 else if (l.zip l').all okAt = true then 0 else 1 from rfl)
  generalize chkB l l' = R at *
  by_cases h1 : l.length = 0
  · have HR : Hid (R = 9) := Lib.hid (by have := HE.out; rw [if_pos h1] at this; exact this)
    clear HE
    have h1' : ((l.length : Int) == 0) = true := beq_iff_eq.2 (by omega)
    go_enter Try.func97, Try.ntmps97
    go_wp2_with fail
    go_ret
    exact ⟨ret_int HR.out.symm, (Below.refl _ _).alloc (Nat.le_refl _) _⟩
  have hne : ((l.length : Int) == 0) = false := beq_eq_false_iff_ne.2 (by omega)
  by_cases h2 : 2000 < l.length
  · have HR : Hid (R = 2) := Lib.hid (by have := HE.out; rw [if_neg h1, if_pos h2] at this; exact this)
    clear HE
    go_enter Try.func97, Try.ntmps97
    go_wp2_with fail
    go_ret
    exact ⟨ret_int HR.out.symm, (Below.refl _ _).alloc (Nat.le_refl _) _⟩
  by_cases h3 : l'.length ≠ l.length
  · have HR : Hid (R = 3) := Lib.hid (by have := HE.out; rw [if_neg h1, if_neg h2, if_pos h3] at this; exact this)
    clear HE
    have hn3 : ((l'.length : Int) != (l.length : Int)) = true := by simp; omega
    clear h3
    go_enter Try.func97, Try.ntmps97
    go_wp2_with fail
    go_ret
    exact ⟨ret_int HR.out.symm, (Below.refl _ _).alloc (Nat.le_refl _) _⟩
  have HR : Hid (R = if (l.zip l').all okAt = true then 0 else 1) := Lib.hid (by have := HE.out; rw [if_neg h1, if_neg h2, if_neg h3] at this; exact this)
  have hsame : l'.length = l.length := by omega
  have HSAME := Lib.hid hsame
  have hn3 : ((l'.length : Int) != (l.length : Int)) = false := by simp; omega
  clear h3 HE
  have hle : l.length ≤ l'.length := by omega
  have g1 : IR (w.alloc (.cells #[.slice A l.length c, .slice A' l'.length c'] 56)) w.heap.size A l := (h.lift hB).below ((Below.refl _ _).alloc (Nat.le_refl _) _)
  have g2 : IR (w.alloc (.cells #[.slice A l.length c, .slice A' l'.length c'] 56)) w.heap.size A' l' := (h'.lift hB).below ((Below.refl _ _).alloc (Nat.le_refl _) _)
  clear hsame
  go_enter Try.func97, Try.ntmps97
  go_wp2_with fail
  go_loop [3, 4, 26] (fun _ _ i => ∃ k : Nat, k ≤ l.length ∧ i = .int .i64 (k : Int) ∧ ((l.zip l').take k).all okAt = true) (fun _ _ i => l.length - (intOf i).toNat)
  case atStart => exact ⟨0, Nat.zero_le _, rfl, rfl⟩
  case round =>
    obtain ⟨k, hk, rfl, hall⟩ := hrel
    by_cases hlt : k < l.length
    · obtain ⟨ad, hA, hbk, hc⟩ := g1.get k hlt
      obtain ⟨ad', hA', hbk', hc'⟩ := g2.get k (by omega)
      subst hA hA'
      have hk0 : (0 : Int) ≤ (k : Int) := Int.natCast_nonneg _
      have hk1 : (k : Int) < (l.length : Int) := by omega
      have hk2 : (k : Int) < (l'.length : Int) := by omega
      have HZ := Lib.hid (zip_take l l' k hlt (by omega))
      have HALL := Lib.hid hall
      have HBAD : Hid (okAt (l[k], l'[k]'(by omega)) = false → R = 1) := Lib.hid (by
        intro q
        rw [HR.out, if_neg]
        intro q2
        have := List.all_eq_true.1 q2 (l[k], l'[k]'(by omega)) (by
          have hz : k < (l.zip l').length := by simp; omega
          have e : (l.zip l')[k] = (l[k], l'[k]'(by omega)) := by simp
          rw [← e]
          exact List.getElem_mem hz)
        rw [q] at this
        cases this)
      have HO := Lib.hid (show okAt (l[k], l'[k]'(by omega)) = (decide (0 ≤ l[k] ∧ l[k] ≤ 4194303) && decide (0 ≤ l'[k]'(by omega) ∧ l'[k]'(by omega) ≤ 65535)) from rfl)
      generalize l[k] = x at *
      generalize l'[k]'(by omega) = y at *
      clear hall
      by_cases hx : 0 ≤ x ∧ x ≤ 4194303
      · have hd : decide (0 ≤ x ∧ x ≤ 4194303) = true := by simp only [hx, decide_true, and_self]
        by_cases hy : 0 ≤ y ∧ y ≤ 65535
        · have hd2 : decide (0 ≤ y ∧ y ≤ 65535) = true := by simp only [hy, decide_true, and_self]
          have HN : Hid (((l.zip l').take (k + 1)).all okAt = true) := Lib.hid (by rw [HZ.out, List.all_append, HALL.out]; simp [HO.out, hd, hd2])
          clear hx hy
          go_wp2_with (first | (go_at_call 65; refine (mwithin_any _ _ _ _).mono ?_; rintro e w' ⟨rfl, rfl⟩) | fail)
          go_round
          case rel => exact ⟨k + 1, by omega, by go_num, HN.out⟩
          case measure => simp [intOf]; omega
        · have hd2 : decide (0 ≤ y ∧ y ≤ 65535) = false := by simp; omega
          have HN := Lib.hid (HBAD.out (by rw [HO.out, hd2]; simp))
          clear hx hy
          go_wp2_with (first | (go_at_call 65; refine (mwithin_any _ _ _ _).mono ?_; rintro e w' ⟨rfl, rfl⟩) | fail)
          go_ret
          exact ⟨ret_int HN.out.symm, (Below.refl _ _).alloc (Nat.le_refl _) _⟩
      · have hd : decide (0 ≤ x ∧ x ≤ 4194303) = false := by simp; omega
        have HN := Lib.hid (HBAD.out (by rw [HO.out, hd]; simp))
        clear hx
        go_wp2_with (first | (go_at_call 65; refine (mwithin_any _ _ _ _).mono ?_; rintro e w' ⟨rfl, rfl⟩) | fail)
        go_ret
        exact ⟨ret_int HN.out.symm, (Below.refl _ _).alloc (Nat.le_refl _) _⟩
    · have HN : Hid (R = 0) := Lib.hid (by
        rw [HR.out, if_pos]
        rw [List.take_of_length_le (by simp; omega)] at hall
        exact hall)
      clear hall
      go_wp2_with fail
      go_ret
      exact ⟨ret_int HN.out.symm, (Below.refl _ _).alloc (Nat.le_refl _) _⟩
end Go.Proofs.Ytpccpkjfnmclfaa

/- the walks of the program's and the reference's copies of a bank. -/
namespace Go.Proofs.Ytpccpkjfnmclfaa
open Go.RowKit

theorem msetCell_draws (w : World) (n : Nat) (a : Addr) (v : Value) : (w.drewN n).setCell a v = (w.setCell a v).drewN n := rfl
theorem malloc_draws (w : World) (n : Nat) (o : Obj) : (w.drewN n).alloc o = (w.alloc o).drewN n := rfl
theorem heap_alloc_new (w : World) (o : Obj) : (w.alloc o).heap[w.heap.size]? = some o := by
  show (w.heap.push _)[w.heap.size]? = _
  simp
attribute [local go_sem] msetCell_draws malloc_draws
/-- the memory in which a bank lies: behind its own and its result's cells -/
def boxed2 (x y : Value) (w : World) : World := (w.alloc (.cells #[x, y] 56)).alloc (.cells #[.slice none 0 0, .slice none 0 0] 56)
theorem boxed2_below (x y : Value) (w : World) : Below w.heap.size w (boxed2 x y w) := ((Below.refl _ _).alloc (Nat.le_refl _) _).alloc (by simp) _
theorem boxed2_size (x y : Value) (w : World) : (boxed2 x y w).heap.size = w.heap.size + 2 := by simp [boxed2]
/-- a copy of a bank: both rows are the call's own -/
def Copied (l l' : List Int) (w : World) (v : Value) (w' : World) : Prop :=
  ∃ g cap g' cap', v = bankV (some ⟨g, 0, none⟩) (some ⟨g', 0, none⟩) l.length l'.length cap cap' ∧ w.heap.size ≤ g ∧ g < g' ∧ RowAt w' g cap l ∧ RowAt w' g' cap' l' ∧ Below w.heap.size w w'
set_option maxRecDepth 100000 in
set_option maxHeartbeats 1000000 in
theorem cloned_any (A A' : Option Addr) (c c' : Nat) (l l' : List Int) (B : Nat) (w : World) (hB : B ≤ w.heap.size) (hr : Right l l') (h : IR w B A l) (h' : IR w B A' l') :
    Calls Try.prog 68 #[bankV A A' l.length l'.length c c'] w fun e w' => ∃ v, e = .returned v ∧ Copied l l' w v w' := by
  unfold bankV
  have h1 := hr.pos
  have h2 := hr.few
  have h3 := hr.same
  have HC1 := Lib.hid (fun (w1 : World) (hb : Below w.heap.size w w1) (hz : w.heap.size ≤ w1.heap.size) => cloneI_any A c l B w1 (by omega) (by omega) (by omega) ((h.lift hB).below hb |> fun q => by exact (h.below (hb.mono hB))))
  have HC2 := Lib.hid (fun (w1 : World) (hb : Below w.heap.size w w1) (hz : w.heap.size ≤ w1.heap.size) => cloneI_any A' c' l' B w1 (by omega) (by omega) (by omega) (h'.below (hb.mono hB)))
  have H3 := Lib.hid h3
  clear h3 hr
  generalize hw0 : boxed2 (.slice A l.length c) (.slice A' l'.length c') w = w0
  have b0 : Below w.heap.size w w0 := by rw [← hw0]; exact boxed2_below _ _ _
  have s0 : w0.heap.size = w.heap.size + 2 := by rw [← hw0]; exact boxed2_size _ _ _
  have e0 : w0.cell? ⟨w.heap.size, 0, none⟩ = some (.slice A l.length c) := by rw [← hw0]; simp [boxed2]
  have e1 : w0.cell? ⟨w.heap.size, 1, none⟩ = some (.slice A' l'.length c') := by rw [← hw0]; simp [boxed2]
  have r0 : w0.heap[w.heap.size + 1]? = some (.cells #[.slice none 0 0, .slice none 0 0] 56 (0, 0)) := by
    have := heap_alloc_new (w.alloc (.cells #[.slice A l.length c, .slice A' l'.length c'] 56)) (.cells #[.slice none 0 0, .slice none 0 0] 56)
    rw [World.size_alloc] at this
    rw [← hw0]
    exact this
  go_enter Try.func68, Try.ntmps68
  go_wp2_with fail
  unfold boxed2 at hw0
  rw [hw0]
  clear hw0
  have hS : ∀ w1, Below (w.heap.size + 1) w0 w1 → (w1.cell? ⟨w.heap.size, 0, none⟩ = some (.slice A l.length c) ∧ w1.cell? ⟨w.heap.size, 1, none⟩ = some (.slice A' l'.length c')) := fun w1 hb =>
    ⟨(Below.at_ hb _ (by omega) _).trans e0, (Below.at_ hb _ (by omega) _).trans e1⟩
  have HSS := Lib.hid hS
  clear hS
  have h00 : Below w0.heap.size w0 w0 := Below.refl _ _
  have h01 : Below (w.heap.size + 1) w0 w0 := Below.refl _ _
  have HC3 := Lib.hid (fun (w1 : World) (hb : Below w0.heap.size w0 w1) => (HC1.out w1 (b0.trans (hb.mono (by omega))) (by have := hb.size; omega)).mono fun e w' ⟨g, cap, he, hg, hrow, hb1⟩ => (⟨g, cap, he, hg, hrow, hb1, hb.trans (hb1.mono hb.size)⟩ : ∃ g cap, e = Ending.returned (.slice (some ⟨g, 0, none⟩) l.length cap) ∧ w1.heap.size ≤ g ∧ RowAt w' g cap l ∧ Below w1.heap.size w1 w' ∧ Below w0.heap.size w0 w'))
  have HC4 := Lib.hid (fun (w1 : World) (hb : Below w0.heap.size w0 w1) => (HC2.out w1 (b0.trans (hb.mono (by omega))) (by have := hb.size; omega)).mono fun e w' ⟨g, cap, he, hg, hrow, hb1⟩ => (⟨g, cap, he, hg, hrow, hb1, hb.trans (hb1.mono hb.size)⟩ : ∃ g cap, e = Ending.returned (.slice (some ⟨g, 0, none⟩) l'.length cap) ∧ w1.heap.size ≤ g ∧ RowAt w' g cap l' ∧ Below w1.heap.size w1 w' ∧ Below w0.heap.size w0 w'))
  clear HC1 HC2
  go_region_held3 (fun w1 => w1.cell? ⟨w.heap.size, 0, none⟩ = some (.slice A l.length c) ∧ w1.cell? ⟨w.heap.size, 1, none⟩ = some (.slice A' l'.length c'))
    (first | go_keep | with_reducible exact HSS.out _ h01 | with_reducible exact HSS.out _ h01.drew | with_reducible exact HSS.out _ h11 | with_reducible exact HSS.out _ h11.drew | with_reducible exact HSS.out _ h21 | with_reducible exact HSS.out _ h21.drew | with_reducible exact HSS.out _ ((Below.setCell h21 (Nat.le_refl _) _).setCell (Nat.le_refl _) _) | with_reducible exact HSS.out _ ((Below.setCell h21 (Nat.le_refl _) _).setCell (Nat.le_refl _) _).drew)
    (first
     | (go_at_call 90
        with_reducible refine (HC3.out _ ?_).mono ?_
        · first | with_reducible exact h00.drew | with_reducible exact h00
        rintro e w1 ⟨g, cap, rfl, hg, hrow, hb1, hb1'⟩
        have h11 : Below (w.heap.size + 1) w0 w1 := hb1'.mono (by omega))
     | (go_at_call 90
        with_reducible refine (HC4.out _ ?_).mono ?_
        · first | with_reducible exact hb1'.drew | with_reducible exact hb1'
        rintro e w2 ⟨g', cap', rfl, hg', hrow', hb2, hb2'⟩
        have h21 : Below (w.heap.size + 1) w0 w2 := hb2'.mono (by omega)
        have r2 := (hb2'.block (w.heap.size + 1) (by omega)).trans r0
        have f0 : w2.frozen? ⟨w.heap.size + 1, 0, none⟩ = false := by simp [World.frozen?, r2]
        have f1 : w2.frozen? ⟨w.heap.size + 1, 1, none⟩ = false := by simp [World.frozen?, r2]
        have c0 : w2.cell? ⟨w.heap.size + 1, 0, none⟩ = some (.slice none 0 0) := by simp [World.cell?, r2]
        have c1 : w2.cell? ⟨w.heap.size + 1, 1, none⟩ = some (.slice none 0 0) := by simp [World.cell?, r2]))
  all_goals
    have hz0 : w0.heap.size ≤ w1.heap.size := hb1'.size
    have hgl := hrow.lt
    have hbf : Below w.heap.size w w2 := b0.trans (hb2'.mono (by omega))
    have hgw : w.heap.size + 2 ≤ g := by
      have : w0.heap.size ≤ g := hg
      omega
    go_wp2_with fail
    refine bodyPost_ret (v := .agg #[.slice (some ⟨g, 0, none⟩) l.length cap, .slice (some ⟨g', 0, none⟩) l'.length cap']) (by simp [results, Try.results68, go_sem, c0, c1]) rfl ⟨_, rfl, g, cap, g', cap', rfl, by omega, by omega, ?_, ?_, ?_⟩
    · exact ((hrow.below hb2 hgl).other (by omega)).other (by omega)
    · exact (hrow'.other (by omega)).other (by omega)
    · exact (hbf.setCell (by simp) _).setCell (by simp) _
end Go.Proofs.Ytpccpkjfnmclfaa

/- which bits of a code are those of its word, one by one. -/
namespace Go.Proofs.Ytpccpkjfnmclfaa

theorem bit_cat (a b k j : Nat) (ha : a < 2 ^ k) : bitN (a + b * 2 ^ k) j = if j < k then bitN a j else bitN b (j - k) := by
  have h := Nat.testBit_two_pow_mul_add b ha j
  rw [Nat.mul_comm, Nat.add_comm] at h
  have h1 := bit_lt (a + b * 2 ^ k) j
  have h2 := bit_lt a j
  have h3 := bit_lt b (j - k)
  rw [bit_test] at h
  split at h
  · rename_i hj
    rw [if_pos hj]
    rw [bit_test, decide_eq_decide] at h
    omega
  · rename_i hj
    rw [if_neg hj]
    rw [bit_test, decide_eq_decide] at h
    omega
theorem bit_field (w a k i : Nat) : bitN (w / 2 ^ a % 2 ^ k) i = if i < k then bitN w (i + a) else 0 := by
  have h : (w / 2 ^ a % 2 ^ k).testBit i = (decide (i < k) && w.testBit (i + a)) := by rw [Nat.testBit_mod_two_pow, Nat.testBit_div_two_pow]
  have h1 := bit_lt (w / 2 ^ a % 2 ^ k) i
  have h2 := bit_lt w (i + a)
  rw [bit_test, bit_test] at h
  by_cases hi : i < k
  · rw [if_pos hi]
    simp only [hi, decide_true, Bool.true_and, decide_eq_decide] at h
    omega
  · rw [if_neg hi]
    simp [hi] at h
    omega
/-- a check bit's place, from 0 on, of the first 21 -/
def chk (j : Nat) : Bool := j == 0 || j == 1 || j == 3 || j == 7 || j == 15
/-- how many bits of the word stand below -/
def dat : Nat → Nat
  | 0 => 0
  | j + 1 => if chk j = true then dat j else dat j + 1
theorem dat_le : ∀ j, j ≤ 21 → dat j ≤ 16 := by decide
theorem dat_all : dat 21 = 16 := by decide
theorem spread_parts (w : Nat) : spread w = (w / 2 ^ 0 % 2 ^ 1) * 2 ^ 2 + ((w / 2 ^ 1 % 2 ^ 3) + ((w / 2 ^ 4 % 2 ^ 7) + (w / 2 ^ 11 % 2 ^ 5) * 2 ^ 8) * 2 ^ 4) * 2 ^ 4 := by
  unfold spread
  simp only [Nat.reducePow, Nat.div_one]
  omega
theorem gather_parts (c : Nat) : gather c = (c / 2 ^ 2 % 2 ^ 1) + ((c / 2 ^ 4 % 2 ^ 3) + ((c / 2 ^ 8 % 2 ^ 7) + (c / 2 ^ 16 % 2 ^ 5) * 2 ^ 7) * 2 ^ 3) * 2 ^ 1 := by
  unfold gather
  simp only [Nat.reducePow]
  omega
theorem bit_up (a j : Nat) : bitN (a * 2 ^ 2) j = if j < 2 then 0 else bitN a (j - 2) := by
  have := bit_cat 0 a 2 j (by omega)
  rw [Nat.zero_add] at this
  rw [this]
  by_cases h : j < 2
  · rw [if_pos h, if_pos h]; unfold bitN; simp
  · rw [if_neg h, if_neg h]
theorem bit_spread (w j : Nat) (hj : j < 21) : bitN (spread w) j = if chk j = true then 0 else bitN w (dat j) := by
  have b0 : w / 2 ^ 0 % 2 ^ 1 < 2 ^ 1 := Nat.mod_lt _ (by omega)
  have b1 : w / 2 ^ 1 % 2 ^ 3 < 2 ^ 3 := Nat.mod_lt _ (by omega)
  have b2 : w / 2 ^ 4 % 2 ^ 7 < 2 ^ 7 := Nat.mod_lt _ (by omega)
  rw [spread_parts, bit_cat _ _ 4 j (by omega), bit_up, bit_field, bit_cat _ _ 4 _ (by omega), bit_field, bit_cat _ _ 8 _ (by omega), bit_field, bit_field]
  clear b0 b1 b2
  rcases (by omega : j = 0 ∨ j = 1 ∨ j = 2 ∨ j = 3 ∨ j = 4 ∨ j = 5 ∨ j = 6 ∨ j = 7 ∨ j = 8 ∨ j = 9 ∨ j = 10 ∨ j = 11 ∨ j = 12 ∨ j = 13 ∨ j = 14 ∨ j = 15 ∨ j = 16 ∨ j = 17 ∨ j = 18 ∨ j = 19 ∨ j = 20) with
    rfl | rfl | rfl | rfl | rfl | rfl | rfl | rfl | rfl | rfl | rfl | rfl | rfl | rfl | rfl | rfl | rfl | rfl | rfl | rfl | rfl <;> rfl
theorem bit_gather (c j : Nat) (hj : j < 21) (h : chk j = false) : bitN (gather c) (dat j) = bitN c j := by
  have b0 : c / 2 ^ 2 % 2 ^ 1 < 2 ^ 1 := Nat.mod_lt _ (by omega)
  have b1 : c / 2 ^ 4 % 2 ^ 3 < 2 ^ 3 := Nat.mod_lt _ (by omega)
  have b2 : c / 2 ^ 8 % 2 ^ 7 < 2 ^ 7 := Nat.mod_lt _ (by omega)
  rw [gather_parts, bit_cat _ _ 1 _ b0, bit_field, bit_cat _ _ 3 _ b1, bit_field, bit_cat _ _ 7 _ b2, bit_field, bit_field]
  clear b0 b1 b2
  rcases (by omega : j = 0 ∨ j = 1 ∨ j = 2 ∨ j = 3 ∨ j = 4 ∨ j = 5 ∨ j = 6 ∨ j = 7 ∨ j = 8 ∨ j = 9 ∨ j = 10 ∨ j = 11 ∨ j = 12 ∨ j = 13 ∨ j = 14 ∨ j = 15 ∨ j = 16 ∨ j = 17 ∨ j = 18 ∨ j = 19 ∨ j = 20) with
    rfl | rfl | rfl | rfl | rfl | rfl | rfl | rfl | rfl | rfl | rfl | rfl | rfl | rfl | rfl | rfl | rfl | rfl | rfl | rfl | rfl <;> first | rfl | cases h
theorem low_succ (x j : Nat) : x % 2 ^ (j + 1) = x % 2 ^ j + bitN x j * 2 ^ j := by
  rw [Nat.pow_succ, Nat.mod_mul]
  unfold bitN
  rw [Nat.mul_comm]
theorem or_low (x j : Nat) : x % 2 ^ j ||| 2 ^ j = x % 2 ^ j + 2 ^ j := by
  have := Nat.two_pow_add_eq_or_of_lt (Nat.mod_lt x (Nat.two_pow_pos j)) 1
  rw [Nat.mul_one] at this
  rw [Nat.or_comm, ← this, Nat.add_comm]
theorem or_xor (c p : Nat) (h : bitN c p = 0) : c ||| 2 ^ p = c ^^^ 2 ^ p := by
  unfold bitN at h
  rw [or_pow c p h, xor_pow, if_neg (by omega)]
theorem checks_bit (m c p : Nat) : ∀ k, (∀ i, i < k → 2 ^ i - 1 ≠ p) → bitN (checksTo m c k) p = bitN c p
  | 0, _ => rfl
  | k + 1, h => by
    have ih := checks_bit m c p k (fun i hi => h i (by omega))
    simp only [checksTo]
    split
    · rw [bit_xor, if_neg (h k (by omega)), ih]
    · exact ih
theorem checks_clear (m n k : Nat) (hk : k < 5) : bitN (checksTo m (spread n) k) (2 ^ k - 1) = 0 := by
  have hj : 2 ^ k - 1 < 21 ∧ chk (2 ^ k - 1) = true := by rcases (by omega : k = 0 ∨ k = 1 ∨ k = 2 ∨ k = 3 ∨ k = 4) with rfl | rfl | rfl | rfl | rfl <;> decide
  rw [checks_bit, bit_spread _ _ hj.1, if_pos hj.2]
  intro i hi e
  have := Nat.pow_lt_pow_right (show 1 < 2 by omega) hi
  have := Nat.two_pow_pos i
  omega
theorem near_clear (n : Nat) : bitN (nearCode n) 21 = 0 := by
  unfold nearCode
  rw [checks_bit]
  · have := spread_lt n
    unfold bitN
    rw [Nat.div_eq_of_lt (by simpa using this)]
  · intro i hi e
    rcases (by omega : i = 0 ∨ i = 1 ∨ i = 2 ∨ i = 3 ∨ i = 4) with rfl | rfl | rfl | rfl | rfl <;> simp at e
end Go.Proofs.Ytpccpkjfnmclfaa

/- the walks of the reference's marks, parities and codes. -/
namespace Go.Proofs.Ytpccpkjfnmclfaa
open Go.RowKit

theorem chk_bits : ∀ j, j < 21 → decide (((j + 1 &&& j : Nat) : Int) = 0) = chk j := by decide +kernel
end Go.Proofs.Ytpccpkjfnmclfaa

/- the walk of the reference's code of a word. -/
namespace Go.Proofs.Ytpccpkjfnmclfaa
open Go.RowKit

/-- what `1 << (1<<k - 1)` is -/
def checkBit : Nat → Int
  | 0 => 1
  | 1 => 2
  | 2 => 8
  | 3 => 128
  | _ => 32768
theorem or_low64 (s j : Nat) (hj : j < 21) : bits .or .i64 ((s % 2 ^ j : Nat) : Int) ((2 ^ j : Nat) : Int) = ((s % 2 ^ j + 2 ^ j : Nat) : Int) := by
  have hol := or_low s j
  have hpj : 2 ^ j < 2097152 := Nat.pow_lt_pow_right (show 1 < 2 by omega) hj
  have hsl : s % 2 ^ j < 2 ^ j := Nat.mod_lt _ (Nat.two_pow_pos j)
  rw [← hol]
  clear hol
  generalize s % 2 ^ j = x at *
  generalize 2 ^ j = p at *
  exact mor64 x p (by omega) (by omega)
end Go.Proofs.Ytpccpkjfnmclfaa

/- the walks of the reference's kinds and words. -/
namespace Go.Proofs.Ytpccpkjfnmclfaa
open Go.RowKit

/-- a code with its bit put right, how many were, and the fault -/
def rightN (c : Nat) : Nat × Nat × Nat := if (kindN c).1 = 3 then (0, 0, 15) else if (kindN c).1 = 2 then (c ^^^ 2 ^ ((kindN c).2 - 1), 1, 0) else (c, 0, 0)
theorem dec_right (c : Nat) : decN c = if (rightN c).2.2 = 0 then (gather (rightN c).1, (rightN c).2.1, 0) else (0, 0, (rightN c).2.2) := by
  unfold decN rightN
  by_cases h1 : (kindN c).1 = 3
  · simp [h1]
  · by_cases h2 : (kindN c).1 = 2
    · simp [h2]
    · simp [h1, h2]
theorem right_lt (c : Nat) (hc : c < 4194304) : (rightN c).1 < 4194304 := by
  unfold rightN
  split
  · simp
  · split
    · rename_i h
      have := kind_bit c h
      exact flip_lt _ _ (by omega) hc
    · exact hc
end Go.Proofs.Ytpccpkjfnmclfaa

/- the walk of the reference's word of a code. -/
namespace Go.Proofs.Ytpccpkjfnmclfaa
open Go.RowKit

theorem gather_low (g : Nat) (hg : g < 65536) : g % 2 ^ dat 21 = g := by rw [dat_all]; exact Nat.mod_eq_of_lt (by simpa using hg)
end Go.Proofs.Ytpccpkjfnmclfaa
