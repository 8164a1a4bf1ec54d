/- the plain mathematics of codes of words: marks, parities, flips. -/
namespace Go.Proofs.Ythcijelebjgfkaa

/-- the bit n (from 0 on) as a number -/
def bitN (c n : Nat) : Nat := c / 2 ^ n % 2
theorem bit_lt (c n : Nat) : bitN c n < 2 := Nat.mod_lt _ (by omega)
theorem bit_test (c n : Nat) : c.testBit n = decide (bitN c n = 1) := by
  rw [Nat.testBit_eq_decide_div_mod_eq]; rfl
theorem bit_xor (c a n : Nat) : bitN (c ^^^ 2 ^ a) n = if a = n then 1 - bitN c n else bitN c n := by
  have h := Nat.testBit_xor c (2 ^ a) n
  rw [Nat.testBit_two_pow, bit_test, bit_test] at h
  have h1 := bit_lt c n
  have h2 := bit_lt (c ^^^ 2 ^ a) n
  by_cases e : a = n
  · rw [if_pos e]
    by_cases h3 : bitN c n = 1
    · rw [h3]; simp [e, h3] at h; subst e; omega
    · simp [e, h3] at h; subst e; omega
  · rw [if_neg e]
    simp [e] at h
    by_cases h3 : bitN c n = 1
    · rw [h3]; rw [h]; exact h3
    · have : ¬ bitN (c ^^^ 2 ^ a) n = 1 := fun q => h3 (h.1 q)
      omega

/-- the mark of the first k bits -/
def markTo (c : Nat) : Nat → Nat
  | 0 => 0
  | k + 1 => if bitN c k = 1 then markTo c k ^^^ (k + 1) else markTo c k
/-- whether an odd number of the first k bits is set -/
def oddTo (c : Nat) : Nat → Bool
  | 0 => false
  | k + 1 => oddTo c k != decide (bitN c k = 1)

theorem mark_flip (c a : Nat) : ∀ k, markTo (c ^^^ 2 ^ a) k = if a < k then markTo c k ^^^ (a + 1) else markTo c k
  | 0 => by simp [markTo]
  | k + 1 => by
    have ih := mark_flip c a k
    have hb := bit_lt c k
    simp only [markTo, bit_xor, ih]
    rcases Nat.lt_trichotomy a k with h | h | h
    · have h1 : ¬ a = k := by omega
      have h2 : a < k + 1 := by omega
      simp only [h1, h, h2, if_true, if_false]
      by_cases h3 : bitN c k = 1
      · simp only [h3, if_true]
        rw [Nat.xor_assoc, Nat.xor_comm (a + 1), ← Nat.xor_assoc]
      · simp only [h3, if_false]
    · subst h
      have h1 : ¬ a < a := by omega
      have h2 : a < a + 1 := by omega
      simp only [h1, h2, if_true, if_false]
      by_cases h3 : bitN c a = 1
      · simp only [h3, Nat.sub_self, show ¬ (0 : Nat) = 1 by omega, if_true, if_false]
        rw [Nat.xor_assoc, Nat.xor_self, Nat.xor_zero]
      · have h4 : 1 - bitN c a = 1 := by omega
        simp only [h3, h4, if_true, if_false]
    · have h1 : ¬ a = k := by omega
      have h2 : ¬ a < k + 1 := by omega
      have h3 : ¬ a < k := by omega
      simp only [h1, h2, h3, if_false]
theorem odd_flip (c a : Nat) : ∀ k, oddTo (c ^^^ 2 ^ a) k = if a < k then !oddTo c k else oddTo c k
  | 0 => by simp [oddTo]
  | k + 1 => by
    have ih := odd_flip c a k
    have hb := bit_lt c k
    simp only [oddTo, bit_xor, ih]
    rcases Nat.lt_trichotomy a k with h | h | h
    · have h1 : ¬ a = k := by omega
      have h2 : a < k + 1 := by omega
      simp only [h1, h, h2, if_true, if_false]
      cases oddTo c k <;> cases decide (bitN c k = 1) <;> rfl
    · subst h
      have h1 : ¬ a < a := by omega
      have h2 : a < a + 1 := by omega
      simp only [h1, h2, if_true, if_false]
      by_cases h3 : bitN c a = 1
      · simp [h3]
      · have h4 : bitN c a = 0 := by omega
        simp [h4]
    · have h1 : ¬ a = k := by omega
      have h2 : ¬ a < k + 1 := by omega
      have h3 : ¬ a < k := by omega
      simp only [h1, h2, h3, if_false]

theorem xor_pow (c p : Nat) : c ^^^ 2 ^ p = if c / 2 ^ p % 2 = 1 then c - 2 ^ p else c + 2 ^ p := by
  have hp : 0 < 2 ^ p := Nat.two_pow_pos p
  have key : ∀ x : Nat, x / 2 ^ p % 2 = 0 → x ^^^ 2 ^ p = x + 2 ^ p := by
    intro x hx
    have hd := Nat.div_add_mod x (2 ^ p)
    have hl : x % 2 ^ p < 2 ^ p := Nat.mod_lt _ hp
    have hq : x / 2 ^ p = 2 * (x / 2 ^ p / 2) := by omega
    apply Nat.eq_of_testBit_eq
    intro i
    rw [Nat.testBit_xor, Nat.testBit_two_pow]
    have e : x + 2 ^ p = 2 ^ p * (x / 2 ^ p + 1) + x % 2 ^ p := by rw [Nat.mul_succ]; omega
    rw [e]
    conv => lhs; lhs; rw [← hd]
    rw [Nat.testBit_two_pow_mul_add _ hl, Nat.testBit_two_pow_mul_add _ hl]
    by_cases hi : i < p
    · rw [if_pos hi, if_pos hi]; simp [show p ≠ i by omega]
    · rw [if_neg hi, if_neg hi]
      by_cases hpi : p = i
      · subst hpi
        have e1 : x / 2 ^ p % 2 = 0 := hx
        have e2 : (x / 2 ^ p + 1) % 2 = 1 := by omega
        simp [Nat.testBit_zero, e1, e2]
      · simp only [hpi, decide_false, Bool.xor_false]
        obtain ⟨j, hj⟩ : ∃ j, i - p = j + 1 := ⟨i - p - 1, by omega⟩
        rw [hj, Nat.testBit_succ, Nat.testBit_succ]
        congr 1
        omega
  by_cases h : c / 2 ^ p % 2 = 1
  · rw [if_pos h]
    have hge : 2 ^ p ≤ c := by
      rcases Nat.lt_or_ge c (2 ^ p) with q | q
      · rw [Nat.div_eq_of_lt q] at h; omega
      · exact q
    have e : (c - 2 ^ p) / 2 ^ p = c / 2 ^ p - 1 := by
      have := Nat.sub_mul_div_of_le c (2 ^ p) 1 (by omega)
      rw [Nat.mul_one] at this
      exact this
    have := key (c - 2 ^ p) (by rw [e]; omega)
    have h2 : c = c - 2 ^ p + 2 ^ p := by omega
    conv => lhs; lhs; rw [h2]
    rw [← this, Nat.xor_assoc, Nat.xor_self, Nat.xor_zero]
  · rw [if_neg h]
    exact key c (by omega)
theorem or_pow (c p : Nat) (h : c / 2 ^ p % 2 = 0) : c ||| 2 ^ p = c + 2 ^ p := by
  have e := xor_pow c p
  rw [if_neg (by omega)] at e
  rw [← e]
  apply Nat.eq_of_testBit_eq
  intro i
  rw [Nat.testBit_or, Nat.testBit_xor, Nat.testBit_two_pow]
  by_cases hpi : p = i
  · subst hpi
    have : c.testBit p = false := by rw [bit_test]; unfold bitN; simp; omega
    simp [this]
  · simp [hpi]

/-- the bits of a word, where they stand in its code -/
def spread (w : Nat) : Nat := w % 2 * 4 + w / 2 % 8 * 16 + w / 16 % 128 * 256 + w / 2048 % 32 * 65536
/-- the word between the check bits -/
def gather (c : Nat) : Nat := c / 4 % 2 + c / 16 % 8 * 2 + c / 256 % 128 * 16 + c / 65536 % 32 * 2048
theorem gather_spread (w : Nat) (h : w < 65536) : gather (spread w) = w := by
  have e : w = w % 2 + w / 2 % 8 * 2 + w / 16 % 128 * 16 + w / 2048 % 32 * 2048 := by omega
  unfold gather spread
  have h1 : w % 2 < 2 := by omega
  have h2 : w / 2 % 8 < 8 := by omega
  have h3 : w / 16 % 128 < 128 := by omega
  have h4 : w / 2048 % 32 < 32 := by omega
  generalize w % 2 = a, w / 2 % 8 = b, w / 16 % 128 = c, w / 2048 % 32 = d at *
  have e1 : (a * 4 + b * 16 + c * 256 + d * 65536) / 4 % 2 = a := by omega
  have e2 : (a * 4 + b * 16 + c * 256 + d * 65536) / 16 % 8 = b := by omega
  have e3 : (a * 4 + b * 16 + c * 256 + d * 65536) / 256 % 128 = c := by omega
  have e4 : (a * 4 + b * 16 + c * 256 + d * 65536) / 65536 % 32 = d := by
    rw [Nat.add_mul_div_right _ _ (by omega), Nat.div_eq_of_lt (by omega)]; omega
  rw [e1, e2, e3, e4]
  exact e.symm
theorem spread_lt (w : Nat) : spread w < 2097152 := by unfold spread; omega
theorem gather_lt (c : Nat) : gather c < 65536 := by unfold gather; omega
/-- the places of the check bits, from 0 on -/
def isCheckP (p : Nat) : Prop := p = 0 ∨ p = 1 ∨ p = 3 ∨ p = 7 ∨ p = 15 ∨ p = 21
theorem field_flip (c p a k : Nat) (h : p < a ∨ a + k ≤ p) : (c ^^^ 2 ^ p) / 2 ^ a % 2 ^ k = c / 2 ^ a % 2 ^ k := by
  apply Nat.eq_of_testBit_eq
  intro i
  rw [Nat.testBit_mod_two_pow, Nat.testBit_mod_two_pow, Nat.testBit_div_two_pow, Nat.testBit_div_two_pow, Nat.testBit_xor, Nat.testBit_two_pow]
  by_cases hi : i < k
  · have : ¬ p = i + a := by omega
    simp [this]
  · simp [hi]
theorem gather_flip (c p : Nat) (h : isCheckP p) : gather (c ^^^ 2 ^ p) = gather c := by
  unfold isCheckP at h
  have e1 := field_flip c p 2 1 (by omega)
  have e2 := field_flip c p 4 3 (by omega)
  have e3 := field_flip c p 8 7 (by omega)
  have e4 := field_flip c p 16 5 (by omega)
  simp only [Nat.reducePow] at e1 e2 e3 e4
  unfold gather
  rw [e1, e2, e3, e4]
theorem flip_lt (c p : Nat) (hp : p < 22) (hc : c < 4194304) : c ^^^ 2 ^ p < 4194304 := by
  have h1 : 2 ^ p < 2 ^ 22 := Nat.pow_lt_pow_right (by omega) hp
  exact Nat.xor_lt_two_pow (n := 22) hc h1

/-- the check bits of a mark, set in a code, the first k of them -/
def checksTo (m c : Nat) : Nat → Nat
  | 0 => c
  | k + 1 => if bitN m k = 1 then checksTo m c k ^^^ 2 ^ (2 ^ k - 1) else checksTo m c k
/-- the code of a word, but for its last bit -/
def nearCode (w : Nat) : Nat := checksTo (markTo (spread w) 21) (spread w) 5
def codeN (w : Nat) : Nat := if oddTo (nearCode w) 22 = true then nearCode w ^^^ 2 ^ 21 else nearCode w

theorem checks_lt (m c : Nat) (hc : c < 4194304) : ∀ k, k ≤ 5 → checksTo m c k < 4194304
  | 0, _ => hc
  | k + 1, h => by
    have ih := checks_lt m c hc k (by omega)
    simp only [checksTo]
    split
    · refine flip_lt _ _ ?_ ih
      rcases (by omega : k = 0 ∨ k = 1 ∨ k = 2 ∨ k = 3 ∨ k = 4) with rfl | rfl | rfl | rfl | rfl <;> decide
    · exact ih
theorem near_lt (w : Nat) : nearCode w < 4194304 := checks_lt _ _ (by have := spread_lt w; omega) 5 (by omega)
theorem code_lt (w : Nat) : codeN w < 4194304 := by
  unfold codeN
  split
  · exact flip_lt _ _ (by omega) (near_lt w)
  · exact near_lt w
theorem checks_gather (m c : Nat) (hc : c < 4194304) : ∀ k, k ≤ 5 → gather (checksTo m c k) = gather c
  | 0, _ => rfl
  | k + 1, h => by
    have ih := checks_gather m c hc k (by omega)
    have hl := checks_lt m c hc k (by omega)
    simp only [checksTo]
    split
    · rw [gather_flip _ _ ?_, ih]
      rcases (by omega : k = 0 ∨ k = 1 ∨ k = 2 ∨ k = 3 ∨ k = 4) with rfl | rfl | rfl | rfl | rfl <;> simp [isCheckP]
    · exact ih
theorem code_gather (w : Nat) (h : w < 65536) : gather (codeN w) = w := by
  have e : gather (nearCode w) = w := by
    unfold nearCode
    rw [checks_gather _ _ (by have := spread_lt w; omega) 5 (by omega), gather_spread w h]
  unfold codeN
  split
  · rw [gather_flip _ _ (by simp [isCheckP]), e]
  · exact e
/-- the sum of the first k bits of a mark -/
def sumTo (m : Nat) : Nat → Nat
  | 0 => 0
  | k + 1 => if bitN m k = 1 then sumTo m k ^^^ 2 ^ k else sumTo m k
theorem checks_mark (m c : Nat) : ∀ k, k ≤ 5 → markTo (checksTo m c k) 21 = markTo c 21 ^^^ sumTo m k
  | 0, _ => by simp [checksTo, sumTo]
  | k + 1, h => by
    have ih := checks_mark m c k (by omega)
    have hp : 2 ^ k - 1 < 21 ∧ 2 ^ k - 1 + 1 = 2 ^ k := by rcases (by omega : k = 0 ∨ k = 1 ∨ k = 2 ∨ k = 3 ∨ k = 4) with rfl | rfl | rfl | rfl | rfl <;> decide
    simp only [checksTo, sumTo]
    split
    · rw [mark_flip, if_pos hp.1, ih, hp.2, Nat.xor_assoc]
    · exact ih
theorem sum_all : ∀ m, m < 32 → sumTo m 5 = m := by decide +kernel
theorem mark_lt (c : Nat) : ∀ k, k ≤ 21 → markTo c k < 32
  | 0, _ => by simp [markTo]
  | k + 1, h => by
    have ih := mark_lt c k (by omega)
    simp only [markTo]
    split
    · exact Nat.xor_lt_two_pow (n := 5) ih (show k + 1 < 32 by omega)
    · exact ih
theorem near_mark (w : Nat) : markTo (nearCode w) 21 = 0 := by
  unfold nearCode
  rw [checks_mark _ _ 5 (by omega), sum_all _ (mark_lt _ 21 (by omega)), Nat.xor_self]
theorem code_mark (w : Nat) : markTo (codeN w) 21 = 0 := by
  unfold codeN
  split
  · rw [mark_flip, if_neg (by omega)]; exact near_mark w
  · exact near_mark w
theorem code_odd (w : Nat) : oddTo (codeN w) 22 = false := by
  unfold codeN
  split
  · rw [odd_flip, if_pos (by omega)]; simp_all
  · simp_all

/-- what a code is: 1 right, 2 one flipped, 3 two; and which bit -/
def kindN (c : Nat) : Nat × Nat :=
  if oddTo c 22 = true then
    if markTo c 21 = 0 then (2, 22) else if markTo c 21 < 22 then (2, markTo c 21) else (3, 0)
  else if markTo c 21 = 0 then (1, 0) else (3, 0)
theorem kind_code (w : Nat) : kindN (codeN w) = (1, 0) := by simp [kindN, code_mark, code_odd]
theorem kind_flip (w a : Nat) (h : a < 22) : kindN (codeN w ^^^ 2 ^ a) = (2, a + 1) := by
  unfold kindN
  rw [odd_flip, if_pos h, code_odd, mark_flip, code_mark]
  by_cases h2 : a < 21
  · simp [h2, show a + 1 < 22 by omega]
  · obtain rfl : a = 21 := by omega
    simp
theorem kind_two (w a b : Nat) (ha : a < 22) (hb : b < 22) (hab : a ≠ b) : kindN (codeN w ^^^ 2 ^ a ^^^ 2 ^ b) = (3, 0) := by
  unfold kindN
  rw [odd_flip, if_pos hb, odd_flip, if_pos ha, code_odd, mark_flip, mark_flip, code_mark]
  have hne : a + 1 ^^^ (b + 1) ≠ 0 := by
    intro q
    have : a + 1 = b + 1 := by
      have := congrArg (fun x => x ^^^ (b + 1)) q
      simpa [Nat.xor_assoc] using this
    omega
  by_cases h2 : a < 21 <;> by_cases h3 : b < 21 <;> simp [h2, h3, hne] <;> omega
theorem flip_flip (c a : Nat) : c ^^^ 2 ^ a ^^^ 2 ^ a = c := by rw [Nat.xor_assoc, Nat.xor_self, Nat.xor_zero]
end Go.Proofs.Ythcijelebjgfkaa
