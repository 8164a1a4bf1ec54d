/- a code is read as a word just if it differs from the word's code in at most one bit: plain mathematics. -/
import Derived.Test.YteelepjhlhifhaaBase
namespace Go.Proofs.Yteelepjhlhifhaa

theorem bit_xor2 (a b n : Nat) : bitN (a ^^^ b) n = (bitN a n + bitN b n) % 2 := by
  have h := Nat.testBit_xor a b n
  rw [bit_test, bit_test, bit_test] at h
  have h1 := bit_lt a n
  have h2 := bit_lt b n
  have h3 := bit_lt (a ^^^ b) n
  generalize bitN (a ^^^ b) n = x at *
  generalize bitN a n = y at *
  generalize bitN b n = z at *
  have e1 : y = 0 ∨ y = 1 := by omega
  have e2 : z = 0 ∨ z = 1 := by omega
  have e3 : x = 0 ∨ x = 1 := by omega
  rcases e1 with rfl | rfl <;> rcases e2 with rfl | rfl <;> rcases e3 with rfl | rfl <;> simp_all
theorem mark_xor (a b : Nat) : ∀ k, markTo (a ^^^ b) k = markTo a k ^^^ markTo b k
  | 0 => by simp [markTo]
  | k + 1 => by
    have ih := mark_xor a b k
    have hx := bit_xor2 a b k
    have h1 := bit_lt a k
    have h2 := bit_lt b k
    unfold markTo
    rw [ih, hx]
    generalize bitN a k = y at *
    generalize bitN b k = z at *
    have e1 : y = 0 ∨ y = 1 := by omega
    have e2 : z = 0 ∨ z = 1 := by omega
    generalize markTo a k = p
    generalize markTo b k = q
    rcases e1 with rfl | rfl <;> rcases e2 with rfl | rfl <;> simp
    · rw [Nat.xor_assoc]
    · rw [Nat.xor_assoc, Nat.xor_comm q, Nat.xor_assoc]
    · rw [Nat.xor_assoc, ← Nat.xor_assoc (k + 1), Nat.xor_comm (k + 1) q, Nat.xor_assoc, Nat.xor_self, Nat.xor_zero]
theorem odd_xor (a b : Nat) : ∀ k, oddTo (a ^^^ b) k = (oddTo a k != oddTo b k)
  | 0 => by simp [oddTo]
  | k + 1 => by
    have ih := odd_xor a b k
    have hx := bit_xor2 a b k
    have h1 := bit_lt a k
    have h2 := bit_lt b k
    unfold oddTo
    rw [ih, hx]
    generalize bitN a k = y at *
    generalize bitN b k = z at *
    have e1 : y = 0 ∨ y = 1 := by omega
    have e2 : z = 0 ∨ z = 1 := by omega
    generalize oddTo a k = p
    generalize oddTo b k = q
    rcases e1 with rfl | rfl <;> rcases e2 with rfl | rfl <;> cases p <;> cases q <;> rfl
theorem field_xor (a b i k : Nat) : (a ^^^ b) / 2 ^ i % 2 ^ k = (a / 2 ^ i % 2 ^ k) ^^^ (b / 2 ^ i % 2 ^ k) := by
  apply Nat.eq_of_testBit_eq
  intro j
  rw [Nat.testBit_mod_two_pow, Nat.testBit_div_two_pow, Nat.testBit_xor, Nat.testBit_xor, Nat.testBit_mod_two_pow, Nat.testBit_mod_two_pow, Nat.testBit_div_two_pow, Nat.testBit_div_two_pow]
  by_cases h : j < k <;> simp [h]
theorem gather_same {a b : Nat} (h : gather a = gather b) : (a ^^^ b) / 4 % 2 = 0 ∧ (a ^^^ b) / 16 % 8 = 0 ∧ (a ^^^ b) / 256 % 128 = 0 ∧ (a ^^^ b) / 65536 % 32 = 0 := by
  unfold gather at h
  have f1 := field_xor a b 2 1
  have f2 := field_xor a b 4 3
  have f3 := field_xor a b 8 7
  have f4 := field_xor a b 16 5
  simp only [show (2 : Nat) ^ 2 = 4 from rfl, show (2 : Nat) ^ 1 = 2 from rfl, show (2 : Nat) ^ 4 = 16 from rfl, show (2 : Nat) ^ 3 = 8 from rfl, show (2 : Nat) ^ 8 = 256 from rfl, show (2 : Nat) ^ 7 = 128 from rfl, show (2 : Nat) ^ 16 = 65536 from rfl, show (2 : Nat) ^ 5 = 32 from rfl] at f1 f2 f3 f4
  have m1 : a / 4 % 2 < 2 := by omega
  have m2 : a / 16 % 8 < 8 := by omega
  have m3 : a / 256 % 128 < 128 := by omega
  have m4 : a / 65536 % 32 < 32 := by omega
  have k1 : b / 4 % 2 < 2 := by omega
  have k2 : b / 16 % 8 < 8 := by omega
  have k3 : b / 256 % 128 < 128 := by omega
  have k4 : b / 65536 % 32 < 32 := by omega
  rw [f1, f2, f3, f4]
  clear f1 f2 f3 f4
  generalize a / 4 % 2 = x1 at *
  generalize a / 16 % 8 = x2 at *
  generalize a / 256 % 128 = x3 at *
  generalize a / 65536 % 32 = x4 at *
  generalize b / 4 % 2 = y1 at *
  generalize b / 16 % 8 = y2 at *
  generalize b / 256 % 128 = y3 at *
  generalize b / 65536 % 32 = y4 at *
  obtain rfl : x1 = y1 := by omega
  obtain rfl : x2 = y2 := by omega
  obtain rfl : x3 = y3 := by omega
  obtain rfl : x4 = y4 := by omega
  simp
theorem checks_only : ∀ a : Fin 4, ∀ b : Fin 2, ∀ c : Fin 2, ∀ e : Fin 2, ∀ f : Fin 2, markTo (a.val + b.val * 8 + c.val * 128 + e.val * 32768 + f.val * 2097152) 21 = 0 → oddTo (a.val + b.val * 8 + c.val * 128 + e.val * 32768 + f.val * 2097152) 22 = false → a.val + b.val * 8 + c.val * 128 + e.val * 32768 + f.val * 2097152 = 0 := by decide +kernel
/-- two right codes with one word are one code -/
theorem codes_same {a b : Nat} (ha : a < 4194304) (hb : b < 4194304) (hg : gather a = gather b) (m1 : markTo a 21 = 0) (m2 : markTo b 21 = 0) (o1 : oddTo a 22 = false) (o2 : oddTo b 22 = false) : a = b := by
  obtain ⟨g1, g2, g3, g4⟩ := gather_same hg
  have hm : markTo (a ^^^ b) 21 = 0 := by rw [mark_xor, m1, m2]; rfl
  have ho : oddTo (a ^^^ b) 22 = false := by rw [odd_xor, o1, o2]; rfl
  have hl : a ^^^ b < 4194304 := Nat.xor_lt_two_pow (n := 22) ha hb
  suffices h : a ^^^ b = 0 by
    have := congrArg (fun x => x ^^^ b) h
    simpa [Nat.xor_assoc] using this
  generalize a ^^^ b = d at *
  have e : d = d % 4 + d / 8 % 2 * 8 + d / 128 % 2 * 128 + d / 32768 % 2 * 32768 + d / 2097152 * 2097152 := by
    have h1 : d / 4 = d / 8 * 2 := by omega
    have h2 : d / 16 = d / 128 * 8 := by omega
    have h3 : d / 256 = d / 32768 * 128 := by omega
    have h4 : d / 65536 = d / 2097152 * 32 := by omega
    omega
  have := checks_only ⟨d % 4, by omega⟩ ⟨d / 8 % 2, by omega⟩ ⟨d / 128 % 2, by omega⟩ ⟨d / 32768 % 2, by omega⟩ ⟨d / 2097152, by omega⟩
  simp only at this
  rw [← e] at this
  exact this hm ho
theorem one_bit (d : Nat) (hd : d < 4194304) (h : d &&& (d - 1) = 0) : d = 0 ∨ ∃ a, a < 22 ∧ d = 2 ^ a := by
  by_cases h0 : d = 0
  · exact .inl h0
  refine .inr ⟨Nat.log2 d, (Nat.log2_lt h0).2 (by simpa using hd), ?_⟩
  have h1 := Nat.log2_self_le h0
  have h2 : d < 2 ^ (Nat.log2 d + 1) := (Nat.log2_lt h0).1 (by omega)
  generalize Nat.log2 d = k at *
  by_cases e : d = 2 ^ k
  · exact e
  exfalso
  have t1 : d.testBit k = true := by
    rw [Nat.testBit_eq_decide_div_mod_eq]
    have : d / 2 ^ k = 1 := by
      apply Nat.div_eq_of_lt_le <;> simp only [Nat.pow_succ] at * <;> omega
    simp [this]
  have t2 : (d - 1).testBit k = true := by
    rw [Nat.testBit_eq_decide_div_mod_eq]
    have : (d - 1) / 2 ^ k = 1 := by
      apply Nat.div_eq_of_lt_le <;> simp only [Nat.pow_succ] at * <;> omega
    simp [this]
  have := Nat.testBit_and d (d - 1) k
  rw [h, t1, t2] at this
  simp at this
theorem pow_and (a : Nat) : 2 ^ a &&& (2 ^ a - 1) = 0 := by
  rw [Nat.and_two_pow_sub_one_eq_mod]
  simp
end Go.Proofs.Yteelepjhlhifhaa
