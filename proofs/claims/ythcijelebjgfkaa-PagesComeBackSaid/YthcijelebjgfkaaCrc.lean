/- plain mathematics of the CRC: the byte-wise step equals eight bit-wise rounds. -/
namespace Go.Proofs.Ythcijelebjgfkaa.Crc
/-- one doubling -/
def rnd (s : Nat) : Nat := if 32768 ≤ s then (2 * s % 65536) ^^^ 4129 else 2 * s % 65536
def rnd8 (s : Nat) : Nat := rnd (rnd (rnd (rnd (rnd (rnd (rnd (rnd s)))))))
def mix (x : Nat) : Nat := x ^^^ (x / 16)
def fast (s c : Nat) : Nat :=
  ((s * 256 % 65536 ^^^ mix (s / 256 ^^^ c) * 4096 % 65536) ^^^ mix (s / 256 ^^^ c) * 32 % 65536) ^^^ mix (s / 256 ^^^ c)
def slow (s c : Nat) : Nat := rnd8 (s ^^^ c * 256)
theorem rnd_lt (s : Nat) : rnd s < 65536 := by
  unfold rnd; split
  · exact Nat.xor_lt_two_pow (n := 16) (by omega) (by omega)
  · omega
theorem rnd8_lt (s : Nat) : rnd8 s < 65536 := rnd_lt _
theorem xlt {a b : Nat} (ha : a < 65536) (hb : b < 65536) : a ^^^ b < 65536 := Nat.xor_lt_two_pow (n := 16) ha hb
theorem xlt8 {a b : Nat} (ha : a < 256) (hb : b < 256) : a ^^^ b < 256 := Nat.xor_lt_two_pow (n := 8) ha hb
theorem top (s : Nat) (h : s < 65536) : (32768 ≤ s) ↔ s.testBit 15 = true := by
  rw [Nat.testBit_eq_decide_div_mod_eq]; simp only [decide_eq_true_eq]; omega
theorem dbl (a b : Nat) : 2 * (a ^^^ b) % 65536 = (2 * a % 65536) ^^^ (2 * b % 65536) := by
  have h : ∀ n : Nat, 2 * n % 65536 = (n <<< 1) % 2 ^ 16 := fun n => by rw [Nat.shiftLeft_eq]; omega
  rw [h, h, h, Nat.shiftLeft_xor_distrib, Nat.xor_mod_two_pow]
theorem rnd_xor (a b : Nat) (ha : a < 65536) (hb : b < 65536) : rnd (a ^^^ b) = rnd a ^^^ rnd b := by
  have hx := top _ (xlt ha hb)
  have h1 := top a ha
  have h2 := top b hb
  rw [Nat.testBit_xor] at hx
  unfold rnd
  rw [dbl]
  by_cases c1 : 32768 ≤ a <;> by_cases c2 : 32768 ≤ b
  · have e : ¬ 32768 ≤ a ^^^ b := by rw [hx, h1.1 c1, h2.1 c2]; simp
    rw [if_neg e, if_pos c1, if_pos c2]
    generalize 2 * a % 65536 = p; generalize 2 * b % 65536 = q
    rw [Nat.xor_assoc, Nat.xor_comm 4129 (q ^^^ 4129), Nat.xor_assoc, Nat.xor_self, Nat.xor_zero]
  · have e : 32768 ≤ a ^^^ b := by rw [hx, h1.1 c1]; have : b.testBit 15 = false := by simpa using fun h => c2 (h2.2 h)
                                   rw [this]; rfl
    rw [if_pos e, if_pos c1, if_neg c2]
    generalize 2 * a % 65536 = p; generalize 2 * b % 65536 = q
    rw [Nat.xor_assoc, Nat.xor_comm q 4129, Nat.xor_assoc]
  · have e : 32768 ≤ a ^^^ b := by rw [hx, h2.1 c2]; have : a.testBit 15 = false := by simpa using fun h => c1 (h1.2 h)
                                   rw [this]; rfl
    rw [if_pos e, if_neg c1, if_pos c2]
    rw [Nat.xor_assoc]
  · have e : ¬ 32768 ≤ a ^^^ b := by
      have q1 : a.testBit 15 = false := by simpa using fun h => c1 (h1.2 h)
      have q2 : b.testBit 15 = false := by simpa using fun h => c2 (h2.2 h)
      rw [hx, q1, q2]; simp
    rw [if_neg e, if_neg c1, if_neg c2]
theorem rnd8_xor (a b : Nat) (ha : a < 65536) (hb : b < 65536) : rnd8 (a ^^^ b) = rnd8 a ^^^ rnd8 b := by
  unfold rnd8
  rw [rnd_xor a b ha hb]
  repeat rw [rnd_xor _ _ (rnd_lt _) (rnd_lt _)]
theorem low : ∀ l : Fin 256, rnd8 l.val = l.val * 256 := by decide +kernel
theorem high : ∀ t : Fin 256, rnd8 (t.val * 256) = (mix t.val * 4096 % 65536 ^^^ mix t.val * 32 % 65536) ^^^ mix t.val := by decide +kernel
theorem split16 (s : Nat) : s = (s / 256) * 256 ^^^ s % 256 := by
  have h := Nat.two_pow_add_eq_or_of_lt (i := 8) (b := s % 256) (by omega) (s / 256)
  have e : (s / 256) * 256 ^^^ s % 256 = (s / 256) * 256 + s % 256 := by
    apply Nat.eq_of_testBit_eq; intro i
    rw [show (s / 256) * 256 + s % 256 = 2 ^ 8 * (s / 256) + s % 256 by omega, h, Nat.testBit_xor, Nat.testBit_or, show (s / 256) * 256 = 2 ^ 8 * (s / 256) by omega]
    rw [Nat.testBit_two_pow_mul]
    by_cases c : 8 ≤ i
    · have z : (s % 256).testBit i = false := Nat.testBit_lt_two_pow (Nat.lt_of_lt_of_le (by omega : s % 256 < 2 ^ 8) (Nat.pow_le_pow_right (by omega) c))
      rw [z]; simp
    · simp [c]
  rw [e]; omega
theorem mul_xor (a b : Nat) : (a ^^^ b) * 256 = a * 256 ^^^ b * 256 := by
  have h : ∀ n : Nat, n * 256 = n <<< 8 := fun n => by rw [Nat.shiftLeft_eq]
  rw [h, h, h, Nat.shiftLeft_xor_distrib]
theorem fast_eq (s c : Nat) (hs : s < 65536) (hc : c < 256) : fast s c = slow s c := by
  have ht : s / 256 ^^^ c < 256 := xlt8 (by omega) hc
  have e : s ^^^ c * 256 = (s / 256 ^^^ c) * 256 ^^^ s % 256 := by
    rw [mul_xor]
    conv => lhs; rw [split16 s]
    rw [Nat.xor_assoc, Nat.xor_comm (s % 256), ← Nat.xor_assoc]
  have l := low ⟨s % 256, by omega⟩
  have hh := high ⟨s / 256 ^^^ c, ht⟩
  simp only at l hh
  unfold slow fast
  rw [e, rnd8_xor _ _ (by omega) (by omega), l, hh]
  rw [show s * 256 % 65536 = s % 256 * 256 by omega]
  generalize mix (s / 256 ^^^ c) = m
  rw [Nat.xor_comm _ (s % 256 * 256), Nat.xor_assoc, Nat.xor_assoc, Nat.xor_assoc]
theorem mix_lt {x : Nat} (h : x < 256) : mix x < 256 := xlt8 h (by omega)
theorem fast_lt (s c : Nat) (hc : c < 256) (hs : s < 65536) : fast s c < 65536 := by
  have ht : s / 256 ^^^ c < 256 := xlt8 (by omega) hc
  have := mix_lt ht
  exact xlt (xlt (xlt (by omega) (by omega)) (by omega)) (by omega)


end Go.Proofs.Ythcijelebjgfkaa.Crc
