/- which times between rounds will do: plain mathematics. -/
import Derived.Test.YtpccpkjfnmclfaaBase
import Derived.Test.YtpccpkjfnmclfaaRLostW
namespace Go.Proofs.Ytpccpkjfnmclfaa

def nearN (c r : Nat) : Bool := decide ((c ^^^ r) &&& ((c ^^^ r) - 1) = 0)
theorem kind_one_parts {c : Nat} (h : (kindN c).1 = 1) : markTo c 21 = 0 ∧ oddTo c 22 = false := by
  unfold kindN at h
  by_cases h1 : oddTo c 22 = true
  · rw [if_pos h1] at h
    split at h
    · simp at h
    · split at h <;> simp at h
  · rw [if_neg h1] at h
    by_cases h2 : markTo c 21 = 0
    · exact ⟨h2, by simpa using h1⟩
    · rw [if_neg h2] at h
      simp at h
theorem near_reads (c n : Nat) (hc : c < 4194304) (hn : n < 65536) : nearN c (codeN n) = true ↔ ((decN c).2.2 = 0 ∧ (decN c).1 = n) := by
  have hcn := code_lt n
  unfold nearN
  rw [decide_eq_true_iff]
  constructor
  · intro h
    have hd := Nat.xor_lt_two_pow (n := 22) hc hcn
    have e : c = codeN n ^^^ (c ^^^ codeN n) := by rw [Nat.xor_comm c, ← Nat.xor_assoc, Nat.xor_self, Nat.zero_xor]
    rcases one_bit _ hd h with h0 | ⟨a, ha, h0⟩
    · rw [h0, Nat.xor_zero] at e
      rw [e]
      unfold decN
      rw [kind_code]
      simp [code_gather n hn]
    · rw [h0] at e
      rw [e]
      unfold decN
      rw [kind_flip n a ha]
      simp [flip_flip, code_gather n hn]
  · rintro ⟨h1, h2⟩
    unfold decN at h1 h2
    rcases kind_three c with k | k | k
    · rw [if_neg (by omega), if_neg (by omega)] at h2
      obtain ⟨m, o⟩ := kind_one_parts k
      have : c = codeN n := codes_same hc hcn (by rw [code_gather n hn]; exact h2) m (code_mark n) o (code_odd n)
      rw [← this, Nat.xor_self]
      rfl
    · rw [if_neg (by omega), if_pos k] at h2
      have hb := kind_bit c k
      have hk : kindN c = (2, (kindN c).2) := by rw [← k]
      have hm := kind_mended hk
      generalize (kindN c).2 = b at *
      simp only at h2
      obtain ⟨m, o⟩ := kind_one_parts (c := c ^^^ 2 ^ (b - 1)) (by rw [hm])
      have hl : c ^^^ 2 ^ (b - 1) < 4194304 := flip_lt _ _ (by omega) hc
      have : c ^^^ 2 ^ (b - 1) = codeN n := codes_same hl hcn (by rw [code_gather n hn]; exact h2) m (code_mark n) o (code_odd n)
      rw [← this, ← Nat.xor_assoc, Nat.xor_self, Nat.zero_xor]
      exact pow_and _
    · rw [if_pos k] at h1
      simp at h1
/-- whether a code is read as a word -/
def mreadP (c z : Int) : Bool := decide ((decS c).2.2 = 0 ∧ (decS c).1 = z)
theorem readP_near (c n : Nat) (hc : c < 4194304) (hn : n < 65536) : mreadP (c : Int) (n : Int) = nearN c (codeN n) := by
  have h := near_reads c n hc hn
  have e : decS (c : Int) = ((((decN c).1 : Nat) : Int), (((decN c).2.1 : Nat) : Int), (((decN c).2.2 : Nat) : Int)) := by unfold decS; rw [if_pos ⟨by omega, by omega⟩]; rfl
  unfold mreadP
  rw [e, Bool.eq_iff_iff, h, decide_eq_true_iff]
  constructor
  · rintro ⟨a, b⟩; simp only at a b; omega
  · rintro ⟨a, b⟩; simp only; omega
/-- the first k codes are read as the words -/
def readsT (X X' : List Int) : Nat → Bool
  | 0 => true
  | k + 1 => readsT X X' k && mreadP (X.getD k 0) (X'.getD k 0)
theorem reads_lost (X X' : List Int) : ∀ k, (readsT X X' k = true ↔ (lostT X k = [] ∧ wrongT X X' k = []))
  | 0 => by simp [readsT, lostT, wrongT]
  | k + 1 => by
    have ih := reads_lost X X' k
    unfold readsT lostT wrongT mreadP
    rw [Bool.and_eq_true, ih, decide_eq_true_iff]
    by_cases h1 : (decS (X.getD k 0)).2.2 = 0
    · by_cases h2 : (decS (X.getD k 0)).1 = X'.getD k 0
      · simp only [h1, h2, and_self, and_true, ne_eq, not_true_eq_false, and_false, if_true, if_false]
      · simp only [h1, h2, and_false, ne_eq, not_false_eq_true, and_self, if_true]
        constructor
        · intro h; cases h
        · rintro ⟨_, h⟩; simp at h
    · simp only [h1, false_and, and_false, if_false]
      constructor
      · intro h; cases h
      · rintro ⟨h, _⟩; simp at h
/-- the greatest number up to e with a property, 0 if there is none -/
def srch (ok : Nat → Bool) : Nat → Nat
  | 0 => 0
  | e + 1 => if ok (e + 1) = true then e + 1 else srch ok e
theorem srch_le (ok : Nat → Bool) : ∀ e, srch ok e ≤ e
  | 0 => Nat.le_refl _
  | e + 1 => by
    have := srch_le ok e
    unfold srch
    split <;> omega
theorem srch_ok (ok : Nat → Bool) : ∀ e, srch ok e ≠ 0 → ok (srch ok e) = true
  | 0, h => absurd rfl h
  | e + 1, h => by
    unfold srch at h ⊢
    split
    · rename_i h1; exact h1
    · rename_i h1; rw [if_neg h1] at h; exact srch_ok ok e h
/-- the greatest one up to most: all above u are as u + 1 -/
def slowN (ok : Nat → Bool) (u most : Nat) : Nat := if u < most then (if ok (u + 1) = true then most else srch ok u) else srch ok most
theorem slowN_le (ok : Nat → Bool) (u most : Nat) : slowN ok u most ≤ most := by
  have h1 := srch_le ok u
  have h2 := srch_le ok most
  unfold slowN
  split
  · split <;> omega
  · omega
theorem slowN_ok (ok : Nat → Bool) (u most : Nat) (hok : ∀ e, u < e → ok e = ok (u + 1)) (h : slowN ok u most ≠ 0) : ok (slowN ok u most) = true := by
  unfold slowN at h ⊢
  by_cases h1 : u < most
  · rw [if_pos h1] at h ⊢
    by_cases h2 : ok (u + 1) = true
    · rw [if_pos h2, hok most h1, h2]
    · rw [if_neg h2] at h ⊢
      exact srch_ok ok u h
  · rw [if_neg h1] at h ⊢
    exact srch_ok ok most h
/-- the codes that are there at a moment -/
def endC (l : List Int) (m : Nat) (f : List Flp) (u e : Nat) : List Int := ints (runEnd e m u ⟨nats l, 0, []⟩ f).C
def okE (l l' : List Int) (m : Nat) (f : List Flp) (u e : Nat) : Bool := readsT (endC l m f u e) l' l.length
theorem endC_far (l : List Int) (m : Nat) (f : List Flp) (u e : Nat) (h : u < e) : endC l m f u e = endC l m f u (u + 1) := by
  unfold endC runEnd
  rw [Nat.div_eq_of_lt h, Nat.div_eq_of_lt (Nat.lt_succ_self u)]
  rfl
theorem okE_far (l l' : List Int) (m : Nat) (f : List Flp) (u e : Nat) (h : u < e) : okE l l' m f u e = okE l l' m f u (u + 1) := by
  unfold okE
  rw [endC_far l m f u e h]
def chkS (l l' : List Int) (m : Int) (f : List Flp) (u q : Int) : Int :=
  if chkF l l' f = 0 then (if (1 ≤ m ∧ m ≤ 5000) ∧ (0 ≤ u ∧ u ≤ 1000000000000) then (if 20000 < u * m then 2 else if 1 ≤ q ∧ q ≤ 1000000000000 then 0 else 1) else 1) else chkF l l' f
def slowS (l l' : List Int) (m : Int) (f : List Flp) (u q : Int) : Int × Bool × Int :=
  if chkS l l' m f u q = 0 then (((slowN (okE l l' m.toNat f u.toNat) u.toNat q.toNat : Nat) : Int), (slowN (okE l l' m.toNat f u.toNat) u.toNat q.toNat != 0), 0) else (0, false, chkS l l' m f u q)
theorem chkS_nums {l l' : List Int} {m u q : Int} {f : List Flp} (h : chkS l l' m f u q = 0) : ∃ M U Q : Nat, m = (M : Int) ∧ u = (U : Int) ∧ q = (Q : Int) ∧ chkF l l' f = 0 ∧ (1 ≤ M ∧ M ≤ 5000) ∧ U ≤ 1000000000000 ∧ (1 ≤ Q ∧ Q ≤ 1000000000000) ∧ U * M ≤ 20000 ∧ Right l l' ∧ f.length ≤ 2000 ∧ ∀ x ∈ f, x.ok l.length := by
  unfold chkS at h
  by_cases h1 : chkF l l' f = 0
  · rw [if_pos h1] at h
    by_cases h2 : (1 ≤ m ∧ m ≤ 5000) ∧ (0 ≤ u ∧ u ≤ 1000000000000)
    · rw [if_pos h2] at h
      by_cases h3 : 20000 < u * m
      · rw [if_pos h3] at h; omega
      · rw [if_neg h3] at h
        by_cases h4 : 1 ≤ q ∧ q ≤ 1000000000000
        · obtain ⟨r1, r2, r3⟩ := chkF_right h1
          refine ⟨m.toNat, u.toNat, q.toNat, by omega, by omega, by omega, h1, by omega, by omega, by omega, ?_, r1, r2, r3⟩
          have hm : m = (m.toNat : Int) := by omega
          have hu : u = (u.toNat : Int) := by omega
          rw [hm, hu] at h3
          generalize m.toNat = M at *
          generalize u.toNat = U at *
          have ec : ((U : Int) * (M : Int)) = ((U * M : Nat) : Int) := by simp
          rw [ec] at h3
          omega
        · rw [if_neg h4] at h; omega
    · rw [if_neg h2] at h; omega
  · rw [if_neg h1] at h; omega
theorem div_few {U M E : Nat} (h : U * M ≤ 20000) : U / E * M ≤ 20000 := Nat.le_trans (Nat.mul_le_mul_right M (Nat.div_le_self U E)) h
end Go.Proofs.Ytpccpkjfnmclfaa
