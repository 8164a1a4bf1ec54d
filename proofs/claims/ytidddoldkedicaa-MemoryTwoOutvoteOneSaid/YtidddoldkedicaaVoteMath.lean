/- votes of three banks. -/
import Derived.Test.YtidddoldkedicaaScrubSpec
namespace Go.Proofs.Ytidddoldkedicaa

def voteB (x y z : Nat) : Nat := x &&& y ||| x &&& z ||| y &&& z
theorem voteB_other (x y z : Nat) : x &&& y ||| y &&& z ||| x &&& z = voteB x y z := by
  unfold voteB
  rw [Nat.or_assoc, Nat.or_comm (y &&& z), ← Nat.or_assoc]
theorem voteB_lt (x y z : Nat) (hx : x < 4194304) (hy : y < 4194304) : voteB x y z < 4194304 := by
  unfold voteB
  have h1 : x &&& y < 2 ^ 22 := Nat.and_lt_two_pow _ hy
  have h2 : x &&& z < 2 ^ 22 := Nat.lt_of_le_of_lt Nat.and_le_left hx
  have h3 : y &&& z < 2 ^ 22 := Nat.lt_of_le_of_lt Nat.and_le_left hy
  exact Nat.or_lt_two_pow (Nat.or_lt_two_pow h1 h2) h3
def diffB (x y z : Nat) : Bool := !(decide (x = y) && decide (x = z))
/-- codes and places behind k of them -/
def voteT (a b c : List Nat) : Nat → List Nat × List Int
  | 0 => (a, [])
  | k + 1 => ((voteT a b c k).1.set k (voteB (a.getD k 0) (b.getD k 0) (c.getD k 0)), if diffB (a.getD k 0) (b.getD k 0) (c.getD k 0) = true then (voteT a b c k).2 ++ [(k : Int)] else (voteT a b c k).2)
theorem vote_len (a b c : List Nat) : ∀ k, (voteT a b c k).1.length = a.length
  | 0 => rfl
  | k + 1 => by simp [voteT, vote_len a b c k]
theorem vote_few (a b c : List Nat) : ∀ k, (voteT a b c k).2.length ≤ k
  | 0 => Nat.le_refl _
  | k + 1 => by
    have := vote_few a b c k
    simp only [voteT]
    split
    · simp; omega
    · omega
theorem vote_get (a b c : List Nat) : ∀ k i (_ : i < a.length), (voteT a b c k).1.getD i 0 = if i < k then voteB (a.getD i 0) (b.getD i 0) (c.getD i 0) else a.getD i 0
  | 0, i, _ => by simp [voteT]
  | k + 1, i, hi => by
    have ih := vote_get a b c k i hi
    have hl := vote_len a b c k
    simp only [voteT]
    by_cases h : k = i
    · subst h
      rw [if_pos (by omega)]
      simp [List.getD, hl, hi]
    · have e : ((voteT a b c k).1.set k (voteB (a.getD k 0) (b.getD k 0) (c.getD k 0))).getD i 0 = (voteT a b c k).1.getD i 0 := by
        simp only [List.getD]
        rw [List.getElem?_set_ne h]
      rw [e, ih]
      by_cases h2 : i < k
      · rw [if_pos h2, if_pos (by omega)]
      · rw [if_neg h2, if_neg (by omega)]
theorem list_getD {a b : List Nat} (hl : a.length = b.length) (h : ∀ i, i < a.length → a.getD i 0 = b.getD i 0) : a = b := by
  apply List.ext_getElem hl
  intro i h1 h2
  have := h i h1
  simpa [List.getD, h1, h2] using this
/-- two outvote one -/
theorem vote_two1 (a b : List Nat) : (voteT a a b a.length).1 = a := by
  refine list_getD (vote_len _ _ _ _) fun i hi => ?_
  rw [vote_len] at hi
  rw [vote_get a a b _ i hi, if_pos hi]
  unfold voteB
  generalize a.getD i 0 = x
  generalize b.getD i 0 = y
  apply Nat.eq_of_testBit_eq; intro j
  simp only [Nat.testBit_or, Nat.testBit_and]
  cases x.testBit j <;> cases y.testBit j <;> rfl
theorem vote_two2 (a b : List Nat) : (voteT a b a a.length).1 = a := by
  refine list_getD (vote_len _ _ _ _) fun i hi => ?_
  rw [vote_len] at hi
  rw [vote_get a b a _ i hi, if_pos hi]
  unfold voteB
  generalize a.getD i 0 = x
  generalize b.getD i 0 = y
  apply Nat.eq_of_testBit_eq; intro j
  simp only [Nat.testBit_or, Nat.testBit_and]
  cases x.testBit j <;> cases y.testBit j <;> rfl
theorem vote_two3 (a b : List Nat) (hl : a.length = b.length) : (voteT b a a b.length).1 = a := by
  refine list_getD ((vote_len _ _ _ _).trans hl.symm) fun i hi => ?_
  rw [vote_len] at hi
  rw [vote_get b a a _ i hi, if_pos hi]
  unfold voteB
  generalize a.getD i 0 = x
  generalize b.getD i 0 = y
  apply Nat.eq_of_testBit_eq; intro j
  simp only [Nat.testBit_or, Nat.testBit_and]
  cases x.testBit j <;> cases y.testBit j <;> rfl
/-- what is wrong with three banks -/
def threeS (a a' b b' c c' : List Int) : Int :=
  if chkB a a' = 0 then (if chkB b b' = 0 then (if chkB c c' = 0 then (if b.length = a.length ∧ c.length = a.length then 0 else 3) else chkB c c') else chkB b b') else chkB a a'
def votedS (a a' b b' c c' : List Int) : (List Int × List Int) × List Int × Int :=
  if threeS a a' b b' c c' = 0 then ((ints (voteT (nats a) (nats b) (nats c) a.length).1, a'), (voteT (nats a) (nats b) (nats c) a.length).2, 0) else (([], []), [], threeS a a' b b' c c')
theorem three_right {a a' b b' c c' : List Int} (h : threeS a a' b b' c c' = 0) : Right a a' ∧ Right b b' ∧ Right c c' ∧ b.length = a.length ∧ c.length = a.length := by
  unfold threeS at h
  by_cases h1 : chkB a a' = 0
  · rw [if_pos h1] at h
    by_cases h2 : chkB b b' = 0
    · rw [if_pos h2] at h
      by_cases h3 : chkB c c' = 0
      · rw [if_pos h3] at h
        by_cases h4 : b.length = a.length ∧ c.length = a.length
        · exact ⟨chk_right h1, chk_right h2, chk_right h3, h4.1, h4.2⟩
        · rw [if_neg h4] at h; omega
      · rw [if_neg h3] at h; omega
    · rw [if_neg h2] at h; omega
  · rw [if_neg h1] at h; omega
theorem right_three {a a' b b' c c' : List Int} (h1 : Right a a') (h2 : Right b b') (h3 : Right c c') (h4 : b.length = a.length) (h5 : c.length = a.length) : threeS a a' b b' c c' = 0 := by
  unfold threeS
  rw [if_pos (right_chk h1), if_pos (right_chk h2), if_pos (right_chk h3), if_pos ⟨h4, h5⟩]
end Go.Proofs.Ytidddoldkedicaa
