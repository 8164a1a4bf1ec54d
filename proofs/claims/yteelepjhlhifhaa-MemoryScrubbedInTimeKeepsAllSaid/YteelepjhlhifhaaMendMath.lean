/- what was gone through is read as before. -/
import Derived.Test.YteelepjhlhifhaaScrubSpec
namespace Go.Proofs.Yteelepjhlhifhaa

theorem kind_two_bit {c b : Nat} (h : kindN c = (2, b)) : oddTo c 22 = true ∧ ((markTo c 21 = 0 ∧ b = 22) ∨ (markTo c 21 = b ∧ 0 < b ∧ b < 22)) := by
  unfold kindN at h
  by_cases h1 : oddTo c 22 = true
  · rw [if_pos h1] at h
    by_cases h2 : markTo c 21 = 0
    · rw [if_pos h2] at h
      simp at h
      exact ⟨h1, .inl ⟨h2, h.symm⟩⟩
    · rw [if_neg h2] at h
      by_cases h3 : markTo c 21 < 22
      · rw [if_pos h3] at h
        simp at h
        exact ⟨h1, .inr ⟨h, by omega, by omega⟩⟩
      · rw [if_neg h3] at h
        simp at h
  · rw [if_neg h1] at h
    split at h <;> simp at h
theorem kind_mended {c b : Nat} (h : kindN c = (2, b)) : kindN (c ^^^ 2 ^ (b - 1)) = (1, 0) := by
  obtain ⟨h1, h2⟩ := kind_two_bit h
  unfold kindN
  rcases h2 with ⟨h2, rfl⟩ | ⟨h2, h3, h4⟩
  · have e1 : oddTo (c ^^^ 2 ^ (22 - 1)) 22 = false := by rw [odd_flip, if_pos (by omega), h1]; rfl
    have e2 : markTo (c ^^^ 2 ^ (22 - 1)) 21 = 0 := by rw [mark_flip, if_neg (by omega), h2]
    rw [e1, e2]
    rfl
  · have e1 : oddTo (c ^^^ 2 ^ (b - 1)) 22 = false := by rw [odd_flip, if_pos (by omega), h1]; rfl
    have e2 : markTo (c ^^^ 2 ^ (b - 1)) 21 = 0 := by rw [mark_flip, if_pos (by omega), h2, show b - 1 + 1 = b by omega, Nat.xor_self]
    rw [e1, e2]
    rfl
theorem mend_mend (c : Nat) : mend (mend c) = mend c := by
  unfold mend
  by_cases h : (kindN c).1 = 2
  · have hk : kindN c = (2, (kindN c).2) := by rw [← h]
    have := kind_mended hk
    rw [if_pos h, if_neg (by rw [this]; simp)]
  · rw [if_neg h, if_neg h]
theorem dec_mend (c : Nat) : (decN (mend c)).1 = (decN c).1 ∧ (decN (mend c)).2.2 = (decN c).2.2 ∧ (decN (mend c)).2.1 = 0 := by
  unfold mend
  by_cases h : (kindN c).1 = 2
  · have hk : kindN c = (2, (kindN c).2) := by rw [← h]
    have hm := kind_mended hk
    rw [if_pos h]
    unfold decN
    simp [hm, h]
  · rw [if_neg h]
    unfold decN
    by_cases h3 : (kindN c).1 = 3
    · simp [h3]
    · simp [h3, h]
/-- where it came to behind j codes -/
theorem scrub_at {C : List Nat} {n k : Nat} (hn : C.length = n) (hk : k < n) (hok : (⟨C, k, []⟩ : St).ok n) : ∀ j i (hi : i < n),
    (scrubT 0 j ⟨C, k, []⟩).C[i]'(by rw [(scrub_ok hok j).len]; exact hi) = if (i + n - k) % n < j then mend (C[i]'(by omega)) else C[i]'(by omega)
  | 0, i, hi => by simp [scrubT]
  | j + 1, i, hi => by
    have ih := scrub_at hn hk hok j i hi
    have hl := (scrub_ok hok j (t := 0)).len
    have hx : (scrubT 0 j ⟨C, k, []⟩).next = (k + j) % n := by
      have : ∀ j, (scrubT 0 j ⟨C, k, []⟩).next = (k + j) % n := by
        intro j
        induction j with
        | zero => simp [scrubT, Nat.mod_eq_of_lt hk]
        | succ j ih =>
          have hl := (scrub_ok hok j (t := 0)).len
          simp only [scrubT, stepS, hl, ih]
          rw [← Nat.add_assoc, Nat.mod_add_mod]
      exact this j
    have hxl : (k + j) % n < n := Nat.mod_lt _ (by omega)
    simp only [scrubT, stepS]
    rw [List.getElem_set]
    by_cases he : (scrubT 0 j ⟨C, k, []⟩).next = i
    · rw [if_pos he]
      rw [he]
      have hgd : (scrubT 0 j ⟨C, k, []⟩).C.getD i 0 = (scrubT 0 j ⟨C, k, []⟩).C[i]'(by omega) := by simp [List.getD, show i < (scrubT 0 j ⟨C, k, []⟩).C.length by omega]
      rw [hgd, ih]
      have hlt : (i + n - k) % n < j + 1 := by
        rw [hx] at he
        have e : (i + n - k) % n = j % n := by
          rw [← he]
          have hd := Nat.div_add_mod (k + j) n
          have e2 : (k + j) % n + n - k + n * ((k + j) / n) = j + n := by omega
          have := Nat.add_mul_mod_self_left ((k + j) % n + n - k) n ((k + j) / n)
          rw [← this, e2]
          simp
        rw [e]
        have := Nat.mod_le j n
        omega
      rw [if_pos hlt]
      split
      · exact mend_mend _
      · rfl
    · rw [if_neg he, ih]
      have hne : (i + n - k) % n ≠ j := by
        intro hj
        apply he
        rw [hx, ← hj]
        have hd := Nat.div_add_mod (i + n - k) n
        have e2 : k + (i + n - k) % n + n * ((i + n - k) / n) = i + n := by omega
        have := Nat.add_mul_mod_self_left (k + (i + n - k) % n) n ((i + n - k) / n)
        rw [← this, e2]
        simp [Nat.mod_eq_of_lt hi]
      by_cases h1 : (i + n - k) % n < j
      · rw [if_pos h1, if_pos (by omega)]
      · rw [if_neg h1, if_neg (by omega)]
end Go.Proofs.Yteelepjhlhifhaa
