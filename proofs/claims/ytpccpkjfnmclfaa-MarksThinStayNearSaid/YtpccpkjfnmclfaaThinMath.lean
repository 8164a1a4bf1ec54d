/- plain mathematics of thinned marks: a line passes a mark closely enough just if its slope is within the mark's two bounds. -/
import Derived.Test.YtpccpkjfnmclfaaShareMath
namespace Go.Proofs.Ytpccpkjfnmclfaa

/-- what a line of slope R over T says D behind its first mark, rounded, is at most M away from r just if .. -/
theorem near_bounds {D R T r M : Int} (hT : 0 < T) : (r - M ≤ (2 * (D * R) + T) / (2 * T) ∧ (2 * (D * R) + T) / (2 * T) ≤ r + M) ↔ ((2 * r - 2 * M - 1) * T ≤ 2 * R * D ∧ 2 * R * D < (2 * r + 2 * M + 1) * T) := by
  have e : 2 * R * D = 2 * (D * R) := by rw [Int.mul_assoc, Int.mul_comm R D]
  rw [e]
  have h2 : (0 : Int) < 2 * T := by omega
  have h1 : r - M ≤ (2 * (D * R) + T) / (2 * T) ↔ (r - M) * (2 * T) ≤ 2 * (D * R) + T := Int.le_ediv_iff_mul_le h2
  have h3 : (2 * (D * R) + T) / (2 * T) < r + M + 1 ↔ 2 * (D * R) + T < (r + M + 1) * (2 * T) := Int.ediv_lt_iff_lt_mul h2
  have e1 : (r - M) * (2 * T) = (2 * r - 2 * M - 1) * T + T := by
    have : (2 * r - 2 * M - 1) * T + T = (2 * r - 2 * M - 1 + 1) * T := by rw [Int.add_mul, Int.one_mul]
    rw [this, Int.mul_left_comm, ← Int.mul_assoc]
    congr 1
    omega
  have e2 : (r + M + 1) * (2 * T) = (2 * r + 2 * M + 1) * T + T := by
    have : (2 * r + 2 * M + 1) * T + T = (2 * r + 2 * M + 1 + 1) * T := by rw [Int.add_mul (2 * r + 2 * M + 1) 1 T, Int.one_mul]
    rw [this, Int.mul_left_comm, ← Int.mul_assoc]
    congr 1
    omega
  rw [e1] at h1
  rw [e2] at h3
  constructor
  · rintro ⟨a, b⟩
    have := h1.1 a
    have := h3.1 (by omega)
    omega
  · rintro ⟨a, b⟩
    have := h1.2 (by omega)
    have := h3.2 (by omega)
    omega
/-- below is transitive where denominators are above 0 -/
theorem lessQ_trans_le {x y z : Nat × Nat} (h1 : lessQ x y = true) (h2 : lessQ z y = false) : lessQ x z = true ∨ z.2 = 0 := by
  unfold lessQ at *
  rw [decide_eq_true_eq] at *
  rw [decide_eq_false_iff_not] at h2
  rcases Nat.eq_zero_or_pos z.2 with h0 | h0
  · exact .inr h0
  · left
    -- x.1/x.2 < y.1/y.2 ≤ z.1/z.2
    have a : x.1 * y.2 * z.2 < y.1 * x.2 * z.2 := Nat.mul_lt_mul_of_pos_right h1 h0
    have b : y.1 * z.2 * x.2 ≤ z.1 * y.2 * x.2 := Nat.mul_le_mul_right _ (by omega)
    have e1 : x.1 * y.2 * z.2 = x.1 * z.2 * y.2 := Nat.mul_right_comm _ _ _
    have e2 : y.1 * x.2 * z.2 = y.1 * z.2 * x.2 := Nat.mul_right_comm _ _ _
    have e3 : z.1 * y.2 * x.2 = z.1 * x.2 * y.2 := Nat.mul_right_comm _ _ _
    rw [e1, e2] at a
    rw [e3] at b
    exact Nat.lt_of_mul_lt_mul_right (Nat.lt_of_lt_of_le a b)
/-- below the greater of two bounds: below one of them -/
theorem less_max {s a b : Nat × Nat} (ha : 0 < a.2) (hb : 0 < b.2) : lessQ s (maxQ a b) = (lessQ s a || lessQ s b) := by
  unfold maxQ
  by_cases h : lessQ a b = true
  · rw [if_pos h]
    by_cases hs : lessQ s a = true
    · have hba : lessQ b a = false := by
        unfold lessQ at *
        rw [decide_eq_true_eq] at h
        rw [decide_eq_false_iff_not]
        omega
      rcases lessQ_trans_le hs hba with q | q
      · rw [q, hs]; rfl
      · omega
    · rw [Bool.not_eq_true] at hs
      rw [hs, Bool.false_or]
  · rw [if_neg h]
    rw [Bool.not_eq_true] at h
    by_cases hs : lessQ s b = true
    · rcases lessQ_trans_le hs h with q | q
      · rw [q, hs]; rfl
      · omega
    · rw [Bool.not_eq_true] at hs
      rw [hs, Bool.or_false]
/-- below the lesser of two bounds: below both (the first one may be above all) -/
theorem less_min {s a b : Nat × Nat} (hs : 0 < s.2) (hb : 0 < b.2) (ha : 0 < a.2 ∨ a = (1, 0)) : lessQ s (minQ a b) = (lessQ s a && lessQ s b) := by
  unfold minQ
  by_cases h : lessQ b a = true
  · rw [if_pos h]
    by_cases hq : lessQ s b = true
    · have hsa : lessQ s a = true := by
        rcases ha with ha | ha
        · have hab : lessQ a b = false := by
            unfold lessQ at *
            rw [decide_eq_true_eq] at h
            rw [decide_eq_false_iff_not]
            omega
          rcases lessQ_trans_le hq hab with q | q
          · exact q
          · omega
        · subst ha
          unfold lessQ
          simp
          exact hs
      rw [hq, hsa]; rfl
    · rw [Bool.not_eq_true] at hq
      rw [hq, Bool.and_false]
  · rw [if_neg h]
    rw [Bool.not_eq_true] at h
    by_cases hq : lessQ s a = true
    · rcases lessQ_trans_le hq h with q | q
      · rw [q, hq]; rfl
      · omega
    · rw [Bool.not_eq_true] at hq
      rw [hq, Bool.false_and]
/-- the two bounds of a mark that is passed, doubled -/
def lowOf (M : Nat) (x : Nat × Nat) : Nat × Nat := (2 * x.1 - 2 * M - 1, x.2)
def highOf (M : Nat) (x : Nat × Nat) : Nat × Nat := (2 * x.1 + 2 * M + 1, x.2)
/-- a line with the slope x passes the mark at y (both counted from the first mark) closely enough just if its slope, doubled, is within the bounds -/
theorem near_lessQ {x y : Nat × Nat} {M : Nat} (hx : 0 < x.2) :
    (((y.1 : Int) - M ≤ (2 * ((y.2 : Int) * x.1) + x.2) / (2 * x.2)) ∧ ((2 * ((y.2 : Int) * x.1) + x.2) / (2 * x.2) ≤ (y.1 : Int) + M)) ↔ (lessQ (2 * x.1, x.2) (lowOf M y) = false ∧ lessQ (2 * x.1, x.2) (highOf M y) = true) := by
  rw [near_bounds (by omega)]
  unfold lessQ lowOf highOf
  simp only
  rw [decide_eq_false_iff_not, decide_eq_true_eq]
  have e1 : (2 : Int) * x.1 * y.2 = ((2 * x.1 * y.2 : Nat) : Int) := by rw [Int.natCast_mul, Int.natCast_mul]; rfl
  have e2 : (2 * (y.1 : Int) + 2 * M + 1) * x.2 = (((2 * y.1 + 2 * M + 1) * x.2 : Nat) : Int) := by rw [Int.natCast_mul, Int.natCast_add, Int.natCast_add, Int.natCast_mul, Int.natCast_mul]; rfl
  rw [e1, e2]
  have h1 : (2 * (y.1 : Int) - 2 * M - 1) * x.2 ≤ ((2 * x.1 * y.2 : Nat) : Int) ↔ (2 * y.1 - 2 * M - 1) * x.2 ≤ 2 * x.1 * y.2 := by
    rcases Nat.lt_or_ge (2 * y.1) (2 * M + 1) with h | h
    · have e : 2 * y.1 - 2 * M - 1 = 0 := by omega
      rw [e, Nat.zero_mul]
      have : (2 * (y.1 : Int) - 2 * M - 1) * x.2 ≤ 0 := Int.mul_nonpos_of_nonpos_of_nonneg (by omega) (by omega)
      constructor
      · intro _; omega
      · intro _; omega
    · have e : (2 * (y.1 : Int) - 2 * M - 1) = ((2 * y.1 - 2 * M - 1 : Nat) : Int) := by omega
      rw [e, ← Int.natCast_mul]
      omega
  rw [h1]
  omega
end Go.Proofs.Ytpccpkjfnmclfaa
