/- plain mathematics of lines through marks: what they say at a tick, that it never falls, and which pair of marks it is. -/
import Derived.Test.YtpccpkjfnmclfaaMarkMath
namespace Go.Proofs.Ytpccpkjfnmclfaa

/-- what the line through two marks says at a tick, rounded, a half up -/
def lineF (a b : Mk) (n : Int) : Int := a.z + (2 * ((n - a.t) * (b.z - a.z)) + (b.t - a.t)) / (2 * (b.t - a.t))
/-- two numbers are the same, or both above all times, or both below -/
def Near (v e : Int) : Prop := (v = e ∨ (1000000000000 < v ∧ 1000000000000 < e) ∨ (v < 0 ∧ e < 0)) ∧ -9000000000000000000 ≤ v ∧ v ≤ 9000000000000000000
/-- a quotient and its rest, or B and some rest if the quotient is not below B -/
def Scal (B : Int) (p run : Nat) (n r : Int) : Prop := (n = ((p / run : Nat) : Int) ∧ n ≤ B ∧ r = ((p % run : Nat) : Int)) ∨ (B ≤ ((p / run : Nat) : Int) ∧ n = B ∧ 0 ≤ r ∧ r < run)
theorem scal_rest {B : Int} {p run : Nat} {n r : Int} (h : Scal B p run n r) (hrun : 0 < run) (hB : 0 ≤ B) : (0 ≤ r ∧ r < run) ∧ 0 ≤ n ∧ n ≤ B := by
  have h0 := Int.natCast_nonneg (p / run)
  rcases h with ⟨h1, h2, h3⟩ | ⟨h1, h2, h3, h4⟩
  · have := Nat.mod_lt p hrun
    omega
  · omega
theorem ediv_add_mul' (a b q : Int) (hb : 0 < b) : (a + 2 * b * q) / (2 * b) = a / (2 * b) + q := Int.add_mul_ediv_left a q (by omega)
theorem round_up {run r : Int} (h0 : 0 ≤ r) (h : r < run) : (2 * r + run) / (2 * run) = if run ≤ 2 * r then 1 else 0 := by
  split
  · have h1 : (2 * r + run) / (2 * run) < 2 := Int.ediv_lt_of_lt_mul (by omega) (by omega)
    have h2 : 1 ≤ (2 * r + run) / (2 * run) := (Int.le_ediv_iff_mul_le (by omega)).2 (by omega)
    omega
  · exact Int.ediv_eq_zero_of_lt (by omega) (by omega)
theorem round_down {run r : Int} (h0 : 0 ≤ r) (h : r < run) : (run - 2 * r) / (2 * run) = if run < 2 * r then -1 else 0 := by
  split
  · have h1 : (run - 2 * r) / (2 * run) < 0 := Int.ediv_lt_of_lt_mul (by omega) (by omega)
    have h2 : -1 ≤ (run - 2 * r) / (2 * run) := (Int.le_ediv_iff_mul_le (by omega)).2 (by omega)
    omega
  · exact Int.ediv_eq_zero_of_lt (by omega) (by omega)
/-- ahead of the first mark's tick, and from there on -/
theorem line_up {a b : Mk} {n : Int} {p run : Nat} (hrun : 0 < run) (hr : b.t - a.t = run) (hp : (n - a.t) * (b.z - a.z) = p) : lineF a b n = a.z + ((p / run : Nat) : Int) + if (run : Int) ≤ 2 * ((p % run : Nat) : Int) then 1 else 0 := by
  have h1 := Nat.div_add_mod p run
  have h2 := Nat.mod_lt p hrun
  unfold lineF
  rw [hr, hp]
  generalize p / run = q at *
  generalize p % run = r at *
  rw [← h1, Int.natCast_add, Int.natCast_mul]
  have e : (2 * ((run : Int) * q + r) + run) = (2 * r + run) + 2 * (run : Int) * q := by rw [Int.mul_add, Int.mul_assoc]; omega
  rw [e, ediv_add_mul' _ _ _ (by omega), round_up (by omega) (by omega)]
  omega
theorem line_down {a b : Mk} {n : Int} {p run : Nat} (hrun : 0 < run) (hr : b.t - a.t = run) (hp : (a.t - n) * (b.z - a.z) = p) : lineF a b n = a.z - (((p / run : Nat) : Int) + if (run : Int) < 2 * ((p % run : Nat) : Int) then 1 else 0) := by
  have h1 := Nat.div_add_mod p run
  have h2 := Nat.mod_lt p hrun
  unfold lineF
  have hp' : (n - a.t) * (b.z - a.z) = -(p : Int) := by rw [← hp, ← Int.neg_mul]; congr 1; omega
  rw [hr, hp']
  generalize p / run = q at *
  generalize p % run = r at *
  rw [← h1, Int.natCast_add, Int.natCast_mul]
  have e : (2 * -((run : Int) * q + r) + run) = (run - 2 * r) + 2 * (run : Int) * (-q) := by rw [Int.mul_assoc, Int.mul_neg (run : Int)]; omega
  rw [e, ediv_add_mul' _ _ _ (by omega), round_down (by omega) (by omega)]
  split <;> omega
theorem near_up {a b : Mk} {n B m r : Int} {p run : Nat} (ha : 0 ≤ a.z ∧ a.z ≤ 1000000000000) (hrun : 0 < run) (hr : b.t - a.t = run) (hp : (n - a.t) * (b.z - a.z) = p) (hB : 2000000000000 ≤ B ∧ B ≤ 5000000000000000000) (h : Scal B p run m r) :
    Near (a.z + (if (run : Int) ≤ 2 * r then m + 1 else m)) (lineF a b n) := by
  rw [line_up hrun hr hp]
  unfold Near
  have h0 := Int.natCast_nonneg (p / run)
  rcases h with ⟨h1, h2, h3⟩ | ⟨h1, h2, h3, h4⟩
  · rw [← h1, ← h3]
    split <;> omega
  · split <;> split <;> omega
theorem near_down {a b : Mk} {n B m r : Int} {p run : Nat} (ha : 0 ≤ a.z ∧ a.z ≤ 1000000000000) (hrun : 0 < run) (hr : b.t - a.t = run) (hp : (a.t - n) * (b.z - a.z) = p) (hB : 2000000000000 ≤ B ∧ B ≤ 5000000000000000000) (h : Scal B p run m r) :
    Near (a.z - (if (run : Int) < 2 * r then m + 1 else m)) (lineF a b n) := by
  rw [line_down hrun hr hp]
  unfold Near
  have h0 := Int.natCast_nonneg (p / run)
  rcases h with ⟨h1, h2, h3⟩ | ⟨h1, h2, h3, h4⟩
  · rw [← h1, ← h3]
    split <;> omega
  · split <;> split <;> omega
theorem line_mono {a b : Mk} {n m : Int} (ht : a.t < b.t) (hz : a.z < b.z) (h : n ≤ m) : lineF a b n ≤ lineF a b m := by
  unfold lineF
  have h1 : (n - a.t) * (b.z - a.z) ≤ (m - a.t) * (b.z - a.z) := Int.mul_le_mul_of_nonneg_right (by omega) (by omega)
  have := Int.ediv_le_ediv (show 0 < 2 * (b.t - a.t) by omega) (show 2 * ((n - a.t) * (b.z - a.z)) + (b.t - a.t) ≤ 2 * ((m - a.t) * (b.z - a.z)) + (b.t - a.t) by omega)
  omega
theorem line_first {a b : Mk} (ht : a.t < b.t) : lineF a b a.t = a.z := by
  unfold lineF
  rw [Int.sub_self, Int.zero_mul, Int.mul_zero, Int.zero_add, Int.ediv_eq_zero_of_lt (by omega) (by omega), Int.add_zero]
theorem line_second {a b : Mk} (ht : a.t < b.t) : lineF a b b.t = b.z := by
  unfold lineF
  have e : 2 * ((b.t - a.t) * (b.z - a.z)) + (b.t - a.t) = (b.t - a.t) + 2 * (b.t - a.t) * (b.z - a.z) := by rw [Int.mul_assoc]; omega
  rw [e, ediv_add_mul' _ _ _ (by omega), Int.ediv_eq_zero_of_lt (by omega) (by omega)]
  omega

/-- marks in order -/
def Sorted (l : List Mk) : Prop := ∀ (i : Nat) (h : i + 1 < l.length), l[i].lt l[i + 1]
theorem Sorted.lt {l : List Mk} (h : Sorted l) : ∀ (j i : Nat) (hj : j < l.length) (hij : i < j), l[i].lt l[j]
  | j + 1, i, hj, hij => by
    have h1 := h j hj
    rcases Nat.lt_or_ge i j with hlt | hge
    · have h2 := Sorted.lt h j i (by omega) hlt
      exact ⟨Int.lt_trans h2.1 h1.1, Int.lt_trans h2.2 h1.2⟩
    · obtain rfl : i = j := by omega
      exact h1
theorem Sorted.le {l : List Mk} (h : Sorted l) (i j : Nat) (hj : j < l.length) (hij : i ≤ j) : l[i].t ≤ l[j].t ∧ l[i].z ≤ l[j].z := by
  rcases Nat.lt_or_ge i j with hlt | hge
  · have := h.lt j i hj hlt
    exact ⟨by have := this.1; omega, by have := this.2; omega⟩
  · obtain rfl : i = j := by omega
    exact ⟨Int.le_refl _, Int.le_refl _⟩
/-- the marks k - 1 and k are those whose line speaks at n -/
def Seg (l : List Mk) (n : Int) (k : Nat) : Prop := ∃ h : k < l.length, 1 ≤ k ∧ (k = 1 ∨ (l[k - 1]'(by omega)).t ≤ n) ∧ (k + 1 = l.length ∨ n < l[k].t)
theorem Seg.unique {l : List Mk} {n : Int} {k k' : Nat} (hs : Sorted l) (h : Seg l n k) (h' : Seg l n k') : k = k' := by
  obtain ⟨a, b, c, d⟩ := h
  obtain ⟨a', b', c', d'⟩ := h'
  rcases Nat.lt_trichotomy k k' with hlt | he | hgt
  · exfalso
    have e1 : n < l[k].t := by omega
    have e2 : (l[k' - 1]'(by omega)).t ≤ n := by omega
    have := (hs.le k (k' - 1) (by omega) (by omega)).1
    omega
  · exact he
  · exfalso
    have e1 : n < l[k'].t := by omega
    have e2 : (l[k - 1]'(by omega)).t ≤ n := by omega
    have := (hs.le k' (k - 1) (by omega) (by omega)).1
    omega
/-- what the lines say at n -/
def TimeP (l : List Mk) (n v : Int) : Prop := ∃ k, ∃ h : Seg l n k, v = lineF (l[k - 1]'(by have := h.1; omega)) (l[k]'h.1) n
theorem TimeP.unique {l : List Mk} {n v v' : Int} (hs : Sorted l) (h : TimeP l n v) (h' : TimeP l n v') : v = v' := by
  obtain ⟨k, a, rfl⟩ := h
  obtain ⟨k', a', rfl⟩ := h'
  have := Seg.unique hs a a'
  subst this
  rfl
theorem TimeP.mono {l : List Mk} {n m v u : Int} (hs : Sorted l) (h : TimeP l n v) (h' : TimeP l m u) (hnm : n ≤ m) : v ≤ u := by
  obtain ⟨k, ⟨a, b, c, d⟩, rfl⟩ := h
  obtain ⟨k', ⟨a', b', c', d'⟩, rfl⟩ := h'
  have s1 := hs.lt k (k - 1) a (by omega)
  have s2 := hs.lt k' (k' - 1) a' (by omega)
  rcases Nat.lt_trichotomy k k' with hlt | he | hgt
  · have e1 : n < l[k].t := by omega
    have e2 : (l[k' - 1]'(by omega)).t ≤ m := by omega
    have h1 := line_mono (n := n) (m := l[k].t) s1.1 s1.2 (by omega)
    rw [line_second s1.1] at h1
    have h2 := line_mono (n := (l[k' - 1]'(by omega)).t) (m := m) s2.1 s2.2 e2
    rw [line_first s2.1] at h2
    have h3 := (hs.le k (k' - 1) (by omega) (by omega)).2
    omega
  · subst he
    exact line_mono s1.1 s1.2 hnm
  · exfalso
    have e1 : m < l[k'].t := by omega
    have e2 : (l[k - 1]'(by omega)).t ≤ n := by omega
    have := (hs.le k' (k - 1) (by omega) (by omega)).1
    omega
/-- at a mark it is the mark's time -/
theorem TimeP.mark {l : List Mk} {v : Int} {i : Nat} (hs : Sorted l) (hi : i < l.length) (h : TimeP l l[i].t v) : v = l[i].z := by
  obtain ⟨k, ⟨a, b, c, d⟩, rfl⟩ := h
  have s1 := hs.lt k (k - 1) a (by omega)
  rcases Nat.lt_or_ge i k with hlt | hge
  · have : i = k - 1 := by
      rcases c with c | c
      · omega
      · rcases Nat.lt_or_ge i (k - 1) with h | h
        · have := (hs.lt (k - 1) i (by omega) h).1
          omega
        · omega
    subst this
    exact line_first s1.1
  · have : i = k := by
      rcases d with d | d
      · omega
      · rcases Nat.lt_or_ge k i with h | h
        · have := (hs.lt i k hi h).1
          omega
        · omega
    subst this
    exact line_second s1.1
/-- there is such a pair -/
theorem seg_exists {l : List Mk} (hs : Sorted l) (n : Int) (h2 : 2 ≤ l.length) : ∀ j, j < l.length → (j = 0 ∨ ∃ h : j < l.length, l[j].t ≤ n) → ∃ k, Seg l n k := by
  have key : ∀ (d j : Nat), l.length - j = d → (hj : j < l.length) → (j = 0 ∨ l[j].t ≤ n) → ∃ k, Seg l n k := by
    intro d
    induction d with
    | zero => intro j h1 hj; omega
    | succ d ih =>
      intro j h1 hj h
      by_cases hl : j + 1 < l.length
      · by_cases hn : l[j + 1].t ≤ n
        · exact ih (j + 1) (by omega) hl (.inr hn)
        · exact ⟨j + 1, hl, by omega, by rcases h with h | h; exact .inl (by omega); exact .inr h, .inr (by omega)⟩
      · refine ⟨j, hj, by omega, ?_, .inl (by omega)⟩
        rcases h with h | h
        · omega
        · rcases Nat.lt_or_ge 1 j with h1' | h1'
          · exact .inr (by have := (hs.lt j (j - 1) hj (by omega)).1; omega)
          · exact .inl (by omega)
  intro j hj h
  rcases h with h | ⟨_, h⟩
  · exact key _ j rfl hj (.inl h)
  · exact key _ j rfl hj (.inr h)
end Go.Proofs.Ytpccpkjfnmclfaa
