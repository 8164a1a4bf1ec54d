/- plain mathematics of shares: comparing them, lowest terms, the least and the greatest rate. -/
import Derived.Test.YtpccpkjfnmclfaaLineMath
namespace Go.Proofs.Ytpccpkjfnmclfaa

/-- a share is below another one -/
def lessQ (x y : Nat × Nat) : Bool := decide (x.1 * y.2 < y.1 * x.2)
/-- a share in lowest terms -/
def lowQ (x : Nat × Nat) : Nat × Nat := (x.1 / Nat.gcd x.1 x.2, x.2 / Nat.gcd x.1 x.2)
theorem lowQ_pos {x : Nat × Nat} (h1 : 0 < x.1) (h2 : 0 < x.2) : 0 < (lowQ x).1 ∧ 0 < (lowQ x).2 ∧ (lowQ x).1 ≤ x.1 ∧ (lowQ x).2 ≤ x.2 := by
  have hg : 0 < Nat.gcd x.1 x.2 := Nat.gcd_pos_of_pos_left _ h1
  refine ⟨Nat.div_pos (Nat.le_of_dvd h1 (Nat.gcd_dvd_left _ _)) hg, Nat.div_pos (Nat.le_of_dvd h2 (Nat.gcd_dvd_right _ _)) hg, Nat.div_le_self _ _, Nat.div_le_self _ _⟩
theorem less_low {x y : Nat × Nat} (hx1 : 0 < x.1) (hx2 : 0 < x.2) (hy1 : 0 < y.1) (hy2 : 0 < y.2) : lessQ (lowQ x) (lowQ y) = lessQ x y := by
  have hgx : 0 < Nat.gcd x.1 x.2 := Nat.gcd_pos_of_pos_left _ hx1
  have hgy : 0 < Nat.gcd y.1 y.2 := Nat.gcd_pos_of_pos_left _ hy1
  have a1 := Nat.div_mul_cancel (Nat.gcd_dvd_left x.1 x.2)
  have a2 := Nat.div_mul_cancel (Nat.gcd_dvd_right x.1 x.2)
  have b1 := Nat.div_mul_cancel (Nat.gcd_dvd_left y.1 y.2)
  have b2 := Nat.div_mul_cancel (Nat.gcd_dvd_right y.1 y.2)
  unfold lessQ lowQ
  simp only
  generalize Nat.gcd x.1 x.2 = g at *
  generalize Nat.gcd y.1 y.2 = k at *
  generalize x.1 / g = p at *
  generalize x.2 / g = q at *
  generalize y.1 / k = r at *
  generalize y.2 / k = s at *
  rw [← a1, ← a2, ← b1, ← b2]
  have e1 : p * g * (s * k) = p * s * (g * k) := by rw [Nat.mul_assoc, Nat.mul_assoc, Nat.mul_left_comm g s k]
  have e2 : r * k * (q * g) = r * q * (g * k) := by rw [Nat.mul_assoc, Nat.mul_assoc, Nat.mul_left_comm k q g, Nat.mul_comm k g]
  rw [e1, e2]
  congr 1
  exact propext (Nat.mul_lt_mul_right (Nat.mul_pos hgx hgy)).symm
/-- the rate of the marks i and i + 1 -/
def rateAt (l : List Mk) (i : Nat) : Nat × Nat := match l[i]?, l[i + 1]? with
  | some a, some b => ((b.z - a.z).toNat, (b.t - a.t).toNat)
  | _, _ => (0, 0)
theorem rateAt_get (l : List Mk) (i : Nat) (h : i + 1 < l.length) : rateAt l i = ((l[i + 1].z - l[i].z).toNat, (l[i + 1].t - l[i].t).toNat) := by
  unfold rateAt
  rw [List.getElem?_eq_getElem h, List.getElem?_eq_getElem (show i < l.length by omega)]
/-- a rate of right marks -/
def RateOk (x : Nat × Nat) : Prop := (0 < x.1 ∧ x.1 ≤ 1000000000000) ∧ 0 < x.2 ∧ x.2 ≤ 1000000000000
theorem rateAt_ok {l : List Mk} (hok : ∀ x ∈ l, x.ok) (hs : Sorted l) (i : Nat) (h : i + 1 < l.length) : RateOk (rateAt l i) := by
  rw [rateAt_get l i h]
  obtain ⟨a, b⟩ := hs i h
  have x1 := hok _ (List.getElem_mem (show i < l.length by omega))
  have x2 := hok _ (List.getElem_mem h)
  unfold Mk.ok at x1 x2
  unfold RateOk
  simp only
  omega
def minQ (x y : Nat × Nat) : Nat × Nat := if lessQ y x then y else x
def maxQ (x y : Nat × Nat) : Nat × Nat := if lessQ x y then y else x
/-- the least and the greatest of the first rates -/
def leastTo (l : List Mk) : Nat → Nat × Nat
  | 0 => rateAt l 0
  | k + 1 => minQ (leastTo l k) (rateAt l k)
def mostTo (l : List Mk) : Nat → Nat × Nat
  | 0 => rateAt l 0
  | k + 1 => maxQ (mostTo l k) (rateAt l k)
theorem leastTo_ok {l : List Mk} (hok : ∀ x ∈ l, x.ok) (hs : Sorted l) (h2 : 2 ≤ l.length) : ∀ k, k + 1 ≤ l.length → RateOk (leastTo l k) ∧ RateOk (mostTo l k)
  | 0, _ => ⟨rateAt_ok hok hs 0 (by omega), rateAt_ok hok hs 0 (by omega)⟩
  | k + 1, h => by
    obtain ⟨a, b⟩ := leastTo_ok hok hs h2 k (by omega)
    have c := rateAt_ok hok hs k (by omega)
    constructor
    · show RateOk (minQ _ _); unfold minQ; split <;> assumption
    · show RateOk (maxQ _ _); unfold maxQ; split <;> assumption
theorem lessQ_self (x : Nat × Nat) : lessQ x x = false := by unfold lessQ; simp
theorem leastTo_one (l : List Mk) : leastTo l 1 = rateAt l 0 ∧ mostTo l 1 = rateAt l 0 := by
  constructor
  · show minQ (rateAt l 0) (rateAt l 0) = _; unfold minQ; rw [lessQ_self]; rfl
  · show maxQ (rateAt l 0) (rateAt l 0) = _; unfold maxQ; rw [lessQ_self]; rfl
/-- two products of 128 bits are compared half by half -/
theorem halves_lt (p q : Nat) : (p / 18446744073709551616 < q / 18446744073709551616 ∨ (p / 18446744073709551616 = q / 18446744073709551616 ∧ p % 18446744073709551616 < q % 18446744073709551616)) ↔ p < q := by omega
end Go.Proofs.Ytpccpkjfnmclfaa
