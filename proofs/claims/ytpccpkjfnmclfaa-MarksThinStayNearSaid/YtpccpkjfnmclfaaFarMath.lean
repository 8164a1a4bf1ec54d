/- plain mathematics of farthest: the bounds so far say which slopes pass all marks so far closely enough. -/
import Derived.Test.YtpccpkjfnmclfaaThinMath
namespace Go.Proofs.Ytpccpkjfnmclfaa

/-- a slope, doubled, passes all the marks of p -/
def okQ (M : Nat) (s : Nat × Nat) (p : List (Nat × Nat)) : Bool := p.all fun y => !lessQ s (lowOf M y) && lessQ s (highOf M y)
def leB (M : Nat) (p : List (Nat × Nat)) : Nat × Nat := p.foldl (fun a y => maxQ a (lowOf M y)) (0, 1)
def liB (M : Nat) (p : List (Nat × Nat)) : Nat × Nat := p.foldl (fun a y => minQ a (highOf M y)) (1, 0)
theorem leB_snoc (M : Nat) (p : List (Nat × Nat)) (y : Nat × Nat) : leB M (p ++ [y]) = maxQ (leB M p) (lowOf M y) := by unfold leB; rw [List.foldl_append]; rfl
theorem liB_snoc (M : Nat) (p : List (Nat × Nat)) (y : Nat × Nat) : liB M (p ++ [y]) = minQ (liB M p) (highOf M y) := by unfold liB; rw [List.foldl_append]; rfl
theorem bounds_pos (M : Nat) : ∀ (n : Nat) (p : List (Nat × Nat)), p.length = n → (∀ y ∈ p, 0 < y.2) → 0 < (leB M p).2 ∧ (0 < (liB M p).2 ∨ liB M p = (1, 0))
  | 0, p, hn, _ => by
    rw [List.eq_nil_of_length_eq_zero hn]
    exact ⟨Nat.one_pos, .inr rfl⟩
  | n + 1, p, hn, hp => by
    have hne : p ≠ [] := by intro e; rw [e] at hn; simp at hn
    obtain ⟨q, y, rfl⟩ : ∃ q y, p = q ++ [y] := ⟨_, _, (List.dropLast_concat_getLast hne).symm⟩
    obtain ⟨a, b⟩ := bounds_pos M n q (by simpa using hn) (fun z hz => hp z (by simp [hz]))
    have hy := hp y (by simp)
    rw [leB_snoc, liB_snoc]
    constructor
    · unfold maxQ; split
      · exact hy
      · exact a
    · unfold minQ; split
      · exact .inl hy
      · exact b
theorem bounds_ok (M : Nat) {s : Nat × Nat} (hs : 0 < s.2) : ∀ (n : Nat) (p : List (Nat × Nat)), p.length = n → (∀ y ∈ p, 0 < y.2) → (!lessQ s (leB M p) && lessQ s (liB M p)) = okQ M s p
  | 0, p, hn, _ => by
    rw [List.eq_nil_of_length_eq_zero hn]
    unfold leB liB okQ lessQ
    simp
    exact hs
  | n + 1, p, hn, hp => by
    have hne : p ≠ [] := by intro e; rw [e] at hn; simp at hn
    obtain ⟨q, y, rfl⟩ : ∃ q y, p = q ++ [y] := ⟨_, _, (List.dropLast_concat_getLast hne).symm⟩
    have hq : ∀ z ∈ q, 0 < z.2 := fun z hz => hp z (by simp [hz])
    obtain ⟨a, b⟩ := bounds_pos M n q (by simpa using hn) hq
    have hy := hp y (by simp)
    have ih := bounds_ok M hs n q (by simpa using hn) hq
    have e : okQ M s (q ++ [y]) = (okQ M s q && (!lessQ s (lowOf M y) && lessQ s (highOf M y))) := by unfold okQ; rw [List.all_append]; simp
    rw [e, ← ih, leB_snoc, liB_snoc, less_max (s := s) a (show 0 < (lowOf M y).2 from hy), less_min hs (show 0 < (highOf M y).2 from hy) b]
    generalize lessQ s (leB M q) = p1
    generalize lessQ s (lowOf M y) = p2
    generalize lessQ s (liB M q) = p3
    generalize lessQ s (highOf M y) = p4
    cases p1 <;> cases p2 <;> cases p3 <;> cases p4 <;> rfl
/-- how far a line from the first mark reaches: the number of the last mark whose line passes all between; p are the marks so far -/
def farGo (M : Nat) : List (Nat × Nat) → Nat → List (Nat × Nat) → Nat
  | _, far, [] => far
  | p, far, x :: xs => farGo M (p ++ [x]) (if okQ M (2 * x.1, x.2) p then p.length + 1 else far) xs
end Go.Proofs.Ytpccpkjfnmclfaa
