/- plain mathematics of marks: what CheckMarks says. -/
import Derived.WalkKit
namespace Go.Proofs.Ytpccpkjfnmclfaa

/-- a mark: its tick, its time, its off -/
structure Mk where
  t : Int
  z : Int
  o : Int
deriving DecidableEq
/-- its numbers are in their ranges -/
def Mk.ok (x : Mk) : Prop := (0 ≤ x.t ∧ x.t ≤ 1000000000000) ∧ (0 ≤ x.z ∧ x.z ≤ 1000000000000) ∧ (0 ≤ x.o ∧ x.o ≤ 1000000000)
instance (x : Mk) : Decidable x.ok := by unfold Mk.ok; infer_instance
/-- a mark behind another one -/
def Mk.lt (p x : Mk) : Prop := p.t < x.t ∧ p.z < x.z
instance (p x : Mk) : Decidable (p.lt x) := by unfold Mk.lt; infer_instance
/-- marks one behind the other, behind p (if there is one) -/
def ckL : Option Mk → List Mk → Int
  | _, [] => 0
  | none, x :: xs => if x.ok then ckL (some x) xs else 1
  | some p, x :: xs => if x.ok then (if p.lt x then ckL (some x) xs else 8) else 1
def ckM (l : List Mk) : Int := if l.length = 0 then 9 else if 2000 < l.length then 2 else ckL none l
theorem mdrop_one (l : List Mk) (k : Nat) (h : k < l.length) : l.drop k = l[k] :: l.drop (k + 1) := List.drop_eq_getElem_cons h
theorem ckL_bad (p : Option Mk) (x : Mk) (xs : List Mk) (h : ¬ x.ok) : ckL p (x :: xs) = 1 := by
  cases p <;> simp [ckL, h]
theorem ckL_first (x : Mk) (xs : List Mk) (h : x.ok) : ckL none (x :: xs) = ckL (some x) xs := by simp [ckL, h]
theorem ckL_next (p x : Mk) (xs : List Mk) (h : x.ok) (hl : p.lt x) : ckL (some p) (x :: xs) = ckL (some x) xs := by simp [ckL, h, hl]
theorem ckL_order (p x : Mk) (xs : List Mk) (h : x.ok) (hl : ¬ p.lt x) : ckL (some p) (x :: xs) = 8 := by simp [ckL, h, hl]
/-- what marks that pass are -/
theorem ckL_ok : ∀ (l : List Mk) (p : Option Mk), ckL p l = 0 → (∀ x ∈ l, x.ok) ∧ (∀ q, p = some q → ∀ x, l.head? = some x → q.lt x) ∧ ∀ (i : Nat) (h : i + 1 < l.length), l[i].lt l[i + 1]
  | [], p => by simp
  | x :: xs, p => by
    intro h
    by_cases hx : x.ok
    · have key : ckL (some x) xs = 0 ∧ (∀ q, p = some q → q.lt x) := by
        cases p with
        | none => rw [ckL_first x xs hx] at h; exact ⟨h, by simp⟩
        | some q =>
          by_cases hq : q.lt x
          · rw [ckL_next q x xs hx hq] at h; exact ⟨h, by simpa using hq⟩
          · rw [ckL_order q x xs hx hq] at h; simp at h
      obtain ⟨a, b, c⟩ := ckL_ok xs (some x) key.1
      refine ⟨by simpa using ⟨hx, a⟩, ?_, ?_⟩
      · intro q hq y hy
        simp at hy
        subst hy
        exact key.2 q hq
      · intro i hi
        match i with
        | 0 =>
          have := b x rfl (xs[0]'(by simp at hi; omega)) (by rw [List.head?_eq_getElem?]; exact List.getElem?_eq_getElem _)
          simpa using this
        | i + 1 =>
          have := c i (by simp at hi ⊢; omega)
          simpa using this
    · rw [ckL_bad p x xs hx] at h; simp at h
theorem ckM_ok (l : List Mk) (h : ckM l = 0) : 0 < l.length ∧ l.length ≤ 2000 ∧ (∀ x ∈ l, x.ok) ∧ ∀ (i : Nat) (h : i + 1 < l.length), l[i].lt l[i + 1] := by
  unfold ckM at h
  split at h
  · simp at h
  split at h
  · simp at h
  obtain ⟨a, _, c⟩ := ckL_ok l none h
  exact ⟨by omega, by omega, a, c⟩
end Go.Proofs.Ytpccpkjfnmclfaa
