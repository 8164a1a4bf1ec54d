/- plain mathematics of names. -/
import Derived.Test.YtldfommfaegdiaaWords
namespace Go.Proofs.Ytldfommfaegdiaa

/-- a small letter; a byte of a name -/
def smB (n : Nat) : Bool := decide (97 ≤ n ∧ n ≤ 122)
def okB (n : Nat) : Bool := smB n || (decide (48 ≤ n ∧ n ≤ 57) || (n == 45 || n == 95))
/-- a name -/
def isN (l : List UInt8) : Bool := decide (1 ≤ l.length ∧ l.length ≤ 40) && (smB (l.getD 0 0).toNat && l.all fun c => okB c.toNat)
theorem isN_nil : isN [] = false := rfl
theorem isN_long {l : List UInt8} (h : 40 < l.length) : isN l = false := by unfold isN; rw [decide_eq_false (by omega)]; rfl
theorem isN_first {l : List UInt8} (h : smB (l.getD 0 0).toNat = false) : isN l = false := by unfold isN; rw [h]; simp
theorem isN_bad {l : List UInt8} (k : Nat) (hk : k < l.length) (h : okB l[k].toNat = false) : isN l = false := by
  unfold isN
  have : l.all (fun c => okB c.toNat) = false := by
    rw [Bool.eq_false_iff]
    intro ha
    have := List.all_eq_true.1 ha _ (List.getElem_mem hk)
    rw [h] at this
    cases this
  rw [this]; simp
theorem isN_yes {l : List UInt8} (h1 : 1 ≤ l.length) (h2 : l.length ≤ 40) (hs : smB (l.getD 0 0).toNat = true) (h : ∀ k (hk : k < l.length), okB l[k].toNat = true) : isN l = true := by
  unfold isN
  rw [decide_eq_true ⟨h1, h2⟩, hs]
  simp only [Bool.true_and]
  rw [List.all_eq_true]
  intro c hc
  obtain ⟨k, hk, rfl⟩ := List.getElem_of_mem hc
  exact h k hk
theorem ok_small {n : Nat} (h : smB n = true) : okB n = true := by unfold okB; rw [h]; rfl
end Go.Proofs.Ytldfommfaegdiaa
