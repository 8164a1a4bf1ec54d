/- what going through codes does. -/
import Derived.Test.YteelepjhlhifhaaBase
import Derived.Test.YteelepjhlhifhaaBankMath
namespace Go.Proofs.Yteelepjhlhifhaa

/-- what was done: when, where, what it was, which bit -/
structure Scr where
  t : Nat
  p : Nat
  k : Nat
  b : Nat
/-- codes, where it goes on, what was done -/
structure St where
  C : List Nat
  next : Nat
  done : List Scr
/-- a code, mended if it can be -/
def mend (c : Nat) : Nat := if (kindN c).1 = 2 then c ^^^ 2 ^ ((kindN c).2 - 1) else c
def stepS (t : Nat) (s : St) : St :=
  ⟨s.C.set s.next (mend (s.C.getD s.next 0)), (s.next + 1) % s.C.length,
    if (kindN (s.C.getD s.next 0)).1 = 1 then s.done else s.done ++ [⟨t, s.next, (kindN (s.C.getD s.next 0)).1, (kindN (s.C.getD s.next 0)).2⟩]⟩
def scrubT (t : Nat) : Nat → St → St
  | 0, s => s
  | k + 1, s => stepS t (scrubT t k s)
/-- codes that are codes, and a place of theirs -/
structure St.ok (s : St) (n : Nat) : Prop where
  len : s.C.length = n
  next : s.next < n
  codes : ∀ k (h : k < s.C.length), s.C[k] < 4194304
theorem mend_lt (c : Nat) (h : c < 4194304) : mend c < 4194304 := by
  unfold mend
  split
  · rename_i hk
    have := kind_bit c hk
    exact flip_lt _ _ (by omega) h
  · exact h
theorem step_ok {s : St} {n t : Nat} (h : s.ok n) : (stepS t s).ok n := by
  have h1 := h.len
  have h2 := h.next
  refine ⟨by simpa [stepS] using h1, ?_, fun k hk => ?_⟩
  · simp only [stepS]
    rw [h1]
    exact Nat.mod_lt _ (by omega)
  · simp only [stepS] at hk ⊢
    rw [List.getElem_set]
    split
    · have e : s.C.getD s.next 0 = s.C[s.next]'(by omega) := by simp [List.getD, show s.next < s.C.length by omega]
      rw [e]
      exact mend_lt _ (h.codes _ _)
    · exact h.codes k (by simpa using hk)
theorem scrub_ok {s : St} {n t : Nat} (h : s.ok n) : ∀ k, (scrubT t k s).ok n
  | 0 => h
  | k + 1 => step_ok (scrub_ok h k)
theorem step_done (t : Nat) (s : St) : (stepS t s).done.length ≤ s.done.length + 1 := by
  simp only [stepS]
  split <;> simp
theorem scrub_done (t : Nat) (s : St) : ∀ k, (scrubT t k s).done.length ≤ s.done.length + k
  | 0 => Nat.le_refl _
  | k + 1 => by
    have := scrub_done t s k
    have := step_done t (scrubT t k s)
    simp only [scrubT]
    omega
theorem set_same (l : List Nat) (k : Nat) (hk : k < l.length) : l.set k (l.getD k 0) = l := by
  apply List.ext_getElem
  · simp
  · intro i h1 h2
    rw [List.getElem_set]
    split
    · rename_i e; subst e; simp [List.getD, hk]
    · rfl
theorem ints_set (l : List Nat) (k c : Nat) : (ints l).set k (c : Int) = ints (l.set k c) := by
  unfold ints
  rw [List.map_set]
end Go.Proofs.Yteelepjhlhifhaa
