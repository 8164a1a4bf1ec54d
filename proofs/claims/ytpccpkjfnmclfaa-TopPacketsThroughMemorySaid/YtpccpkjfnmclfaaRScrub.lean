/- the walk of the reference's scrub. -/
import Derived.Test.YtpccpkjfnmclfaaScrubW
import Derived.Test.YtpccpkjfnmclfaaBase
import Derived.Test.YtpccpkjfnmclfaaRFlippedB
namespace Go.Proofs.Ytpccpkjfnmclfaa
open Go.RowKit
attribute [local go_sem] msetCell_draws malloc_draws

theorem scrub_next {s : St} {n t : Nat} (h : s.ok n) : ∀ j, (scrubT t j s).next = (s.next + j) % n
  | 0 => by rw [Nat.add_zero, Nat.mod_eq_of_lt h.next]; rfl
  | j + 1 => by
    have ih := scrub_next h (t := t) j
    have hl := (scrub_ok h (t := t) j).len
    simp only [scrubT, stepS, hl, ih]
    rw [← Nat.add_assoc, Nat.mod_add_mod]
/-- what the reference's scrub leaves -/
def RScrubAt (Q g n cap g' cap' n' : Nat) (s : St) (v : Value) (w w' : World) : Prop :=
  HeldB w' Q (.slice (some ⟨g, 0, none⟩) n cap) (.slice (some ⟨g', 0, none⟩) n' cap') ∧ RowAt w' g cap (ints s.C) ∧ OwnS w' (Q + 1) v s.done ∧ Kept Q g w w'
end Go.Proofs.Ytpccpkjfnmclfaa
