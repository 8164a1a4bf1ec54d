/- the walk of the reference's play. -/
import Derived.Test.YtpccpkjfnmclfaaRScrub
import Derived.Test.YtpccpkjfnmclfaaRounds
import Derived.Test.YtpccpkjfnmclfaaRFlippedB
namespace Go.Proofs.Ytpccpkjfnmclfaa
open Go.RowKit
attribute [local go_sem] msetCell_draws malloc_draws

/-- what was done before stands before what is done -/
theorem scrub_split (t : Nat) (C : List Nat) (x : Nat) (D : List Scr) : ∀ k, (scrubT t k ⟨C, x, D⟩).C = (scrubT t k ⟨C, x, []⟩).C ∧ (scrubT t k ⟨C, x, D⟩).next = (scrubT t k ⟨C, x, []⟩).next ∧ (scrubT t k ⟨C, x, D⟩).done = D ++ (scrubT t k ⟨C, x, []⟩).done
  | 0 => ⟨rfl, rfl, by simp [scrubT]⟩
  | k + 1 => by
    obtain ⟨h1, h2, h3⟩ := scrub_split t C x D k
    simp only [scrubT, stepS, h1, h2, h3]
    refine ⟨trivial, trivial, ?_⟩
    split
    · rfl
    · rw [List.append_assoc]
theorem flipU_here {u : Int} {C : List Nat} {f : List Flp} {k : Nat} (h : ∀ (hk : k < f.length), ¬ f[k].t ≤ u) : flipU u C (f.drop k) = (C, f.drop k) := by
  by_cases hk : k < f.length
  · rw [List.drop_eq_getElem_cons hk]
    simp [flipU, h hk]
  · rw [List.drop_eq_nil_of_le (by omega)]
    rfl
theorem flipU_next {u : Int} {C : List Nat} {f : List Flp} {k : Nat} (hk : k < f.length) (h : f[k].t ≤ u) : flipU u C (f.drop k) = flipU u (flipC C f[k]) (f.drop (k + 1)) := by
  rw [List.drop_eq_getElem_cons hk]
  simp [flipU, h]
theorem OwnS.loose {w : World} {base : Nat} {v : Value} {l : List Scr} (h : OwnS w base v l) : ∃ A c, v = .slice A l.length c ∧ SR w w.heap.size A l := by
  obtain ⟨A, c, e, h1, -⟩ := h.form
  exact ⟨A, c, e, h1⟩
end Go.Proofs.Ytpccpkjfnmclfaa
