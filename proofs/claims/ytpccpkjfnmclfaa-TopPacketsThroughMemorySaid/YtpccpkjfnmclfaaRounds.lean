/- the walk of the program's Rounds. -/
import Derived.Test.YtpccpkjfnmclfaaRun
import Derived.Test.YtpccpkjfnmclfaaChkRounds
import Derived.Test.YtpccpkjfnmclfaaScrubbed
namespace Go.Proofs.Ytpccpkjfnmclfaa
open Go.RowKit
attribute [local go_sem] msetCell_draws malloc_draws

theorem chk_nums {l l' : List Int} {e m u : Int} {f : List Flp} (h : chkR l l' e m f u = 0) : ∃ E M U : Nat, e = (E : Int) ∧ m = (M : Int) ∧ u = (U : Int) ∧ (1 ≤ E ∧ E ≤ 1000000000000) ∧ (1 ≤ M ∧ M ≤ 5000) ∧ U ≤ 1000000000000 ∧ U / E * M ≤ 1000000 ∧ Right l l' ∧ f.length ≤ 2000 ∧ ∀ x ∈ f, x.ok l.length := by
  obtain ⟨h1, h2, h3, h4, h5⟩ := chkR_right h
  obtain ⟨r1, r2, r3⟩ := chkF_right h1
  refine ⟨e.toNat, m.toNat, u.toNat, by omega, by omega, by omega, by omega, by omega, by omega, ?_, r1, r2, r3⟩
  have he : e = (e.toNat : Int) := by omega
  have hm : m = (m.toNat : Int) := by omega
  have hu : u = (u.toNat : Int) := by omega
  rw [he, hm, hu] at h5
  generalize e.toNat = E at *
  generalize m.toNat = M at *
  generalize u.toNat = U at *
  have ec : ((U : Int) / (E : Int) * (M : Int)) = ((U / E * M : Nat) : Int) := by simp
  rw [ec] at h5
  omega
end Go.Proofs.Ytpccpkjfnmclfaa
