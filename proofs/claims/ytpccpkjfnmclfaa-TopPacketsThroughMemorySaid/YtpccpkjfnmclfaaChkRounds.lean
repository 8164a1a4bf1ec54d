/- the walks of checkRounds and of the reference's ask. -/
import Derived.Test.YtpccpkjfnmclfaaRFlips
namespace Go.Proofs.Ytpccpkjfnmclfaa
open Go.RowKit

/-- what may be wrong with rounds whose flips are right, of numbers -/
theorem chkR_cases (l l' : List Int) (e m : Int) (f : List Flp) (u : Int) :
    (chkF l l' f ≠ 0 ∧ chkR l l' e m f u = chkF l l' f) ∨ (chkF l l' f = 0 ∧ ¬ (1 ≤ e ∧ e ≤ 1000000000000) ∧ chkR l l' e m f u = 1) ∨ (chkF l l' f = 0 ∧ (1 ≤ e ∧ e ≤ 1000000000000) ∧ ¬ (1 ≤ m ∧ m ≤ 5000) ∧ chkR l l' e m f u = 1) ∨
    (chkF l l' f = 0 ∧ (1 ≤ e ∧ e ≤ 1000000000000) ∧ (1 ≤ m ∧ m ≤ 5000) ∧ ¬ (0 ≤ u ∧ u ≤ 1000000000000) ∧ chkR l l' e m f u = 1) ∨
    (chkF l l' f = 0 ∧ ∃ E M U : Nat, e = (E : Int) ∧ m = (M : Int) ∧ u = (U : Int) ∧ (1 ≤ E ∧ E ≤ 1000000000000) ∧ (1 ≤ M ∧ M ≤ 5000) ∧ U ≤ 1000000000000 ∧ chkR l l' e m f u = if 1000000 < U / E * M then 2 else 0) := by
  unfold chkR
  by_cases h0 : chkF l l' f = 0
  · by_cases h1 : 1 ≤ e ∧ e ≤ 1000000000000
    · by_cases h2 : 1 ≤ m ∧ m ≤ 5000
      · by_cases h3 : 0 ≤ u ∧ u ≤ 1000000000000
        · refine .inr (.inr (.inr (.inr ⟨h0, e.toNat, m.toNat, u.toNat, by omega, by omega, by omega, by omega, by omega, by omega, ?_⟩)))
          rw [if_pos h0, if_pos ⟨h1, h2, h3⟩]
          have he : e = (e.toNat : Int) := by omega
          have hm : m = (m.toNat : Int) := by omega
          have hu : u = (u.toNat : Int) := by omega
          generalize e.toNat = E at *
          generalize m.toNat = M at *
          generalize u.toNat = U at *
          subst he hm hu
          have ec : ((U : Int) / (E : Int) * (M : Int)) = ((U / E * M : Nat) : Int) := by simp
          rw [ec]
          by_cases h4 : 1000000 < U / E * M
          · rw [if_pos h4, if_pos (by omega)]
          · rw [if_neg h4, if_neg (by omega)]
        · exact .inr (.inr (.inr (.inl ⟨h0, h1, h2, h3, by rw [if_pos h0, if_neg (fun q => h3 q.2.2)]⟩)))
      · exact .inr (.inr (.inl ⟨h0, h1, h2, by rw [if_pos h0, if_neg (fun q => h2 q.2.1)]⟩))
    · exact .inr (.inl ⟨h0, h1, by rw [if_pos h0, if_neg (fun q => h1 q.1)]⟩)
  · exact .inl ⟨h0, by rw [if_neg h0]⟩
theorem work_bits (U E M : Nat) (hM : M ≤ 5000) (hU : U ≤ 1000000000000) : decide ((1000000 : Int) < wrap64 (wrap64 ((U : Int) / (E : Int)) * (M : Int))) = decide (1000000 < U / E * M) := by
  have hq : U / E ≤ 1000000000000 := Nat.le_trans (Nat.div_le_self _ _) hU
  rw [← Int.natCast_ediv, wi64 _ (by omega)]
  generalize U / E = Q at *
  have hw : Q * M ≤ 1000000000000 * 5000 := Nat.mul_le_mul hq hM
  rw [← Int.natCast_mul, wi64 _ (by omega)]
  generalize Q * M = W at *
  by_cases h : 1000000 < W
  · rw [decide_eq_true h]; simp; omega
  · rw [decide_eq_false h]; simp; omega
theorem ask_bits (U E M : Nat) (hM0 : 1 ≤ M) (hU : U ≤ 1000000000000) : decide ((1000000 : Int) / (M : Int) < wrap64 ((U : Int) / (E : Int))) = decide (1000000 < U / E * M) := by
  have hq : U / E ≤ 1000000000000 := Nat.le_trans (Nat.div_le_self _ _) hU
  have e1 : ((1000000 : Int) / (M : Int)) = ((1000000 / M : Nat) : Int) := by simp
  rw [e1, ← Int.natCast_ediv U E, wi64 _ (by omega)]
  have key : 1000000 / M < U / E ↔ 1000000 < U / E * M := Nat.div_lt_iff_lt_mul (by omega)
  by_cases h : 1000000 < U / E * M
  · have := key.2 h
    rw [decide_eq_true h]; simp; omega
  · have := fun q => h (key.1 q)
    rw [decide_eq_false h]; simp; omega
end Go.Proofs.Ytpccpkjfnmclfaa
