/- what Written, Flipped and ReadAt answer. -/
import Derived.Test.YteelepjhlhifhaaBase
import Derived.Test.YteelepjhlhifhaaBankMath
namespace Go.Proofs.Yteelepjhlhifhaa

def placeS (l l' : List Int) (a : Int) : Int := if chkB l l' = 0 then (if 0 ≤ a ∧ a ≤ (l.length : Int) - 1 then 0 else 9) else chkB l l'
def writtenS (l l' : List Int) (a z : Int) : (List Int × List Int) × Int :=
  if placeS l l' a = 0 then (if 0 ≤ z ∧ z ≤ 65535 then ((l.set a.toNat ((codeN z.toNat : Nat) : Int), l'.set a.toNat z), 0) else (([], []), 1)) else (([], []), placeS l l' a)
/-- a code with a bit, from 1 on, flipped -/
def flipZ (c b : Int) : Int := ((c.toNat ^^^ 2 ^ (b.toNat - 1) : Nat) : Int)
def flippedS (l l' : List Int) (a b : Int) : (List Int × List Int) × Int :=
  if placeS l l' a = 0 then (if 1 ≤ b ∧ b ≤ 22 then ((l.set a.toNat (flipZ (l.getD a.toNat 0) b), l'), 0) else (([], []), 1)) else (([], []), placeS l l' a)
def readS (l l' : List Int) (a : Int) : Int × Int × Int := if placeS l l' a = 0 then decS (l.getD a.toNat 0) else (0, 0, placeS l l' a)
theorem place_cases (l l' : List Int) (a : Int) : (chkB l l' = 0 ∧ (0 ≤ a ∧ a ≤ (l.length : Int) - 1) ∧ placeS l l' a = 0) ∨ (chkB l l' = 0 ∧ ¬ (0 ≤ a ∧ a ≤ (l.length : Int) - 1) ∧ placeS l l' a = 9) ∨ (chkB l l' ≠ 0 ∧ placeS l l' a = chkB l l') := by
  unfold placeS
  by_cases h1 : chkB l l' = 0
  · by_cases h2 : 0 ≤ a ∧ a ≤ (l.length : Int) - 1
    · exact .inl ⟨h1, h2, by rw [if_pos h1, if_pos h2]⟩
    · exact .inr (.inl ⟨h1, h2, by rw [if_pos h1, if_neg h2]⟩)
  · exact .inr (.inr ⟨h1, by rw [if_neg h1]⟩)
theorem place_right {l l' : List Int} {a : Int} (h : placeS l l' a = 0) : Right l l' ∧ ∃ k : Nat, a = (k : Int) ∧ k < l.length := by
  rcases place_cases l l' a with ⟨h1, h2, _⟩ | ⟨_, _, h3⟩ | ⟨h1, h3⟩
  · have hr := chk_right h1
    have := hr.pos
    exact ⟨hr, a.toNat, by omega, by omega⟩
  · omega
  · omega
end Go.Proofs.Yteelepjhlhifhaa
