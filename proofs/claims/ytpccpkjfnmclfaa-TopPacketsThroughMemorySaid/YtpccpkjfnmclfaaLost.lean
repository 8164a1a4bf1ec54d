/- the places whose words are lost: the walk of the program's Lost. -/
import Derived.Test.YtpccpkjfnmclfaaRounds
import Derived.Test.YtpccpkjfnmclfaaScrubW
import Derived.Test.YtpccpkjfnmclfaaBase
namespace Go.Proofs.Ytpccpkjfnmclfaa
open Go.RowKit
attribute [local go_sem] msetCell_draws malloc_draws

/-- the places among the first k whose codes are not read -/
def lostT (l : List Int) : Nat → List Int
  | 0 => []
  | k + 1 => if (decS (l.getD k 0)).2.2 = 0 then lostT l k else lostT l k ++ [(k : Int)]
theorem lostT_len (l : List Int) : ∀ k, (lostT l k).length ≤ k
  | 0 => Nat.le_refl _
  | k + 1 => by
    have := lostT_len l k
    unfold lostT
    split <;> simp <;> omega
/-- what a list of places leaves -/
def PlacesPost (r : List Int × Int) (w : World) (e : Ending) (w' : World) : Prop :=
  ∃ D k, e = .returned (.tuple #[.slice D r.1.length k, .int .i64 r.2]) ∧ IR w' w'.heap.size D r.1 ∧ Below w.heap.size w w'
theorem roundsS_lens (l l' : List Int) (e m : Int) (f : List Flp) (u : Int) :
    (roundsS l l' e m f u).1.1.length ≤ 1048576 ∧ (roundsS l l' e m f u).1.2.length = (roundsS l l' e m f u).1.1.length := by
  unfold roundsS
  by_cases h1 : chkR l l' e m f u = 0
  · rw [if_pos h1]
    obtain ⟨E, M, U, rfl, rfl, rfl, hE, hM, hU, hwk, hr, hf2, hok⟩ := chk_nums h1
    have hOK := right_ok hr 0 hr.pos []
    have h3 : (runEnd E M U ⟨nats l, 0, []⟩ f).C.length = l.length := (flipU_ok _ _ _ (run_ok hOK hok _).1 (run_ok hOK hok _).2).1.len
    have h4 := hr.same
    have h5 := hr.few
    simp only [Int.toNat_natCast, ints_len]
    omega
  · rw [if_neg h1]
    simp

end Go.Proofs.Ytpccpkjfnmclfaa
