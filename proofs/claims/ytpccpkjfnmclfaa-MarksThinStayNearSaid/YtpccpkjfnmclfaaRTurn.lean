/- the reference's counters: Unrolled, Rolled. -/
import Derived.Test.YtpccpkjfnmclfaaTurn
import Derived.Deep.Draws
namespace Go.Proofs.Ytpccpkjfnmclfaa
open Go.RowKit

theorem OwnI.get {w : World} {base : Nat} {v : Value} {l : List Int} (h : OwnI w base v l) (k : Nat) (hk : k < l.length) : ∃ ad c, v = .slice (some ad) l.length c ∧ w.cell? (ad.add k) = some (.int .i64 l[k]) := by
  obtain ⟨A, c, rfl, hI⟩ := h.form
  obtain ⟨ad, rfl, -, hc⟩ := hI.get k hk
  exact ⟨ad, c, rfl, hc⟩
theorem OwnI.drawn {w : World} {base : Nat} {v : Value} {l : List Int} (h : OwnI w base v l) (n : Nat) : OwnI (w.drewN n) base v l := h.after (below_draws (Below.refl w.heap.size w) n) (Nat.le_refl _)
/-- the head of the reference's loop -/
def RTurnAt (R : Int) (l : List Int) (w : World) (v i : Value) (wr : World) : Prop :=
  ∃ (k : Nat) (t : Int) (acc : List Int), k ≤ l.length ∧ i = .int .i64 k ∧ OwnI wr w.heap.size v acc ∧ acc.length = k ∧ 0 ≤ t ∧ t ≤ 1000000000000 ∧ (k = 0 → t = 0) ∧ acc.getLastD 0 = t ∧ Below w.heap.size w wr ∧ turnG (stepU R) t acc (l.drop k) = turnG (stepU R) 0 [] l
theorem last_at (acc : List Int) (k : Nat) (h : acc.length = k) (hk : 0 < k) : acc.getLastD 0 = acc[k - 1] := by
  subst h
  rw [List.getLastD_eq_getLast?, List.getLast?_eq_getElem?, List.getElem?_eq_getElem (by omega)]
  rfl

/-- the head of the reference's loop -/
def RRollAt (R : Int) (l : List Int) (w : World) (v i : Value) (wr : World) : Prop :=
  ∃ (k : Nat) (t : Int) (acc : List Int), k ≤ l.length ∧ i = .int .i64 k ∧ OwnI wr w.heap.size v acc ∧ acc.length = k ∧ (k = 0 → t = 0) ∧ (0 < k → l[k - 1]? = some t) ∧ Below w.heap.size w wr ∧ turnG (stepR R) t acc (l.drop k) = turnG (stepR R) 0 [] l

end Go.Proofs.Ytpccpkjfnmclfaa
