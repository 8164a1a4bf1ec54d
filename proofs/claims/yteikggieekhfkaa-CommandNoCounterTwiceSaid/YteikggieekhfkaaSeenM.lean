/- counters that were seen: plain mathematics. -/
import Derived.Test.YteikggieekhfkaaSrch
namespace Go.Proofs.Yteikggieekhfkaa
open Go.RowKit

/-- what Least becomes, and what is left -/
def strip : Int → List Int → Int × List Int
  | least, [] => (least, [])
  | least, n :: l => if n = least then strip (least + 1) l else (least, n :: l)
def seenS (least : Int) (l : List Int) (n : Int) : Int × List Int := strip least (insL l (place l n) n)
theorem strip_step (least : Int) (L : List Int) (j : Nat) (hj : j < L.length) : strip least (L.drop j) = if L[j] = least then strip (least + 1) (L.drop (j + 1)) else (least, L.drop j) := by
  rw [List.drop_eq_getElem_cons hj]
  rfl
theorem strip_end (least : Int) (L : List Int) (j : Nat) (hj : L.length ≤ j) : strip least (L.drop j) = (least, []) := by
  rw [List.drop_of_length_le hj]
  rfl
theorem IR.tail1 {w : World} {B : Nat} {ad : Addr} {l : List Int} {c : Nat} (h : IR w B (some ad) l) (hc : l.length ≤ c) : IR w B (if c = 1 then some ad else some (ad.add 1)) (l.drop 1) := by
  by_cases e : 1 < l.length
  · rw [if_neg (by omega)]
    obtain ⟨ad', e', h4⟩ := Cells.tail h 1 (by simpa using e)
    obtain rfl : ad = ad' := by injection e'
    unfold IR
    rw [List.map_drop]
    exact h4
  · rw [List.drop_of_length_le (by omega)]
    exact .inl rfl
theorem OwnI.form2 {w : World} {base : Nat} {v : Value} {l : List Int} (h : OwnI w base v l) : ∃ A c, v = .slice A l.length c ∧ IR w w.heap.size A l ∧ l.length ≤ c ∧ c ≤ maxLen ∧ (A = none → c = 0) ∧ ∀ ad, A = some ad → base ≤ ad.block := by
  obtain ⟨A, c, e, hr⟩ := h.form
  subst e
  refine ⟨A, c, rfl, hr, ?_⟩
  rcases h.2 with ⟨e1, h0⟩ | ⟨g, cap, cur, e1, hb, hg, hnc, hcm, -⟩
  · injection e1 with e1 e2 e3
    subst e1 e3
    exact ⟨by omega, by simp [maxLen], fun _ => rfl, fun ad e => by cases e⟩
  · injection e1 with e1 e2 e3
    subst e1 e3
    exact ⟨hnc, hcm, (fun e => by cases e), fun ad e => by injection e with e; subst e; exact hb⟩
end Go.Proofs.Yteikggieekhfkaa
