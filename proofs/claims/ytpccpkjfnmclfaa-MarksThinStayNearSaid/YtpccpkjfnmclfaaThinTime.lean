/- plain mathematics of thinned marks: what their lines say at the tick of any of the marks is near its time. -/
import Derived.Test.YtpccpkjfnmclfaaThinSpec
namespace Go.Proofs.Ytpccpkjfnmclfaa

theorem sorted_rise {l : List Mk} (h : Sorted l) : Rise l := fun i j hi hj => h.lt j i hj hi
theorem sorted_pair {l : List Mk} (h : Sorted l) : l.Pairwise Mk.lt := List.pairwise_iff_getElem.2 fun i j _ hj hij => h.lt j i hj hij
theorem pair_sorted {l : List Mk} (h : l.Pairwise Mk.lt) : Sorted l := fun i hi => List.pairwise_iff_getElem.1 h i (i + 1) (by omega) hi (by omega)
theorem thin_sub (M : Nat) : ∀ (f : Nat) (a : Mk) (r : List Mk), (thinG M f (a :: r)).Sublist r
  | 0, a, r => by simp [thinG]
  | f + 1, a, r => by
    by_cases h0 : 0 < r.length
    · obtain ⟨h1, h2⟩ := farI_lt M (a :: r) (by simp; omega)
      obtain ⟨n, hn⟩ : ∃ n, farI M (a :: r) = n + 1 := ⟨farI M (a :: r) - 1, by omega⟩
      have h : n < r.length := by simp at h2; omega
      rw [thinG_step M f a r n hn h]
      have := (thin_sub M f r[n] (r.drop (n + 1))).cons_cons r[n]
      refine this.trans ?_
      rw [← List.drop_eq_getElem_cons h]
      exact List.drop_sublist n r
    · have e : r = [] := List.eq_nil_of_length_eq_zero (by omega)
      subst e
      simp [thinG]
theorem thin_sorted {M f : Nat} {a : Mk} {r : List Mk} (h : Sorted (a :: r)) : Sorted (a :: thinG M f (a :: r)) :=
  pair_sorted ((sorted_pair h).sublist ((thin_sub M f a r).cons_cons a))
theorem between_time {M : Nat} {a : Mk} {q : List Mk} {y : Mk} {v : Int} (hs : Sorted (a :: q)) (h : Between M a q y) (ht : TimeP (a :: q) y.t v) : y.z - M ≤ v ∧ v ≤ y.z + M := by
  obtain ⟨j, hj, h1, h2, h3, h4⟩ := h
  by_cases hb : j + 2 = (a :: q).length ∨ y.t < q[j].t
  · have hseg : Seg (a :: q) y.t (j + 1) := ⟨by simp; omega, by omega, .inr (by simpa using h1), by simpa using hb⟩
    have := TimeP.unique hs ht ⟨j + 1, hseg, rfl⟩
    rw [this]
    exact ⟨h3, h4⟩
  · have hyt : y.t = q[j].t := by omega
    have e : (a :: q)[j + 1]'(by simp; omega) = q[j] := rfl
    rw [hyt] at ht
    have hm := TimeP.mark hs (i := j + 1) (by simp; omega) ht
    have hlt := (hs.lt (j + 1) j (by simp; omega) (by omega)).1
    rw [e] at hm hlt
    rw [hyt, line_second hlt] at h3 h4
    rw [hm]
    exact ⟨h3, h4⟩
end Go.Proofs.Ytpccpkjfnmclfaa
