/- plain mathematics of thinned marks: they are some of the marks, with the first and the last one, and their line is near at each mark. -/
import Derived.Test.YtpccpkjfnmclfaaFarSpec
namespace Go.Proofs.Ytpccpkjfnmclfaa

theorem rise_drop {l : List Mk} (h : Rise l) (m : Nat) : Rise (l.drop m) := fun i j hi hj => by
  have := h (m + i) (m + j) (by omega) (by simp at hj; omega)
  simpa using this
/-- the line from one mark to another is near at a mark -/
def NearM (M : Nat) (a b x : Mk) : Prop := x.z - M ≤ lineF a b x.t ∧ lineF a b x.t ≤ x.z + M
theorem thinG_step (M : Nat) (f : Nat) (a : Mk) (r : List Mk) (n : Nat) (hn : farI M (a :: r) = n + 1) (h : n < r.length) : thinG M (f + 1) (a :: r) = r[n] :: thinG M f (r[n] :: r.drop (n + 1)) := by
  have e : (a :: r).drop (n + 1) = r[n] :: r.drop (n + 1) := by rw [List.drop_succ_cons, List.drop_eq_getElem_cons h]
  conv => lhs; unfold thinG
  rw [if_pos (by simp; omega), hn, e]
/-- each mark lies between two neighbours of the thinned ones, and the line of these two is near -/
def Between (M : Nat) (a : Mk) (q : List Mk) (x : Mk) : Prop := ∃ (j : Nat) (h : j < q.length), ((a :: q)[j]'(by simp; omega)).t ≤ x.t ∧ x.t ≤ q[j].t ∧ NearM M ((a :: q)[j]'(by simp; omega)) q[j] x
theorem thin_all (M : Nat) : ∀ (f : Nat) (a : Mk) (r : List Mk), r.length ≤ f → Rise (a :: r) →
    (∀ y ∈ thinG M f (a :: r), y ∈ r) ∧ (a :: thinG M f (a :: r)).getLast? = (a :: r).getLast? ∧ (0 < r.length → 0 < (thinG M f (a :: r)).length ∧ ∀ x ∈ a :: r, Between M a (thinG M f (a :: r)) x)
  | 0, a, r, hf, _ => by
    have e : r = [] := List.eq_nil_of_length_eq_zero (by omega)
    subst e
    exact ⟨by simp [thinG], rfl, by simp⟩
  | f + 1, a, r, hf, hr => by
    by_cases h0 : 0 < r.length
    · obtain ⟨h1, h2⟩ := farI_lt M (a :: r) (by simp; omega)
      obtain ⟨n, hn⟩ : ∃ n, farI M (a :: r) = n + 1 := ⟨farI M (a :: r) - 1, by omega⟩
      obtain ⟨h, hnear⟩ := farI_near M a r hr n hn
      rw [thinG_step M f a r n hn h]
      have hd : (a :: r).drop (n + 1) = r[n] :: r.drop (n + 1) := by rw [List.drop_succ_cons, List.drop_eq_getElem_cons h]
      have hr2 := rise_drop hr (n + 1)
      rw [hd] at hr2
      obtain ⟨p1, p2, p3⟩ := thin_all M f r[n] (r.drop (n + 1)) (by simp; omega) hr2
      refine ⟨fun y hy => ?_, ?_, fun _ => ⟨by simp, fun x hx => ?_⟩⟩
      · rcases List.mem_cons.1 hy with rfl | hy
        · exact List.getElem_mem h
        · exact List.mem_of_mem_drop (p1 y hy)
      · rw [List.getLast?_cons_cons, p2, ← hd, List.getLast?_drop, if_neg (by simp; omega)]
      · obtain ⟨k, hk, rfl⟩ := List.getElem_of_mem hx
        by_cases hkn : k ≤ n + 1
        · refine ⟨0, by simp, ?_, ?_, hnear k hkn⟩
          · rcases Nat.eq_zero_or_pos k with rfl | hk0
            · exact Int.le_refl _
            · have := (hr 0 k hk0 hk).1
              simp only [List.getElem_cons_zero] at this ⊢
              omega
          · simp only [List.getElem_cons_zero]
            by_cases hke : k = n + 1
            · subst hke
              simp
            · have := (hr k (n + 1) (by omega) (by simp; omega)).1
              simp only [List.getElem_cons_succ] at this
              omega
        · have hl : 0 < (r.drop (n + 1)).length := by simp at hk ⊢; omega
          obtain ⟨m, hm⟩ : ∃ m, k = n + 1 + m := ⟨k - (n + 1), by omega⟩
          subst hm
          have hmem : (a :: r)[n + 1 + m] ∈ r[n] :: r.drop (n + 1) := by
            rw [← hd, List.mem_drop_iff_getElem]
            exact ⟨m, by omega, by simp only [Nat.add_comm]⟩
          obtain ⟨j, hj, q1, q2, q3⟩ := (p3 hl).2 _ hmem
          exact ⟨j + 1, by simp only [List.length_cons]; omega, q1, q2, q3⟩
    · have e : r = [] := List.eq_nil_of_length_eq_zero (by omega)
      subst e
      exact ⟨by simp [thinG], by simp [thinG], by simp⟩
end Go.Proofs.Ytpccpkjfnmclfaa
