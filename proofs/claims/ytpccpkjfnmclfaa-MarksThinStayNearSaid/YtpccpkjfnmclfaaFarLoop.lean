/- plain mathematics of farthest's loop: what one round more does. -/
import Derived.Test.YtpccpkjfnmclfaaFarSpec
namespace Go.Proofs.Ytpccpkjfnmclfaa

theorem far_snoc (M : Nat) (x : Nat × Nat) : ∀ (xs p : List (Nat × Nat)) (far : Nat), farGo M p far (xs ++ [x]) = if okQ M (2 * x.1, x.2) (p ++ xs) = true then p.length + xs.length + 1 else farGo M p far xs
  | [], p, far => by simp [farGo]
  | y :: xs, p, far => by
    have ih := far_snoc M x xs (p ++ [y]) (if okQ M (2 * y.1, y.2) p = true then p.length + 1 else far)
    have e1 : farGo M p far (y :: xs ++ [x]) = farGo M (p ++ [y]) (if okQ M (2 * y.1, y.2) p = true then p.length + 1 else far) (xs ++ [x]) := rfl
    have e2 : farGo M p far (y :: xs) = farGo M (p ++ [y]) (if okQ M (2 * y.1, y.2) p = true then p.length + 1 else far) xs := rfl
    rw [e1, ih, e2]
    have e3 : p ++ [y] ++ xs = p ++ y :: xs := by simp
    have e4 : (p ++ [y]).length + xs.length + 1 = p.length + (y :: xs).length + 1 := by simp; omega
    rw [e3, e4]
/-- the marks behind the first one, counted from it -/
def relL (a : Mk) (r : List Mk) : List (Nat × Nat) := r.map (relM a)
theorem rel_take (a : Mk) (r : List Mk) (k : Nat) (h : k < r.length) : (relL a r).take (k + 1) = (relL a r).take k ++ [relM a r[k]] := by
  unfold relL
  rw [List.take_succ_eq_append_getElem (by simpa using h)]
  simp
/-- a round of the loop: far, least, limit -/
theorem far_round (M : Nat) (a : Mk) (r : List Mk) (k : Nat) (h : k < r.length) (hpos : ∀ y ∈ relL a r, 0 < y.2) :
    farGo M [] 0 ((relL a r).take (k + 1)) = (if (!lessQ (2 * (relM a r[k]).1, (relM a r[k]).2) (leB M ((relL a r).take k)) && lessQ (2 * (relM a r[k]).1, (relM a r[k]).2) (liB M ((relL a r).take k))) = true then k + 1 else farGo M [] 0 ((relL a r).take k)) ∧
    leB M ((relL a r).take (k + 1)) = maxQ (leB M ((relL a r).take k)) (lowOf M (relM a r[k])) ∧
    liB M ((relL a r).take (k + 1)) = minQ (liB M ((relL a r).take k)) (highOf M (relM a r[k])) := by
  have hp : ∀ y ∈ (relL a r).take k, 0 < y.2 := fun y hy => hpos y (List.mem_of_mem_take hy)
  have hx : 0 < (relM a r[k]).2 := hpos _ (List.mem_map.2 ⟨r[k], List.getElem_mem h, rfl⟩)
  rw [rel_take a r k h, far_snoc, leB_snoc, liB_snoc, bounds_ok M (s := (2 * (relM a r[k]).1, (relM a r[k]).2)) hx _ _ rfl hp, List.nil_append]
  refine ⟨?_, rfl, rfl⟩
  have e : ([] : List (Nat × Nat)).length + ((relL a r).take k).length + 1 = k + 1 := by
    rw [List.length_take, relL, List.length_map]
    simp
    omega
  rw [e]
/-- the bounds are not too great -/
theorem bounds_le {M : Nat} (hM : M ≤ 1000000000) : ∀ (n : Nat) (p : List (Nat × Nat)), p.length = n → (∀ y ∈ p, y.1 ≤ 1000000000000 ∧ y.2 ≤ 1000000000000) → ((leB M p).1 ≤ 3000000000000 ∧ (leB M p).2 ≤ 1000000000000) ∧ ((liB M p).1 ≤ 3000000000000 ∧ (liB M p).2 ≤ 1000000000000)
  | 0, p, hn, _ => by
    rw [List.eq_nil_of_length_eq_zero hn]
    unfold leB liB
    simp
  | n + 1, p, hn, hp => by
    have hne : p ≠ [] := by intro e; rw [e] at hn; simp at hn
    obtain ⟨q, y, rfl⟩ : ∃ q y, p = q ++ [y] := ⟨_, _, (List.dropLast_concat_getLast hne).symm⟩
    obtain ⟨a, b⟩ := bounds_le hM n q (by simpa using hn) (fun z hz => hp z (by simp [hz]))
    have hy := hp y (by simp)
    rw [leB_snoc, liB_snoc]
    unfold maxQ minQ lowOf highOf
    constructor
    · split
      · simp only; omega
      · exact a
    · split
      · simp only; omega
      · exact b
end Go.Proofs.Ytpccpkjfnmclfaa
