/- plain mathematics of thinned marks: how far a line reaches, and that it is near at each mark that it passes. -/
import Derived.Test.YtpccpkjfnmclfaaFarMath
import Derived.Test.YtpccpkjfnmclfaaLineMath
namespace Go.Proofs.Ytpccpkjfnmclfaa

theorem far_go (M : Nat) : ∀ (xs p : List (Nat × Nat)) (far : Nat), far ≤ p.length →
    far ≤ farGo M p far xs ∧ farGo M p far xs ≤ p.length + xs.length ∧ (farGo M p far xs = far ∨ ∃ (i : Nat) (h : i < xs.length), farGo M p far xs = p.length + i + 1 ∧ okQ M (2 * xs[i].1, xs[i].2) (p ++ xs.take i) = true)
  | [], p, far, h => ⟨Nat.le_refl _, by simp [farGo]; exact h, .inl rfl⟩
  | x :: xs, p, far, h => by
    unfold farGo
    by_cases ho : okQ M (2 * x.1, x.2) p = true
    · rw [if_pos ho]
      obtain ⟨a, b, c⟩ := far_go M xs (p ++ [x]) (p.length + 1) (by simp)
      refine ⟨by omega, by simp at b ⊢; omega, .inr ?_⟩
      rcases c with c | ⟨i, hi, c, d⟩
      · exact ⟨0, by simp, by rw [c], by simpa using ho⟩
      · refine ⟨i + 1, by simp; omega, by rw [c]; simp; omega, ?_⟩
        simpa using d
    · rw [if_neg ho]
      obtain ⟨a, b, c⟩ := far_go M xs (p ++ [x]) far (by simp; omega)
      refine ⟨a, by simp at b ⊢; omega, ?_⟩
      rcases c with c | ⟨i, hi, c, d⟩
      · exact .inl c
      · refine .inr ⟨i + 1, by simp; omega, by rw [c]; simp; omega, ?_⟩
        simpa using d
/-- a mark, counted from the first one: its time, its tick -/
def relM (a x : Mk) : Nat × Nat := ((x.z - a.z).toNat, (x.t - a.t).toNat)
/-- how far the line from the first mark reaches -/
def farI (M : Nat) : List Mk → Nat
  | [] => 0
  | a :: r => farGo M [] 0 (r.map (relM a))
theorem farI_lt (M : Nat) : ∀ (l : List Mk), 1 < l.length → 1 ≤ farI M l ∧ farI M l < l.length
  | [], h => by simp at h
  | [a], h => by simp at h
  | a :: x :: r, _ => by
    have e : farI M (a :: x :: r) = farGo M ([] ++ [relM a x]) 1 (r.map (relM a)) := by
      show farGo M [] 0 (relM a x :: r.map (relM a)) = _
      conv => lhs; unfold farGo
      rw [if_pos (by unfold okQ; rfl)]
      rfl
    obtain ⟨p, q, -⟩ := far_go M (r.map (relM a)) ([] ++ [relM a x]) 1 (by simp)
    rw [e]
    simp at p q ⊢
    omega
theorem farI_ok (M : Nat) (a : Mk) (r : List Mk) (n : Nat) (hn : farI M (a :: r) = n + 1) : ∃ h : n < r.length, okQ M (2 * (relM a r[n]).1, (relM a r[n]).2) ((r.take n).map (relM a)) = true := by
  obtain ⟨-, -, c⟩ := far_go M (r.map (relM a)) [] 0 (Nat.le_refl _)
  rcases c with c | ⟨i, hi, c, d⟩
  · have : farI M (a :: r) = 0 := c
    omega
  · have c' : farI M (a :: r) = [].length + i + 1 := c
    have : i = n := by simp at c'; omega
    subst this
    simp only [List.length_map] at hi
    refine ⟨hi, ?_⟩
    simpa [List.map_take] using d
/-- marks whose ticks and times rise -/
def Rise (l : List Mk) : Prop := ∀ (i j : Nat) (hi : i < j) (hj : j < l.length), (l[i]'(by omega)).t < l[j].t ∧ (l[i]'(by omega)).z < l[j].z
/-- the line to the mark that is reached is near at each mark between -/
theorem farI_near (M : Nat) (a : Mk) (r : List Mk) (hr : Rise (a :: r)) (n : Nat) (hn : farI M (a :: r) = n + 1) : ∃ h : n < r.length, ∀ (i : Nat) (hi : i ≤ n + 1), ((a :: r)[i]'(by simp; omega)).z - M ≤ lineF a r[n] ((a :: r)[i]'(by simp; omega)).t ∧ lineF a r[n] ((a :: r)[i]'(by simp; omega)).t ≤ ((a :: r)[i]'(by simp; omega)).z + M := by
  obtain ⟨h, hok⟩ := farI_ok M a r n hn
  refine ⟨h, fun i hi => ?_⟩
  have hb := hr 0 (n + 1) (by omega) (by simp; omega)
  simp only [List.getElem_cons_zero, List.getElem_cons_succ] at hb
  rcases i with _ | i
  · simp only [List.getElem_cons_zero]
    rw [line_first hb.1]
    omega
  · simp only [List.getElem_cons_succ]
    by_cases hin : i = n
    · subst hin
      rw [line_second hb.1]
      omega
    · have hc := hr 0 (i + 1) (by omega) (by simp; omega)
      simp only [List.getElem_cons_zero, List.getElem_cons_succ] at hc
      have hmem : relM a r[i] ∈ (r.take n).map (relM a) := List.mem_map.2 ⟨r[i], by rw [List.mem_take_iff_getElem]; exact ⟨i, by omega, rfl⟩, rfl⟩
      have hq := List.all_eq_true.1 (show ((r.take n).map (relM a)).all (fun y => !lessQ (2 * (relM a r[n]).1, (relM a r[n]).2) (lowOf M y) && lessQ (2 * (relM a r[n]).1, (relM a r[n]).2) (highOf M y)) = true from hok) _ hmem
      rw [Bool.and_eq_true, Bool.not_eq_true'] at hq
      have hx : 0 < (relM a r[n]).2 := by unfold relM; simp only; omega
      have := (near_lessQ (x := relM a r[n]) (y := relM a r[i]) (M := M) hx).2 hq
      have e1 : ((relM a r[n]).1 : Int) = r[n].z - a.z := by unfold relM; simp only; omega
      have e2 : ((relM a r[n]).2 : Int) = r[n].t - a.t := by unfold relM; simp only; omega
      have e3 : ((relM a r[i]).1 : Int) = r[i].z - a.z := by unfold relM; simp only; omega
      have e4 : ((relM a r[i]).2 : Int) = r[i].t - a.t := by unfold relM; simp only; omega
      rw [e1, e2, e3, e4] at this
      unfold lineF
      omega
/-- the marks that are kept behind the first one, of a row that begins with it; with so many steps -/
def thinG (M : Nat) : Nat → List Mk → List Mk
  | 0, _ => []
  | f + 1, l => if 1 < l.length then (match l.drop (farI M l) with | [] => [] | b :: q => b :: thinG M f (b :: q)) else []
end Go.Proofs.Ytpccpkjfnmclfaa
