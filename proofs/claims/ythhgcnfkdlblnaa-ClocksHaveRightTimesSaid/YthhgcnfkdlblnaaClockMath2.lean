/- plain mathematics: by more marks a window is not wider; a right clock's marks hold the right times. -/
import Derived.Test.YthhgcnfkdlblnaaClockMath
namespace Go.Proofs.Ythhgcnfkdlblnaa

theorem winL_app (s f n : Int) : ∀ (a b : List Mk) (x y : Int), winL s f n (a ++ b) x y = winL s f n b (winL s f n a x y).1 (winL s f n a x y).2
  | [], _, _, _ => rfl
  | _ :: a, b, _, _ => winL_app s f n a b _ _
theorem winL_in (s f n : Int) : ∀ (l : List Mk) (x y : Int), x ≤ (winL s f n l x y).1 ∧ (winL s f n l x y).2 ≤ y
  | [], x, y => ⟨Int.le_refl _, Int.le_refl _⟩
  | m :: l, x, y => by
    have := winL_in s f n l (max x (reachF s f m n).1) (min y (reachF s f m n).2)
    exact ⟨Int.le_trans (Int.le_max_left _ _) this.1, Int.le_trans this.2 (Int.min_le_left _ _)⟩
theorem windowS_ok {s f n : Int} {l : List Mk} (h : (windowS s f l n).2.2 = 0) :
    ckB s f l = 0 ∧ (0 ≤ n ∧ n ≤ 1000000000000) ∧ (windowS s f l n).1 = (winL s f n l lo64 hi64).1 ∧ (windowS s f l n).2.1 = (winL s f n l lo64 hi64).2 ∧ (winL s f n l lo64 hi64).1 ≤ (winL s f n l lo64 hi64).2 := by
  by_cases h1 : ckB s f l ≠ 0
  · rw [windowS, if_pos h1] at h
    exact absurd h h1
  by_cases h2 : n < 0 ∨ 1000000000000 < n
  · rw [windowS, if_neg h1, if_pos h2] at h
    simp at h
  by_cases h3 : (winL s f n l lo64 hi64).2 < (winL s f n l lo64 hi64).1
  · rw [windowS, if_neg h1, if_neg h2, if_pos h3] at h
    simp at h
  rw [windowS, if_neg h1, if_neg h2, if_neg h3]
  exact ⟨by omega, by omega, rfl, rfl, by omega⟩
theorem windowS_no {s f n : Int} {l : List Mk} (h : (windowS s f l n).2.2 ≠ 0) : (windowS s f l n).1 = 0 ∧ (windowS s f l n).2.1 = 0 := by
  by_cases h1 : ckB s f l ≠ 0
  · rw [windowS, if_pos h1]; exact ⟨rfl, rfl⟩
  by_cases h2 : n < 0 ∨ 1000000000000 < n
  · rw [windowS, if_neg h1, if_pos h2]; exact ⟨rfl, rfl⟩
  by_cases h3 : (winL s f n l lo64 hi64).2 < (winL s f n l lo64 hi64).1
  · rw [windowS, if_neg h1, if_neg h2, if_pos h3]; exact ⟨rfl, rfl⟩
  rw [windowS, if_neg h1, if_neg h2, if_neg h3] at h
  exact absurd rfl h
/-- by more marks the window is not wider -/
theorem shrink {s f n : Int} {l : List Mk} {k : Nat} (h1 : (windowS s f (l.take k) n).2.2 = 0) (h2 : (windowS s f l n).2.2 = 0) :
    (windowS s f (l.take k) n).1 ≤ (windowS s f l n).1 ∧ (windowS s f l n).2.1 ≤ (windowS s f (l.take k) n).2.1 ∧ (windowS s f l n).1 ≤ (windowS s f l n).2.1 := by
  obtain ⟨-, -, a1, a2, -⟩ := windowS_ok h1
  obtain ⟨-, -, b1, b2, b3⟩ := windowS_ok h2
  rw [a1, a2, b1, b2]
  have e : winL s f n l lo64 hi64 = winL s f n (l.drop k) (winL s f n (l.take k) lo64 hi64).1 (winL s f n (l.take k) lo64 hi64).2 := by
    rw [← winL_app, List.take_append_drop]
  have := winL_in s f n (l.drop k) (winL s f n (l.take k) lo64 hi64).1 (winL s f n (l.take k) lo64 hi64).2
  rw [← e] at this
  exact ⟨this.1, this.2, b3⟩

/-- the right time at a tick of a clock with a rate -/
def rightT (st r n : Int) : Int := st + n * r / 1000000
/-- a mark that a right clock made -/
def rightM (st r t o : Int) : Mk := ⟨t, rightT st r t, o + 1⟩
theorem right_in {s f st r t o n : Int} (hs : 0 ≤ s) (h1 : s ≤ r) (h2 : r ≤ f) (ho : 0 ≤ o) :
    (reachF s f (rightM st r t o) n).1 ≤ rightT st r n ∧ rightT st r n ≤ (reachF s f (rightM st r t o) n).2 := by
  unfold reachF rightM rightT
  simp only
  split
  · rename_i h
    have a1 : (n - t) * s ≤ (n - t) * r := Int.mul_le_mul_of_nonneg_left h1 h
    have a2 : (n - t) * r ≤ (n - t) * f := Int.mul_le_mul_of_nonneg_left h2 h
    have a3 : n * r = t * r + (n - t) * r := by rw [← Int.add_mul]; congr 1; omega
    generalize (n - t) * s = p1 at *
    generalize (n - t) * r = p2 at *
    generalize (n - t) * f = p3 at *
    generalize n * r = p4 at *
    generalize t * r = p5 at *
    simp only
    omega
  · rename_i h
    have h : 0 ≤ t - n := by omega
    have a1 : (t - n) * s ≤ (t - n) * r := Int.mul_le_mul_of_nonneg_left h1 h
    have a2 : (t - n) * r ≤ (t - n) * f := Int.mul_le_mul_of_nonneg_left h2 h
    have a3 : t * r = n * r + (t - n) * r := by rw [← Int.add_mul]; congr 1; omega
    generalize (t - n) * s = p1 at *
    generalize (t - n) * r = p2 at *
    generalize (t - n) * f = p3 at *
    generalize n * r = p4 at *
    generalize t * r = p5 at *
    simp only
    omega
/-- the right time stays within a window that right marks make -/
theorem right_win {s f st r n : Int} (hs : 0 ≤ s) (h1 : s ≤ r) (h2 : r ≤ f) : ∀ (l : List Mk) (x y : Int), (∀ m ∈ l, ∃ t o, 0 ≤ o ∧ m = rightM st r t o) → x ≤ rightT st r n → rightT st r n ≤ y →
    (winL s f n l x y).1 ≤ rightT st r n ∧ rightT st r n ≤ (winL s f n l x y).2
  | [], _, _, _, hx, hy => ⟨hx, hy⟩
  | m :: l, x, y, hl, hx, hy => by
    obtain ⟨t, o, ho, rfl⟩ := hl _ (List.mem_cons_self ..)
    obtain ⟨a, b⟩ := right_in (s := s) (f := f) (st := st) (r := r) (t := t) (o := o) (n := n) hs h1 h2 ho
    exact right_win hs h1 h2 l _ _ (fun m hm => hl m (List.mem_cons_of_mem _ hm)) (Int.max_le.2 ⟨hx, a⟩) (Int.le_min.2 ⟨hy, b⟩)
theorem right_bad {s f st r : Int} (hs : 0 ≤ s) (h1 : s ≤ r) (h2 : r ≤ f) {x y : Mk} (hx : ∃ t o, 0 ≤ o ∧ x = rightM st r t o) (hy : ∃ t o, 0 ≤ o ∧ y = rightM st r t o) : badP s f x y = false := by
  obtain ⟨t, o, ho, rfl⟩ := hx
  obtain ⟨t', o', ho', rfl⟩ := hy
  have h := right_in (s := s) (f := f) (st := st) (r := r) (t := t') (o := o') (n := t) hs h1 h2 ho'
  unfold badP
  rw [decide_eq_false_iff_not]
  show ¬ ((reachF s f (rightM st r t' o') t).2 < rightT st r t - (o + 1) ∨ rightT st r t + (o + 1) < (reachF s f (rightM st r t' o') t).1)
  omega
/-- no right mark clashes -/
theorem right_clash {s f st r : Int} (hs : 0 ≤ s) (h1 : s ≤ r) (h2 : r ≤ f) (l : List Mk) (hl : ∀ m ∈ l, ∃ t o, 0 ≤ o ∧ m = rightM st r t o) : ∀ k, clashTo s f l k = []
  | 0 => rfl
  | k + 1 => by
    rw [clashTo_no, right_clash hs h1 h2 l hl k]
    by_cases h : k < l.length
    · rw [clashAt_get s f l k h]
      unfold conB
      rw [List.any_eq_false]
      intro y hy
      rw [right_bad hs h1 h2 (hl _ (List.getElem_mem h)) (hl y hy)]
      simp
    · unfold clashAt
      rw [List.getElem?_eq_none (by omega)]
end Go.Proofs.Ythhgcnfkdlblnaa
