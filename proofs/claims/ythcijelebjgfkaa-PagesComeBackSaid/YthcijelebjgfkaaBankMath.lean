/- what is wrong with a bank, and what follows where nothing is. -/
import Derived.Test.YthcijelebjgfkaaMemMath
namespace Go.Proofs.Ythcijelebjgfkaa

/-- its code and its saved word are in their ranges -/
def okAt (p : Int × Int) : Bool := decide (0 ≤ p.1 ∧ p.1 ≤ 4194303) && decide (0 ≤ p.2 ∧ p.2 ≤ 65535)
def chkB (l l' : List Int) : Int :=
  if l.length = 0 then 9 else if 2000 < l.length then 2 else if l'.length ≠ l.length then 3 else if (l.zip l').all okAt = true then 0 else 1
/-- nothing is wrong with a bank -/
structure Right (l l' : List Int) : Prop where
  pos : 0 < l.length
  few : l.length ≤ 2000
  same : l'.length = l.length
  codes : ∀ k (h : k < l.length), 0 ≤ l[k] ∧ l[k] ≤ 4194303
  words : ∀ k (h : k < l'.length), 0 ≤ l'[k] ∧ l'[k] ≤ 65535
theorem chk_right {l l' : List Int} (h : chkB l l' = 0) : Right l l' := by
  unfold chkB at h
  by_cases h1 : l.length = 0
  · rw [if_pos h1] at h; omega
  rw [if_neg h1] at h
  by_cases h2 : 2000 < l.length
  · rw [if_pos h2] at h; omega
  rw [if_neg h2] at h
  by_cases h3 : l'.length ≠ l.length
  · rw [if_pos h3] at h; omega
  rw [if_neg h3] at h
  by_cases h4 : (l.zip l').all okAt = true
  · have h5 : l'.length = l.length := by omega
    have key : ∀ k (hk : k < l.length), okAt (l[k], l'[k]'(by omega)) = true := by
      intro k hk
      have := List.all_eq_true.1 h4 (l[k], l'[k]'(by omega)) (by
        have hz : k < (l.zip l').length := by simp; omega
        have e : (l.zip l')[k] = (l[k], l'[k]'(by omega)) := by simp
        rw [← e]
        exact List.getElem_mem hz)
      exact this
    refine ⟨by omega, by omega, h5, fun k hk => ?_, fun k hk => ?_⟩
    · have := key k hk
      simp only [okAt, Bool.and_eq_true, decide_eq_true_eq] at this
      exact this.1
    · have := key k (by omega)
      simp only [okAt, Bool.and_eq_true, decide_eq_true_eq] at this
      exact this.2
  · rw [if_neg h4] at h; omega
theorem chk_cases (l l' : List Int) : chkB l l' = 0 ∨ chkB l l' = 9 ∨ chkB l l' = 2 ∨ chkB l l' = 3 ∨ chkB l l' = 1 := by
  unfold chkB
  split
  · simp
  · split
    · simp
    · split
      · simp
      · split <;> simp
theorem right_chk {l l' : List Int} (h : Right l l') : chkB l l' = 0 := by
  unfold chkB
  rw [if_neg (by have := h.pos; omega), if_neg (by have := h.few; omega), if_neg (by have := h.same; omega), if_pos]
  rw [List.all_eq_true]
  intro p hp
  obtain ⟨k, hk, rfl⟩ := List.mem_iff_getElem.1 hp
  have hs := h.same
  have hk1 : k < l.length := by simp at hk; omega
  have h1 := h.codes k hk1
  have h2 := h.words k (by omega)
  simp [okAt, h1, h2]
/-- the numbers of natural numbers -/
def ints (l : List Nat) : List Int := l.map fun (n : Nat) => (n : Int)
theorem ints_len (l : List Nat) : (ints l).length = l.length := by simp [ints]
theorem ints_get (l : List Nat) (k : Nat) (h : k < l.length) : (ints l)[k]'(by rw [ints_len]; exact h) = (l[k] : Int) := by simp [ints]
theorem ints_inj {a b : List Nat} (h : ints a = ints b) : a = b := by
  unfold ints at h
  exact List.map_inj_right (fun x y hxy => by omega) |>.1 h
theorem to_nats (l : List Int) (h : ∀ k (h : k < l.length), 0 ≤ l[k]) : ∃ m : List Nat, l = ints m := by
  refine ⟨l.map Int.toNat, ?_⟩
  unfold ints
  rw [List.map_map]
  conv => lhs; rw [← List.map_id l]
  apply List.map_congr_left
  intro z hz
  obtain ⟨k, hk, rfl⟩ := List.mem_iff_getElem.1 hz
  have := h k hk
  simp
  omega
end Go.Proofs.Ythcijelebjgfkaa
