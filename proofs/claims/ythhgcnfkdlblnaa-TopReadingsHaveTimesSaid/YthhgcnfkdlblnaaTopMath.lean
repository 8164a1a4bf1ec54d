/- plain mathematics of readings: ticks that began in the first round and are near come back; unrolled ticks never fall. -/
import Derived.Test.YthhgcnfkdlblnaaCountMath
namespace Go.Proofs.Ythhgcnfkdlblnaa

/-- the ticks began in the first round, and none of the first k is a round behind the one ahead of it -/
def NearTo (R : Int) (l : List Int) (k : Nat) : Prop := (∀ h : 0 < l.length, l[0] < R) ∧ ∀ (i : Nat) (h : i + 1 < l.length), i + 1 < k → l[i + 1] - l[i] < R
theorem nearTo_first (R : Int) (l : List Int) : NearTo R l 1 ↔ ∀ h : 0 < l.length, l[0] < R := ⟨fun h => h.1, fun h => ⟨h, fun i _ hk => by omega⟩⟩
theorem nearTo_next (R : Int) (l : List Int) (k : Nat) (h1 : 1 ≤ k) (hk : k < l.length) : NearTo R l (k + 1) ↔ NearTo R l k ∧ l[k] - l[k - 1] < R := by
  constructor
  · intro h
    refine ⟨⟨h.1, fun i hi hik => h.2 i hi (by omega)⟩, ?_⟩
    have := h.2 (k - 1) (by omega) (by omega)
    simpa [show k - 1 + 1 = k by omega] using this
  · rintro ⟨h, h'⟩
    refine ⟨h.1, fun i hi hik => ?_⟩
    rcases Nat.lt_or_ge (i + 1) k with hlt | hge
    · exact h.2 i hi hlt
    · obtain rfl : i = k - 1 := by omega
      simpa [show k - 1 + 1 = k by omega] using h'
theorem nearTo_end (R : Int) (l : List Int) (k : Nat) (h : l.length ≤ k) : NearTo R l k ↔ NearTo R l l.length := ⟨fun q => ⟨q.1, fun i hi _ => q.2 i hi (by omega)⟩, fun q => ⟨q.1, fun i hi _ => q.2 i hi (by omega)⟩⟩
theorem top_near (l : List Int) (b : Int) (h : (turned stepR l b).2 = 0) (hn : NearTo (roundOf b) l l.length) : turned stepU (l.map (· % roundOf b)) b = (l, 0) := by
  obtain ⟨-, hb, hl, hbd, hu⟩ := unrolls l b h
  obtain ⟨D, hD, hD0, hD1, e⟩ := hu (fun i hi => hn.2 i hi hi)
  rw [e]
  obtain ⟨hR, -⟩ := roundOf_bd b (by omega) (by omega)
  rcases Nat.eq_zero_or_pos l.length with h0 | h0
  · rw [List.eq_nil_of_length_eq_zero h0]; rfl
  · have hx := hn.1 h0
    have hy : ∀ y ∈ (turned stepU (l.map (· % roundOf b)) b).1, 0 ≤ y ∧ y ≤ 1000000000000 := by
      have h2 : (turned stepU (l.map (· % roundOf b)) b).2 = 0 := by rw [e]
      obtain ⟨-, -, e2⟩ := turned_parts h2
      rw [e2] at h2 ⊢
      rw [turnU_ok _ _ _ _ h2, List.nil_append]
      exact ticks_bd _ (by omega) _ _ _ (by omega) h2
    rw [e] at hy
    have hy0 := hy (l[0] - D) (List.mem_map.2 ⟨l[0], List.getElem_mem h0, rfl⟩)
    have hD2 : D = 0 := by
      have : D % roundOf b = D := Int.emod_eq_of_lt hD0 (by omega)
      omega
    subst hD2
    simp
theorem top_ticks (X : List Int) (b : Int) (h : (turned stepU X b).2 = 0) :
    ∃ Y : List Int, turned stepU X b = (Y, 0) ∧ Y.length = X.length ∧ ∀ (j i : Nat) (hj : j < Y.length) (hi : i ≤ j), Y[i] ≤ Y[j] := by
  obtain ⟨Y, e, -, -, -, hl, -, hs⟩ := comes_back X b h
  refine ⟨Y, e, hl, ?_⟩
  intro j
  induction j with
  | zero =>
    intro i hj hi
    obtain rfl : i = 0 := Nat.le_zero.1 hi
    exact Int.le_refl _
  | succ j ih =>
    intro i hj hi
    rcases Nat.lt_or_ge i (j + 1) with hlt | hge
    · exact Int.le_trans (ih i (by omega) (by omega)) (hs j hj).1
    · obtain rfl : i = j + 1 := by omega
      exact Int.le_refl _
end Go.Proofs.Ythhgcnfkdlblnaa
