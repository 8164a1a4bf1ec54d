/- slices of structs that came in. -/
import Derived.Test.YtldfommfaegdiaaClose
import Derived.Test.YtldfommfaegdiaaSRow
import Derived.Deep.Slices
import Derived.Deep.Strs
import Derived.SizedLaws
namespace Go.Proofs.Ytldfommfaegdiaa
open Go.ChangeShapes Go.WideShapes Go.ChangeAt Go.RowKit

def In64 (n : Int) : Prop := -9223372036854775808 ≤ n ∧ n ≤ 9223372036854775807
theorem int_cell {H : Type} {enc : TypeId × Value → H} {W : World} {sp : Nat → Bool} {held : Bool} {n : Nat} {c : Value} {y : DataW H × List MemPlace}
    (h : DataW.trod enc Try.prog W 0 sp held n 3 [c] = some y) : ∃ z, c = .int .i64 z ∧ In64 z := by
  obtain ⟨z, e, _, hw⟩ := DataW.trod_int Try.underlying3 h
  injection e with e
  exact ⟨z, e, i64_bd hw⟩
set_option maxRecDepth 100000 in
theorem open_row {α : Type} [Inhabited α] (f : α → List Value) (s : Nat) (hf : ∀ x, (f x).length = s) (hs : 0 < s) {t e : TypeId} (hu : Try.prog.underlying t = some (.slice e)) (hce : Try.prog.cellsOf e = s) (P : α → Prop)
    {H : Type} {enc : TypeId × Value → H} {W : World} {sp : Nat → Bool} {held : Bool} {n : Nat} {v : Value} {y : DataW H × List MemPlace}
    (hof : ∀ {n : Nat} {cs : List Value} {x : DataW H × List MemPlace}, DataW.trod enc Try.prog W 0 sp held n e cs = some x → (∀ p ∈ x.2, p.block < W.heap.size) → ∃ a, cs = f a ∧ P a)
    (hlt : ∀ x ∈ y.2, x.block < W.heap.size) (h : DataW.trod enc Try.prog W 0 sp held n t [v] = some y) :
    ∃ (A : Option Addr) (c : Nat) (l : List α), v = .slice A l.length c ∧ l.length ≤ c ∧ c ≤ maxLen ∧ SR f W W.heap.size A l ∧ (∀ a ∈ l, P a) ∧ (l = [] ∨ ∃ el sp', y.1 = .slice el sp' ∧ l.length ≤ el.length) := by
  rcases Go.Deep.open_slice hu h with ⟨hcs, _⟩ | ⟨a, len, cap, m, k, D, Pl, hcs, _, hl, hm, hmm, hy, hel⟩
  · exact ⟨none, 0, [], by simpa using hcs, by simp, by simp [maxLen], .inl rfl, by simp, .inl rfl⟩
  have hle : len ≤ m := by rw [hmm]; split <;> omega
  rw [hce] at hel hy
  have hex : ∀ i, i < len → ∃ x : α, (∀ j, j < s → W.cell? (a.add (i * s + j)) = (f x)[j]?) ∧ P x := by
    intro i hi
    obtain ⟨cs', h1, h2⟩ := hel i (by omega)
    obtain ⟨x, rfl, hx⟩ := hof h2 (fun p hp => hlt p (by
      rw [hy]
      exact List.mem_append.2 (.inr (List.mem_flatMap.2 ⟨i, by simp; omega, hp⟩))))
    obtain ⟨_, _, hg⟩ := World.cells?_some h1
    refine ⟨x, fun j hj => ?_, hx⟩
    rw [← add_twice]
    exact hg j hj
  obtain ⟨g, hg⟩ := Go.Deep.choose_lt (α := α) (p := fun i x => (∀ j, j < s → W.cell? (a.add (i * s + j)) = (f x)[j]?) ∧ P x) hex
  have hlen : ((List.range len).map g).length = len := by simp
  refine ⟨some a, cap, (List.range len).map g, ?_, by omega, hm, ?_, ?_, .inr ⟨_, _, by rw [hy], by simp⟩⟩
  · rw [hlen]
    simpa using hcs
  · rcases Nat.eq_zero_or_pos len with h0 | hpos
    · subst h0
      exact .inl (by simp [rcells])
    refine .inr ⟨a, rfl, ?_, fun j u hu => ?_⟩
    · refine hlt (MemPlace.cell a.block a.off) ?_
      rw [hy]
      exact List.mem_append.2 (.inl (row_head a (m * s) (Nat.mul_pos (by omega) hs)))
    · have hj : j < len * s := by
        have := (List.getElem?_eq_some_iff.1 hu).1
        rw [rcells_len hf, hlen] at this
        exact this
      have hd : j / s * s + j % s = j := Nat.div_add_mod' j s
      have h3 : j % s < s := Nat.mod_lt _ hs
      have hk : j / s < len := (Nat.div_lt_iff_lt_mul hs).2 hj
      rw [← hd, rcells_get hf _ (j / s) (j % s) (by omega) h3] at hu
      rw [← hd, (hg (j / s) hk).1 (j % s) h3]
      simpa using hu
  · intro x hx
    obtain ⟨i, hi, rfl⟩ := List.mem_map.1 hx
    exact (hg i (by simpa using hi)).2
end Go.Proofs.Ytldfommfaegdiaa
