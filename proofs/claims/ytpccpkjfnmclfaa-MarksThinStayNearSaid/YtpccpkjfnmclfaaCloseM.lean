/- marks and clocks that came in. -/
import Derived.Test.YtpccpkjfnmclfaaClose
import Derived.Test.YtpccpkjfnmclfaaMarks
import Derived.Deep.Slices
import Derived.Deep.Strs
namespace Go.Proofs.Ytpccpkjfnmclfaa
open Go.ChangeShapes Go.WideShapes Go.ChangeAt Go.RowKit

theorem cellsMark : Try.prog.cellsOf 36 = 3 := by kernel_rfl
/-- its numbers are those of 64 bits -/
def Mk.in64 (m : Mk) : Prop := (-9223372036854775808 ≤ m.t ∧ m.t ≤ 9223372036854775807) ∧ (-9223372036854775808 ≤ m.z ∧ m.z ≤ 9223372036854775807) ∧ (-9223372036854775808 ≤ m.o ∧ m.o ≤ 9223372036854775807)
instance : Inhabited Mk := ⟨⟨0, 0, 0⟩⟩
set_option maxRecDepth 100000 in
theorem mark_of {H : Type} {enc : TypeId × Value → H} {W : World} {sp : Nat → Bool} {held : Bool} {n : Nat} {cs : List Value} {x : DataW H × List MemPlace}
    (h : DataW.trod enc Try.prog W 0 sp held n 36 cs = some x) : ∃ m : Mk, cs = m.cells ∧ m.in64 := by
  obtain ⟨y0, y1, y2, k, _, hl, h0, h1, h2⟩ := Go.Deep.trod_struct3 Try.underlying36 h
  rw [cellsMark] at hl
  obtain ⟨a, b, c, rfl⟩ : ∃ a b c, cs = [a, b, c] := by
    match cs, hl with
    | [a, b, c], _ => exact ⟨a, b, c, rfl⟩
  simp only [cells3, List.drop_zero, List.drop_succ_cons, List.take_succ_cons, List.take_zero] at h0 h1 h2
  obtain ⟨t, e0, _, w0⟩ := DataW.trod_int Try.underlying3 h0
  obtain ⟨z, e1, _, w1⟩ := DataW.trod_int Try.underlying3 h1
  obtain ⟨o, e2, _, w2⟩ := DataW.trod_int Try.underlying3 h2
  injection e0 with e0
  injection e1 with e1
  injection e2 with e2
  subst e0 e1 e2
  exact ⟨⟨t, z, o⟩, rfl, i64_bd w0, i64_bd w1, i64_bd w2⟩
set_option maxRecDepth 100000 in
/-- A slice of marks that came in. -/
theorem open_marks {H : Type} {enc : TypeId × Value → H} {W : World} {sp : Nat → Bool} {held : Bool} {n : Nat} {v : Value} {y : DataW H × List MemPlace}
    (hlt : ∀ x ∈ y.2, x.block < W.heap.size) (h : DataW.trod enc Try.prog W 0 sp held n 30 [v] = some y) :
    ∃ (A : Option Addr) (c : Nat) (l : List Mk), v = .slice A l.length c ∧ l.length ≤ c ∧ c ≤ maxLen ∧ MR W W.heap.size A l ∧ ∀ m ∈ l, m.in64 := by
  rcases Go.Deep.open_slice Try.underlying30 h with ⟨hcs, _⟩ | ⟨a, len, cap, m, k, D, Pl, hcs, _, hl, hm, hmm, hy, hel⟩
  · exact ⟨none, 0, [], by simpa using hcs, by simp, by simp [maxLen], .inl rfl, by simp⟩
  have hle : len ≤ m := by rw [hmm]; split <;> omega
  rw [cellsMark] at hel hy
  have hex : ∀ i, i < len → ∃ x : Mk, (∀ j, j < 3 → W.cell? (a.add (i * 3 + j)) = x.cells[j]?) ∧ x.in64 := by
    intro i hi
    obtain ⟨cs', h1, h2⟩ := hel i (by omega)
    obtain ⟨x, rfl, hx⟩ := mark_of h2
    obtain ⟨_, _, hg⟩ := World.cells?_some h1
    refine ⟨x, fun j hj => ?_, hx⟩
    rw [← add_twice]
    exact hg j hj
  obtain ⟨f, hf⟩ := Go.Deep.choose_lt (α := Mk) (p := fun i x => (∀ j, j < 3 → W.cell? (a.add (i * 3 + j)) = x.cells[j]?) ∧ x.in64) hex
  have hlen : ((List.range len).map f).length = len := by simp
  refine ⟨some a, cap, (List.range len).map f, ?_, by omega, hm, ?_, ?_⟩
  · rw [hlen]
    simpa using hcs
  · rcases Nat.eq_zero_or_pos len with h0 | hpos
    · subst h0
      exact .inl (by simp [mcells])
    refine .inr ⟨a, rfl, ?_, fun j u hu => ?_⟩
    · refine hlt (MemPlace.cell a.block a.off) ?_
      rw [hy]
      exact List.mem_append.2 (.inl (row_head a (m * 3) (by omega)))
    · have hj : j < len * 3 := by
        have := (List.getElem?_eq_some_iff.1 hu).1
        rw [mcells_len, hlen] at this
        exact this
      have e : j = j / 3 * 3 + j % 3 := by omega
      have h3 : j % 3 < 3 := Nat.mod_lt _ (by omega)
      have hk : j / 3 < len := by omega
      rw [e, mcells_get _ (j / 3) (j % 3) (by omega) h3] at hu
      rw [e, (hf (j / 3) hk).1 (j % 3) h3]
      simpa using hu
  · intro x hx
    obtain ⟨i, hi, rfl⟩ := List.mem_map.1 hx
    exact (hf i (by simpa using hi)).2
end Go.Proofs.Ytpccpkjfnmclfaa
