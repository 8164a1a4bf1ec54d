/- rounds and flips that came in. -/
import Derived.Test.YteelepjhlhifhaaCloseB
import Derived.Test.YteelepjhlhifhaaFlipW
import Derived.Deep.Slices
import Derived.Deep.Strs
namespace Go.Proofs.Yteelepjhlhifhaa
open Go.ChangeShapes Go.WideShapes Go.ChangeAt Go.RowKit

theorem cellsFlip : Try.prog.cellsOf 66 = 3 := by kernel_rfl
theorem cellsRound : Try.prog.cellsOf 68 = 2 := by kernel_rfl
instance : Inhabited Flp := ⟨⟨0, 0, 0⟩⟩
set_option maxRecDepth 100000 in
theorem flip_of {H : Type} {enc : TypeId × Value → H} {W : World} {sp : Nat → Bool} {held : Bool} {n : Nat} {cs : List Value} {x : DataW H × List MemPlace}
    (h : DataW.trod enc Try.prog W 0 sp held n 66 cs = some x) : ∃ m : Flp, cs = m.cells := by
  obtain ⟨y0, y1, y2, k, _, hl, h0, h1, h2⟩ := Go.Deep.trod_struct3 Try.underlying66 h
  rw [cellsFlip] at hl
  obtain ⟨a, b, c, rfl⟩ : ∃ a b c, cs = [a, b, c] := by
    match cs, hl with
    | [a, b, c], _ => exact ⟨a, b, c, rfl⟩
  simp only [cells3, List.drop_zero, List.drop_succ_cons, List.take_succ_cons, List.take_zero] at h0 h1 h2
  obtain ⟨t, e0, _, w0⟩ := DataW.trod_int Try.underlying3 h0
  obtain ⟨z, e1, _, w1⟩ := DataW.trod_int Try.underlying3 h1
  obtain ⟨o, e2, _, w2⟩ := DataW.trod_int Try.underlying3 h2
  injection e0 with e0
  injection e1 with e1
  injection e2 with e2
  subst e0 e1 e2
  exact ⟨⟨t, z, o⟩, rfl⟩
set_option maxRecDepth 100000 in
/-- A slice of flips that came in. -/
theorem open_flips {H : Type} {enc : TypeId × Value → H} {W : World} {sp : Nat → Bool} {held : Bool} {n : Nat} {v : Value} {y : DataW H × List MemPlace}
    (hlt : ∀ x ∈ y.2, x.block < W.heap.size) (h : DataW.trod enc Try.prog W 0 sp held n 64 [v] = some y) :
    ∃ (A : Option Addr) (c : Nat) (l : List Flp), v = .slice A l.length c ∧ l.length ≤ c ∧ c ≤ maxLen ∧ FR W W.heap.size A l ∧ True := by
  rcases Go.Deep.open_slice Try.underlying64 h with ⟨hcs, _⟩ | ⟨a, len, cap, m, k, D, Pl, hcs, _, hl, hm, hmm, hy, hel⟩
  · exact ⟨none, 0, [], by simpa using hcs, by simp, by simp [maxLen], .inl rfl, trivial⟩
  have hle : len ≤ m := by rw [hmm]; split <;> omega
  rw [cellsFlip] at hel hy
  have hex : ∀ i, i < len → ∃ x : Flp, (∀ j, j < 3 → W.cell? (a.add (i * 3 + j)) = x.cells[j]?) := by
    intro i hi
    obtain ⟨cs', h1, h2⟩ := hel i (by omega)
    obtain ⟨x, rfl⟩ := flip_of h2
    obtain ⟨_, _, hg⟩ := World.cells?_some h1
    refine ⟨x, fun j hj => ?_⟩
    rw [← add_twice]
    exact hg j hj
  obtain ⟨f, hf⟩ := Go.Deep.choose_lt (α := Flp) (p := fun i x => (∀ j, j < 3 → W.cell? (a.add (i * 3 + j)) = x.cells[j]?)) hex
  have hlen : ((List.range len).map f).length = len := by simp
  refine ⟨some a, cap, (List.range len).map f, ?_, by omega, hm, ?_, trivial⟩
  · rw [hlen]
    simpa using hcs
  · rcases Nat.eq_zero_or_pos len with h0 | hpos
    · subst h0
      exact .inl (by simp [fcells])
    refine .inr ⟨a, rfl, ?_, fun j u hu => ?_⟩
    · refine hlt (MemPlace.cell a.block a.off) ?_
      rw [hy]
      exact List.mem_append.2 (.inl (row_head a (m * 3) (by omega)))
    · have hj : j < len * 3 := by
        have := (List.getElem?_eq_some_iff.1 hu).1
        rw [fcells_len, hlen] at this
        exact this
      have e : j = j / 3 * 3 + j % 3 := by omega
      have h3 : j % 3 < 3 := Nat.mod_lt _ (by omega)
      have hk : j / 3 < len := by omega
      rw [e, fcells_get _ (j / 3) (j % 3) (by omega) h3] at hu
      rw [e, (hf (j / 3) hk) (j % 3) h3]
      simpa using hu
set_option maxRecDepth 100000 in
/-- A round that came in. -/
theorem open_round {H : Type} {enc : TypeId × Value → H} {W : World} {r : Reach} {b0 : Nat} {sp : Nat → Bool} {held : Bool} {v : Value} {d : DataW H} {p : List MemPlace}
    (hv : Value.okWide Try.prog W r b0 68 v) (h : DataW.Trod enc Try.prog W 0 sp held 68 v d p) :
    ∃ s f : Int, v = .agg #[.int .i64 s, .int .i64 f] ∧ (-9223372036854775808 ≤ s ∧ s ≤ 9223372036854775807) ∧ (-9223372036854775808 ≤ f ∧ f ≤ 9223372036854775807) := by
  obtain ⟨cs, ys, n, rfl, hl, _, _, hg⟩ := open_fields Try.underlying68 (by kernel_rfl) cellsRound hv h
  obtain ⟨c0, y0, e0, _, h0⟩ := hg 0 _ rfl
  obtain ⟨c1, y1, e1, _, h1⟩ := hg 1 _ rfl
  obtain ⟨s, q0, _, w0⟩ := DataW.trod_int Try.underlying3 h0
  obtain ⟨f, q1, _, w1⟩ := DataW.trod_int Try.underlying3 h1
  injection q0 with q0
  injection q1 with q1
  subst q0 q1
  obtain ⟨a, b, rfl⟩ : ∃ a b, cs = [a, b] := by
    match cs, hl with
    | [a, b], _ => exact ⟨a, b, rfl⟩
  simp at e0 e1
  subst e0 e1
  exact ⟨s, f, rfl, i64_bd w0, i64_bd w1⟩
end Go.Proofs.Yteelepjhlhifhaa
