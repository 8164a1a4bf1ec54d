/- rows of flips of the call's own; flips that came in, with their bounds. -/
import Derived.Test.YteelepjhlhifhaaFlipW
import Derived.Test.YteelepjhlhifhaaCloseF
import Derived.Test.YteelepjhlhifhaaBelowN
namespace Go.Proofs.Yteelepjhlhifhaa
open Go.ChangeShapes Go.WideShapes Go.ChangeAt Go.RowKit

theorem infoF : (Try.prog.info? 66).map (fun i => (i.zero, i.size, i.bytes)) = some (some (.agg #[.int .i64 0, .int .i64 0, .int .i64 0]), 3, 24) := by kernel_rfl
theorem elemF : Elem 64 66 3 24 := by
  obtain ⟨i, h1, h2, h3, h4⟩ := info_parts infoF
  exact ⟨Try.underlying64, i, _, h1, h2, h3, h4, rfl, by omega⟩
def OwnF (w : World) (base : Nat) (v : Value) (l : List Flp) : Prop := w.ownsRow base 66 3 v l.length (fcells l)
theorem fcells_one (l : List Flp) : ∀ u ∈ fcells l, u.oneCell' = true := by
  intro u hu
  obtain ⟨m, _, hm⟩ := List.mem_flatMap.1 hu
  simp only [Flp.cells, List.mem_cons, List.not_mem_nil, or_false] at hm
  rcases hm with rfl | rfl | rfl <;> rfl
theorem OwnF.form {w : World} {base : Nat} {v : Value} {l : List Flp} (h : OwnF w base v l) : ∃ A c, v = .slice A l.length c ∧ l.length ≤ c ∧ c ≤ maxLen ∧ FR w w.heap.size A l := by
  rcases h.2 with ⟨rfl, hn⟩ | ⟨g, cap, cur, rfl, hb, hg, hnc, hcm, _⟩
  · have e : l = [] := List.eq_nil_of_length_eq_zero hn
    subst e
    exact ⟨none, 0, rfl, by simp, by simp [maxLen], .inl rfl⟩
  · exact ⟨_, cap, rfl, hnc, hcm, .inr ⟨_, rfl, (World.ownsRow.lt h g rfl).2, fun j u hu => World.ownsRow.cells h (g := g) rfl j u hu⟩⟩
theorem OwnF.nil (w : World) (base : Nat) : OwnF w base (.slice none 0 0) [] := w.ownsRow_nil base 66 3
theorem OwnF.of {w : World} {base m : Nat} {v : Value} {a b : List Flp} (h : w.ownsRow base 66 3 v (a.length + m) (fcells a ++ fcells b)) (hm : m = b.length) : OwnF w base v (a ++ b) := by
  subst hm
  unfold OwnF
  rw [List.length_append]
  have e : fcells (a ++ b) = fcells a ++ fcells b := by unfold fcells; rw [List.flatMap_append]
  rw [e]
  exact h
/-- its numbers are in their range -/
def Flp.bd (x : Flp) : Prop := (-9223372036854775808 ≤ x.t ∧ x.t ≤ 9223372036854775807) ∧ (-9223372036854775808 ≤ x.p ∧ x.p ≤ 9223372036854775807) ∧ (-9223372036854775808 ≤ x.b ∧ x.b ≤ 9223372036854775807)
set_option maxRecDepth 100000 in
theorem flip_of_bd {H : Type} {enc : TypeId × Value → H} {W : World} {sp : Nat → Bool} {held : Bool} {n : Nat} {cs : List Value} {x : DataW H × List MemPlace}
    (h : DataW.trod enc Try.prog W 0 sp held n 66 cs = some x) : ∃ m : Flp, cs = m.cells ∧ m.bd := by
  obtain ⟨y0, y1, y2, k, _, hl, h0, h1, h2⟩ := Go.Deep.trod_struct3 Try.underlying66 h
  rw [cellsFlip] at hl
  obtain ⟨a, b, c, rfl⟩ : ∃ a b c, cs = [a, b, c] := by
    match cs, hl with
    | [a, b, c], _ => exact ⟨a, b, c, rfl⟩
  simp only [cells3, List.drop_zero, List.drop_succ_cons, List.take_succ_cons, List.take_zero] at h0 h1 h2
  obtain ⟨t, e0, _, w0⟩ := DataW.trod_int Try.underlying3 h0
  obtain ⟨z, e1, _, w1⟩ := DataW.trod_int Try.underlying3 h1
  obtain ⟨o, e2, _, w2⟩ := DataW.trod_int Try.underlying3 h2
  injection e0 with e0
  injection e1 with e1
  injection e2 with e2
  subst e0 e1 e2
  exact ⟨⟨t, z, o⟩, rfl, i64_bd w0, i64_bd w1, i64_bd w2⟩
set_option maxRecDepth 100000 in
/-- A slice of flips that came in. -/
theorem open_flips_bd {H : Type} {enc : TypeId × Value → H} {W : World} {sp : Nat → Bool} {held : Bool} {n : Nat} {v : Value} {y : DataW H × List MemPlace}
    (hlt : ∀ x ∈ y.2, x.block < W.heap.size) (h : DataW.trod enc Try.prog W 0 sp held n 64 [v] = some y) :
    ∃ (A : Option Addr) (c : Nat) (l : List Flp), v = .slice A l.length c ∧ l.length ≤ c ∧ c ≤ maxLen ∧ FR W W.heap.size A l ∧ ∀ k (h : k < l.length), l[k].bd := by
  rcases Go.Deep.open_slice Try.underlying64 h with ⟨hcs, _⟩ | ⟨a, len, cap, m, k, D, Pl, hcs, _, hl, hm, hmm, hy, hel⟩
  · exact ⟨none, 0, [], by simpa using hcs, by simp, by simp [maxLen], .inl rfl, fun k h => by simp at h⟩
  have hle : len ≤ m := by rw [hmm]; split <;> omega
  rw [cellsFlip] at hel hy
  have hex : ∀ i, i < len → ∃ x : Flp, (∀ j, j < 3 → W.cell? (a.add (i * 3 + j)) = x.cells[j]?) ∧ x.bd := by
    intro i hi
    obtain ⟨cs', h1, h2⟩ := hel i (by omega)
    obtain ⟨x, rfl, hbd⟩ := flip_of_bd h2
    obtain ⟨_, _, hg⟩ := World.cells?_some h1
    refine ⟨x, fun j hj => ?_, hbd⟩
    rw [← add_twice]
    exact hg j hj
  obtain ⟨f, hf⟩ := Go.Deep.choose_lt (α := Flp) (p := fun i x => (∀ j, j < 3 → W.cell? (a.add (i * 3 + j)) = x.cells[j]?) ∧ x.bd) hex
  have hlen : ((List.range len).map f).length = len := by simp
  refine ⟨some a, cap, (List.range len).map f, ?_, by omega, hm, ?_, fun k hk => ?_⟩
  · rw [hlen]
    simpa using hcs
  · rcases Nat.eq_zero_or_pos len with h0 | hpos
    · subst h0
      exact .inl (by simp [fcells])
    refine .inr ⟨a, rfl, ?_, fun j u hu => ?_⟩
    · refine hlt (MemPlace.cell a.block a.off) ?_
      rw [hy]
      exact List.mem_append.2 (.inl (row_head a (m * 3) (by omega)))
    · have hj : j < len * 3 := by
        have := (List.getElem?_eq_some_iff.1 hu).1
        rw [fcells_len, hlen] at this
        exact this
      have e : j = j / 3 * 3 + j % 3 := by omega
      have h3 : j % 3 < 3 := Nat.mod_lt _ (by omega)
      have hk : j / 3 < len := by omega
      rw [e, fcells_get _ (j / 3) (j % 3) (by omega) h3] at hu
      rw [e, (hf (j / 3) hk).1 (j % 3) h3]
      simpa using hu
  · have hk' : k < len := by rw [hlen] at hk; exact hk
    simp only [List.getElem_map, List.getElem_range]
    exact (hf k hk').2
end Go.Proofs.Yteelepjhlhifhaa
