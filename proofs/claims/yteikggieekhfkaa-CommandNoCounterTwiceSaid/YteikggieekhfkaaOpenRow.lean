/- slices of structs that came in. -/
import Derived.Test.YteikggieekhfkaaCloseC
import Derived.Test.YteikggieekhfkaaSRow
namespace Go.Proofs.Yteikggieekhfkaa
open Go.ChangeShapes Go.WideShapes Go.ChangeAt Go.RowKit

set_option maxRecDepth 100000 in
theorem open_row {α : Type} [Inhabited α] (f : α → List Value) (s : Nat) (hf : ∀ x, (f x).length = s) (hs : 0 < s) {t e : TypeId} (hu : Try.prog.underlying t = some (.slice e)) (hce : Try.prog.cellsOf e = s) (P : α → Prop)
    {H : Type} {enc : TypeId × Value → H} {W : World} {sp : Nat → Bool} {held : Bool} {n : Nat} {v : Value} {y : DataW H × List MemPlace}
    (hof : ∀ {n : Nat} {cs : List Value} {x : DataW H × List MemPlace}, DataW.trod enc Try.prog W 0 sp held n e cs = some x → (∀ p ∈ x.2, p.block < W.heap.size) → ∃ a, cs = f a ∧ P a)
    (hlt : ∀ x ∈ y.2, x.block < W.heap.size) (h : DataW.trod enc Try.prog W 0 sp held n t [v] = some y) :
    ∃ (A : Option Addr) (c : Nat) (l : List α), v = .slice A l.length c ∧ l.length ≤ c ∧ c ≤ maxLen ∧ SR f W W.heap.size A l ∧ (∀ a ∈ l, P a) ∧ (l = [] ∨ ∃ el sp', y.1 = .slice el sp' ∧ l.length ≤ el.length) := by
  rcases Go.Deep.open_slice hu h with ⟨hcs, _⟩ | ⟨a, len, cap, m, k, D, Pl, hcs, _, hl, hm, hmm, hy, hel⟩
  · exact ⟨none, 0, [], by simpa using hcs, by simp, by simp [maxLen], .inl rfl, by simp, .inl rfl⟩
  have hle : len ≤ m := by rw [hmm]; split <;> omega
  rw [hce] at hel hy
  have hex : ∀ i, i < len → ∃ x : α, (∀ j, j < s → W.cell? (a.add (i * s + j)) = (f x)[j]?) ∧ P x := by
    intro i hi
    obtain ⟨cs', h1, h2⟩ := hel i (by omega)
    obtain ⟨x, rfl, hx⟩ := hof h2 (fun p hp => hlt p (by
      rw [hy]
      exact List.mem_append.2 (.inr (List.mem_flatMap.2 ⟨i, by simp; omega, hp⟩))))
    obtain ⟨_, _, hg⟩ := World.cells?_some h1
    refine ⟨x, fun j hj => ?_, hx⟩
    rw [← add_twice]
    exact hg j hj
  obtain ⟨g, hg⟩ := Go.Deep.choose_lt (α := α) (p := fun i x => (∀ j, j < s → W.cell? (a.add (i * s + j)) = (f x)[j]?) ∧ P x) hex
  have hlen : ((List.range len).map g).length = len := by simp
  refine ⟨some a, cap, (List.range len).map g, ?_, by omega, hm, ?_, ?_, .inr ⟨_, _, by rw [hy], by simp⟩⟩
  · rw [hlen]
    simpa using hcs
  · rcases Nat.eq_zero_or_pos len with h0 | hpos
    · subst h0
      exact .inl (by simp [rcells])
    refine .inr ⟨a, rfl, ?_, fun j u hu => ?_⟩
    · refine hlt (MemPlace.cell a.block a.off) ?_
      rw [hy]
      exact List.mem_append.2 (.inl (row_head a (m * s) (Nat.mul_pos (by omega) hs)))
    · have hj : j < len * s := by
        have := (List.getElem?_eq_some_iff.1 hu).1
        rw [rcells_len hf, hlen] at this
        exact this
      have hd : j / s * s + j % s = j := Nat.div_add_mod' j s
      have h3 : j % s < s := Nat.mod_lt _ hs
      have hk : j / s < len := (Nat.div_lt_iff_lt_mul hs).2 hj
      rw [← hd, rcells_get hf _ (j / s) (j % s) (by omega) h3] at hu
      rw [← hd, (hg (j / s) hk).1 (j % s) h3]
      simpa using hu
  · intro x hx
    obtain ⟨i, hi, rfl⟩ := List.mem_map.1 hx
    exact (hg i (by simpa using hi)).2
instance : Inhabited Od := ⟨⟨0, 0, none, 0, 0⟩⟩
/-- what is known of a command that came in -/
def OdIn (W : World) (x : Od) : Prop := In64 x.c ∧ In64 x.m ∧ x.n ≤ x.k ∧ x.k ≤ maxLen ∧ ∃ l : List UInt8, l.length = x.n ∧ BR W W.heap.size x.A l
set_option maxRecDepth 100000 in
theorem ord_of {H : Type} {enc : TypeId × Value → H} {W : World} {sp : Nat → Bool} {held : Bool} {n : Nat} {cs : List Value} {x : DataW H × List MemPlace}
    (h : DataW.trod enc Try.prog W 0 sp held n 26 cs = some x) (hlt : ∀ p ∈ x.2, p.block < W.heap.size) : ∃ m : Od, cs = m.cells ∧ OdIn W m := by
  obtain ⟨y0, y1, y2, k, hx, hl, h0, h1, h2⟩ := Go.Deep.trod_struct3 Try.underlying26 h
  rw [cellsOrd] at hl
  obtain ⟨a, b, c, rfl⟩ : ∃ a b c, cs = [a, b, c] := by
    match cs, hl with
    | [a, b, c], _ => exact ⟨a, b, c, rfl⟩
  have c24 : Try.prog.cellsOf 24 = 1 := by kernel_rfl
  simp only [cells3, c24, List.drop_zero, List.drop_succ_cons, List.take_succ_cons, List.take_zero] at h0 h1 h2
  obtain ⟨z0, rfl, w0⟩ := int_cell h0
  obtain ⟨z1, rfl, w1⟩ := int_cell h1
  obtain ⟨A, q, l, rfl, hlc, hc, hA⟩ := open_u8s (fun p hp => hlt p (by rw [hx]; simp [hp])) h2
  exact ⟨⟨z0, z1, A, l.length, q⟩, rfl, w0, w1, hlc, hc, l, rfl, hA⟩
/-- Commands that came in. -/
theorem open_ods {H : Type} {enc : TypeId × Value → H} {W : World} {sp : Nat → Bool} {held : Bool} {n : Nat} {v : Value} {y : DataW H × List MemPlace}
    (hlt : ∀ x ∈ y.2, x.block < W.heap.size) (h : DataW.trod enc Try.prog W 0 sp held n 37 [v] = some y) :
    ∃ (A : Option Addr) (c : Nat) (l : List Od), v = .slice A l.length c ∧ l.length ≤ c ∧ c ≤ maxLen ∧ SR Od.cells W W.heap.size A l ∧ (∀ a ∈ l, OdIn W a) ∧ (l = [] ∨ ∃ el sp', y.1 = .slice el sp' ∧ l.length ≤ el.length) :=
  open_row Od.cells 3 Od.three (by omega) Try.underlying37 cellsOrd (OdIn W) (fun h hl => ord_of h hl) hlt h
end Go.Proofs.Yteikggieekhfkaa
