/- rows of marks of the call's own. -/
import Derived.Test.YtpccpkjfnmclfaaMarks
namespace Go.Proofs.Ytpccpkjfnmclfaa
open Go.RowKit

theorem infoM : (Try.prog.info? 36).map (fun i => (i.zero, i.size, i.bytes)) = some (some (.agg #[.int .i64 0, .int .i64 0, .int .i64 0]), 3, 24) := by kernel_rfl
theorem elemM : Elem 30 36 3 24 := by
  obtain ⟨i, h1, h2, h3, h4⟩ := info_parts infoM
  exact ⟨Try.underlying30, i, _, h1, h2, h3, h4, rfl, by omega⟩
def OwnM (w : World) (base : Nat) (v : Value) (l : List Mk) : Prop := w.ownsRow base 36 3 v l.length (mcells l)
theorem mcells_one (l : List Mk) : ∀ u ∈ mcells l, u.oneCell' = true := by
  intro u hu
  obtain ⟨m, _, hm⟩ := List.mem_flatMap.1 hu
  simp only [Mk.cells, List.mem_cons, List.not_mem_nil, or_false] at hm
  rcases hm with rfl | rfl | rfl <;> rfl
theorem OwnM.form {w : World} {base : Nat} {v : Value} {l : List Mk} (h : OwnM w base v l) : ∃ A c, v = .slice A l.length c ∧ l.length ≤ c ∧ MR w w.heap.size A l := by
  have hh := h
  rcases hh.2 with ⟨rfl, hn⟩ | ⟨g, cap, cur, rfl, hb, hg, hnc, _⟩
  · rw [hn]
    have e : l = [] := List.eq_nil_of_length_eq_zero hn
    subst e
    exact ⟨none, 0, rfl, Nat.le_refl _, .inl rfl⟩
  · refine ⟨_, cap, rfl, hnc, .inr ⟨_, rfl, ?_, fun j u hu => World.ownsRow.cells h (g := g) rfl j u hu⟩⟩
    exact (h.lt g rfl).2
theorem OwnM.after {w w' : World} {base B : Nat} {v : Value} {l : List Mk} (h : OwnM w base v l) (hb : Below B w w') (hB : w.heap.size ≤ B) : OwnM w' base v l :=
  World.ownsRow.kept (row := none) h ⟨hb.os, hb.tape, hb.output, hb.size, fun k hk _ => hb.block k (by omega)⟩ (by
    rcases h' : v.ownBlock with _ | g
    · exact .inl rfl
    · exact .inr (by simp))
theorem OwnM.nil (w : World) (base : Nat) : OwnM w base (.slice none 0 0) [] := w.ownsRow_nil base 36 3
theorem OwnM.of {w : World} {base m : Nat} {v : Value} {a b : List Mk} (h : w.ownsRow base 36 3 v (a.length + m) (mcells a ++ mcells b)) (hm : m = b.length) : OwnM w base v (a ++ b) := by
  subst hm
  unfold OwnM
  rw [List.length_append]
  have e : mcells (a ++ b) = mcells a ++ mcells b := by unfold mcells; rw [List.flatMap_append]
  rw [e]
  exact h
theorem OwnM.lower {w : World} {base base' : Nat} {v : Value} {l : List Mk} (h : OwnM w base v l) (hb : base' ≤ base) : OwnM w base' v l := by
  refine ⟨h.1, ?_⟩
  rcases h.2 with e | ⟨g, cap, cur, e, hg, r⟩
  · exact .inl e
  · exact .inr ⟨g, cap, cur, e, by omega, r⟩
end Go.Proofs.Ytpccpkjfnmclfaa
