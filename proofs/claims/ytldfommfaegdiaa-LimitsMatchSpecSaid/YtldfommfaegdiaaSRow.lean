/- slices of structs: cells of each element one behind the other; rows of the call's own. -/
import Derived.Test.YtldfommfaegdiaaAppend
namespace Go.Proofs.Ytldfommfaegdiaa
open Go.RowKit

theorem setCell_draws (w : World) (n : Nat) (a : Addr) (v : Value) : (w.drewN n).setCell a v = (w.setCell a v).drewN n := rfl
theorem alloc_draws (w : World) (n : Nat) (o : Obj) : (w.drewN n).alloc o = (w.alloc o).drewN n := rfl
def rcells {α : Type} (f : α → List Value) (l : List α) : List Value := l.flatMap f
theorem rcells_len {α : Type} {f : α → List Value} {s : Nat} (hf : ∀ x, (f x).length = s) (l : List α) : (rcells f l).length = l.length * s := by
  induction l with
  | nil => simp [rcells]
  | cons x l ih =>
    have : (rcells f (x :: l)) = f x ++ rcells f l := by simp [rcells]
    rw [this, List.length_append, ih, hf, List.length_cons, Nat.succ_mul]
    omega
theorem rcells_get {α : Type} {f : α → List Value} {s : Nat} (hf : ∀ x, (f x).length = s) : ∀ (l : List α) (k j : Nat) (hk : k < l.length) (_ : j < s), (rcells f l)[k * s + j]? = (f l[k])[j]?
  | [], k, j, hk, _ => by simp at hk
  | x :: l, 0, j, _, hj => by
    have : (rcells f (x :: l)) = f x ++ rcells f l := by simp [rcells]
    rw [this, Nat.zero_mul, Nat.zero_add, List.getElem?_append_left (by rw [hf]; exact hj)]
    rfl
  | x :: l, k + 1, j, hk, hj => by
    have : (rcells f (x :: l)) = f x ++ rcells f l := by simp [rcells]
    rw [this, List.getElem?_append_right (by rw [hf, Nat.succ_mul]; omega), hf]
    have e : (k + 1) * s + j - s = k * s + j := by rw [Nat.succ_mul]; omega
    rw [e]
    exact rcells_get hf l k j (by simpa using hk) hj
theorem rcells_snoc {α : Type} (f : α → List Value) (l : List α) (x : α) : rcells f (l ++ [x]) = rcells f l ++ f x := by simp [rcells]
/-- at A, below block B, lie the elements l -/
def SR {α : Type} (f : α → List Value) (w : World) (B : Nat) (A : Option Addr) (l : List α) : Prop := Cells w B A (rcells f l)
theorem SR.below {α : Type} {f : α → List Value} {w w' : World} {B : Nat} {A : Option Addr} {l : List α} (h : SR f w B A l) (hb : Below B w w') : SR f w' B A l := Cells.below h hb
theorem SR.lift {α : Type} {f : α → List Value} {w : World} {B B' : Nat} {A : Option Addr} {l : List α} (h : SR f w B A l) (hb : B ≤ B') : SR f w B' A l := Cells.lift h hb
theorem SR.get {α : Type} {f : α → List Value} {s : Nat} (hf : ∀ x, (f x).length = s) (hs : 0 < s) {w : World} {B : Nat} {A : Option Addr} {l : List α} (h : SR f w B A l) (k : Nat) (hk : k < l.length) :
    ∃ ad, A = some ad ∧ ad.block < B ∧ ∀ j v, (f l[k])[j]? = some v → w.cell? ((ad.add (k * s)).add j) = some v := by
  rcases h with e | ⟨ad, e, hb, hc⟩
  · have := rcells_len hf l
    rw [e] at this
    have := Nat.mul_pos (show 0 < l.length by omega) hs
    simp at *
    omega
  · refine ⟨ad, e, hb, fun j v hv => ?_⟩
    have hj : j < s := by
      rw [← hf l[k]]
      exact (List.getElem?_eq_some_iff.1 hv).1
    rw [add_twice]
    exact hc _ _ ((rcells_get hf l k j hk hj).trans hv)
theorem add_at (a : Addr) (j : Nat) (hj : 0 < j) : a.add j = ⟨a.block, a.off + j, none⟩ := by
  simp [Addr.add, Nat.pos_iff_ne_zero.1 hj]
/-- a row of structs of the call's own -/
def OwnS {α : Type} (f : α → List Value) (e : TypeId) (s : Nat) (w : World) (base : Nat) (v : Value) (l : List α) : Prop := w.ownsRow base e s v l.length (rcells f l)
theorem OwnS.nil {α : Type} (f : α → List Value) (e : TypeId) (s : Nat) (w : World) (base : Nat) : OwnS f e s w base (.slice none 0 0) [] := w.ownsRow_nil base e s
theorem OwnS.after {α : Type} {f : α → List Value} {e : TypeId} {s : Nat} {w w' : World} {base B : Nat} {v : Value} {l : List α} (h : OwnS f e s w base v l) (hb : Below B w w') (hB : w.heap.size ≤ B) : OwnS f e s w' base v l :=
  World.ownsRow.kept (row := none) h ⟨hb.os, hb.tape, hb.output, hb.size, fun k hk _ => hb.block k (by omega)⟩ (by
    rcases h' : v.ownBlock with _ | g
    · exact .inl rfl
    · exact .inr (by simp))
theorem OwnS.form {α : Type} {f : α → List Value} {e : TypeId} {s : Nat} {w : World} {base : Nat} {v : Value} {l : List α} (h : OwnS f e s w base v l) : ∃ A c, v = .slice A l.length c ∧ SR f w w.heap.size A l ∧ l.length ≤ c ∧ ∀ ad, A = some ad → base ≤ ad.block := by
  have hh := h
  rcases hh.2 with ⟨rfl, hn⟩ | ⟨g, cap, cur, rfl, hb, hg, hnc, _⟩
  · have e : l = [] := List.eq_nil_of_length_eq_zero hn
    subst e
    exact ⟨none, 0, rfl, .inl rfl, Nat.le_refl _, fun ad q => by cases q⟩
  · exact ⟨_, cap, rfl, .inr ⟨_, rfl, (h.lt g rfl).2, fun j u hu => World.ownsRow.cells h (g := g) rfl j u hu⟩, hnc, fun ad q => by injection q with q; subst q; exact hb⟩
theorem OwnS.snoc {α : Type} {f : α → List Value} {e : TypeId} {s : Nat} {w : World} {base : Nat} {v : Value} {l : List α} {x : α} (h : w.ownsRow base e s v (l.length + 1) (rcells f l ++ rcells f [x])) : OwnS f e s w base v (l ++ [x]) := by
  unfold OwnS
  rw [List.length_append, show rcells f (l ++ [x]) = rcells f l ++ rcells f [x] by simp [rcells]]
  exact h
theorem SR.none_nil {α : Type} {f : α → List Value} {s : Nat} (hf : ∀ x, (f x).length = s) (hs : 0 < s) {w : World} {B : Nat} {l : List α} (h : SR f w B none l) : l = [] := by
  rcases h with e | ⟨ad, e, _⟩
  · have := rcells_len hf l
    rw [e] at this
    have h0 : l.length * s = 0 := by simpa using this.symm
    rcases Nat.mul_eq_zero.1 h0 with h | h
    · exact List.eq_nil_of_length_eq_zero h
    · omega
  · cases e
end Go.Proofs.Ytldfommfaegdiaa
