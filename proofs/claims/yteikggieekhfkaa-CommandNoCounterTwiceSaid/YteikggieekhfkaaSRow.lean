/- slices of structs: cells of each element one behind the other. -/
import Derived.Test.YteikggieekhfkaaTakeAll
namespace Go.Proofs.Yteikggieekhfkaa
open Go.RowKit

def rcells {α : Type} (f : α → List Value) (l : List α) : List Value := l.flatMap f
theorem rcells_len {α : Type} {f : α → List Value} {s : Nat} (hf : ∀ x, (f x).length = s) (l : List α) : (rcells f l).length = l.length * s := by
  induction l with
  | nil => simp [rcells]
  | cons x l ih =>
    have : (rcells f (x :: l)) = f x ++ rcells f l := by simp [rcells]
    rw [this, List.length_append, ih, hf, List.length_cons, Nat.succ_mul]
    omega
theorem rcells_get {α : Type} {f : α → List Value} {s : Nat} (hf : ∀ x, (f x).length = s) : ∀ (l : List α) (k j : Nat) (hk : k < l.length) (_ : j < s), (rcells f l)[k * s + j]? = (f l[k])[j]?
  | [], k, j, hk, _ => by simp at hk
  | x :: l, 0, j, _, hj => by
    have : (rcells f (x :: l)) = f x ++ rcells f l := by simp [rcells]
    rw [this, Nat.zero_mul, Nat.zero_add, List.getElem?_append_left (by rw [hf]; exact hj)]
    rfl
  | x :: l, k + 1, j, hk, hj => by
    have : (rcells f (x :: l)) = f x ++ rcells f l := by simp [rcells]
    rw [this, List.getElem?_append_right (by rw [hf, Nat.succ_mul]; omega), hf]
    have e : (k + 1) * s + j - s = k * s + j := by rw [Nat.succ_mul]; omega
    rw [e]
    exact rcells_get hf l k j (by simpa using hk) hj
theorem rcells_snoc {α : Type} (f : α → List Value) (l : List α) (x : α) : rcells f (l ++ [x]) = rcells f l ++ f x := by simp [rcells]
/-- at A, below block B, lie the elements l -/
def SR {α : Type} (f : α → List Value) (w : World) (B : Nat) (A : Option Addr) (l : List α) : Prop := Cells w B A (rcells f l)
theorem SR.below {α : Type} {f : α → List Value} {w w' : World} {B : Nat} {A : Option Addr} {l : List α} (h : SR f w B A l) (hb : Below B w w') : SR f w' B A l := Cells.below h hb
theorem SR.lift {α : Type} {f : α → List Value} {w : World} {B B' : Nat} {A : Option Addr} {l : List α} (h : SR f w B A l) (hb : B ≤ B') : SR f w B' A l := Cells.lift h hb
theorem SR.get {α : Type} {f : α → List Value} {s : Nat} (hf : ∀ x, (f x).length = s) (hs : 0 < s) {w : World} {B : Nat} {A : Option Addr} {l : List α} (h : SR f w B A l) (k : Nat) (hk : k < l.length) :
    ∃ ad, A = some ad ∧ ad.block < B ∧ ∀ j v, (f l[k])[j]? = some v → w.cell? ((ad.add (k * s)).add j) = some v := by
  rcases h with e | ⟨ad, e, hb, hc⟩
  · have := rcells_len hf l
    rw [e] at this
    have := Nat.mul_pos (show 0 < l.length by omega) hs
    simp at *
    omega
  · refine ⟨ad, e, hb, fun j v hv => ?_⟩
    have hj : j < s := by
      rw [← hf l[k]]
      exact (List.getElem?_eq_some_iff.1 hv).1
    rw [add_twice]
    exact hc _ _ ((rcells_get hf l k j hk hj).trans hv)
theorem add_at (a : Addr) (j : Nat) (hj : 0 < j) : a.add j = ⟨a.block, a.off + j, none⟩ := by
  simp [Addr.add, Nat.pos_iff_ne_zero.1 hj]
/-- a command with where its body lies -/
structure Od where
  c : Int
  m : Int
  A : Option Addr
  n : Nat
  k : Nat
def Od.cells (x : Od) : List Value := [.int .i64 x.c, .int .i64 x.m, .slice x.A x.n x.k]
theorem Od.three (x : Od) : x.cells.length = 3 := rfl
theorem ods_get {w : World} {B : Nat} {A : Option Addr} {l : List Od} (h : SR Od.cells w B A l) (k : Nat) (hk : k < l.length) :
    ∃ ad, A = some ad ∧ ad.block < B ∧ w.cell? (ad.add (k * 3)) = some (.int .i64 l[k].c) ∧ w.cell? ⟨(ad.add (k * 3)).block, (ad.add (k * 3)).off + 1, none⟩ = some (.int .i64 l[k].m) ∧
      w.cell? ⟨(ad.add (k * 3)).block, (ad.add (k * 3)).off + 2, none⟩ = some (.slice l[k].A l[k].n l[k].k) := by
  obtain ⟨ad, e, hb, hc⟩ := SR.get Od.three (by omega) h k hk
  refine ⟨ad, e, hb, ?_, ?_, ?_⟩
  · have := hc 0 _ rfl
    rwa [addr_zero] at this
  · rw [← add_at _ 1 (by omega)]
    exact hc 1 _ rfl
  · rw [← add_at _ 2 (by omega)]
    exact hc 2 _ rfl
end Go.Proofs.Yteikggieekhfkaa
