/- words for rows of flips; both CheckFlips. -/
import Derived.Test.YtpccpkjfnmclfaaFlipMath
import Derived.Test.YtpccpkjfnmclfaaPlaces
import Derived.Test.YtpccpkjfnmclfaaScrubW
namespace Go.Proofs.Ytpccpkjfnmclfaa
open Go.RowKit

def Flp.cells (x : Flp) : List Value := [.int .i64 x.t, .int .i64 x.p, .int .i64 x.b]
def fcells (l : List Flp) : List Value := l.flatMap Flp.cells
theorem fcells_len (l : List Flp) : (fcells l).length = l.length * 3 := by
  induction l with
  | nil => rfl
  | cons x l ih => simp only [fcells, List.flatMap_cons, List.length_append] at ih ⊢; rw [ih]; simp [Flp.cells]; omega
theorem fcells_get : ∀ (l : List Flp) (k j : Nat) (hk : k < l.length) (_ : j < 3), (fcells l)[k * 3 + j]? = (l[k].cells)[j]?
  | x :: l, 0, j, hk, hj => by
    simp only [fcells, List.flatMap_cons, List.getElem_cons_zero, Nat.zero_mul, Nat.zero_add]
    rw [List.getElem?_append_left (by simp [Flp.cells]; omega)]
  | x :: l, k + 1, j, hk, hj => by
    have := fcells_get l k j (by simpa using hk) hj
    simp only [fcells, List.flatMap_cons, List.getElem_cons_succ] at this ⊢
    rw [List.getElem?_append_right (by simp [Flp.cells]; omega), ← this]
    congr 1
    simp [Flp.cells]
    omega
/-- at A, below block B, lie the flips l -/
def FR (w : World) (B : Nat) (A : Option Addr) (l : List Flp) : Prop := Cells w B A (fcells l)
theorem FR.below {w w' : World} {B : Nat} {A : Option Addr} {l : List Flp} (h : FR w B A l) (hb : Below B w w') : FR w' B A l := Cells.below h hb
theorem FR.lift {w : World} {B B' : Nat} {A : Option Addr} {l : List Flp} (h : FR w B A l) (hb : B ≤ B') : FR w B' A l := Cells.lift h hb
theorem add_lit3 (a : Addr) (n j : Nat) (hj : 0 < j) : a.add (n + j) = ⟨(a.add n).block, (a.add n).off + j, none⟩ := by
  rw [← add_twice]
  simp [Addr.add, Nat.pos_iff_ne_zero.1 hj]
theorem FR.get {w : World} {B : Nat} {A : Option Addr} {l : List Flp} (h : FR w B A l) (k : Nat) (hk : k < l.length) :
    ∃ ad, A = some ad ∧ ad.block < B ∧ w.cell? (ad.add (k * 3)) = some (.int .i64 l[k].t) ∧ w.cell? ⟨(ad.add (k * 3)).block, (ad.add (k * 3)).off + 1, none⟩ = some (.int .i64 l[k].p) ∧ w.cell? ⟨(ad.add (k * 3)).block, (ad.add (k * 3)).off + 2, none⟩ = some (.int .i64 l[k].b) := by
  rcases h with e | ⟨ad, e, hb, hc⟩
  · have := fcells_len l
    rw [e] at this
    simp at this
    omega
  · refine ⟨ad, e, hb, hc _ _ (fcells_get l k 0 hk (by omega)), ?_, ?_⟩
    · rw [← add_lit3 ad (k * 3) 1 (by omega)]
      exact hc _ _ (fcells_get l k 1 hk (by omega))
    · rw [← add_lit3 ad (k * 3) 2 (by omega)]
      exact hc _ _ (fcells_get l k 2 hk (by omega))
theorem flips_step (n : Nat) (u : Int) (f : List Flp) (k : Nat) (hk : k < f.length) : flipsF n u (f.drop k) = if 0 ≤ f[k].t ∧ f[k].t ≤ 1000000000000 then (if 0 ≤ f[k].p ∧ f[k].p ≤ (n : Int) - 1 then (if 1 ≤ f[k].b ∧ f[k].b ≤ 22 then (if f[k].t < u then 8 else flipsF n f[k].t (f.drop (k + 1))) else 1) else 9) else 1 := by
  rw [List.drop_eq_getElem_cons hk]
  rfl
end Go.Proofs.Ytpccpkjfnmclfaa
