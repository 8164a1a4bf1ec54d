/- the walk of Written. -/
import Derived.Test.YtpccpkjfnmclfaaBase
import Derived.Test.YtpccpkjfnmclfaaReadAt
namespace Go.Proofs.Ytpccpkjfnmclfaa
open Go.RowKit
attribute [local go_sem] msetCell_draws malloc_draws

/-- what Written and Flipped leave -/
def BankPost (r : (List Int × List Int) × Int) (w : World) (e : Ending) (w' : World) : Prop :=
  ∃ A A' c c', e = .returned (.tuple #[bankV A A' r.1.1.length r.1.2.length c c', .int .i64 r.2]) ∧ IR w' w'.heap.size A r.1.1 ∧ IR w' w'.heap.size A' r.1.2 ∧ Below w.heap.size w w' ∧ (∀ ad, A = some ad → w.heap.size ≤ ad.block) ∧ (∀ ad, A' = some ad → w.heap.size ≤ ad.block)
theorem IR.other {w : World} {B g k : Nat} {A : Option Addr} {l : List Int} {u : Value} (h : IR w B A l) (hA : ∀ ad, A = some ad → ad.block ≠ g) : IR (w.setCell ⟨g, k, none⟩ u) B A l := by
  rcases h with e | ⟨ad, e, hl, hc⟩
  · exact .inl e
  · refine .inr ⟨ad, e, hl, fun j v hv => ?_⟩
    have hb := hA ad e
    rw [← hc j v hv]
    exact World.cell?_of_block (w := w) (Below.heap_setCell w ⟨g, k, none⟩ u _ (by rw [add_block]; exact hb))
theorem bankPost_none (F : Int) {w w' : World} (h : Below w.heap.size w w') : BankPost (([], []), F) w (.returned (.tuple #[.agg #[.slice none 0 0, .slice none 0 0], .int .i64 F])) w' :=
  ⟨.none, .none, 0, 0, rfl, .inl rfl, .inl rfl, h, (fun _ q => by cases q), (fun _ q => by cases q)⟩
/-- block b holds a bank's twoV slices -/
def HeldB (w : World) (b : Nat) (x y : Value) : Prop := w.heap[b]? = some (.cells #[x, y] 56 (0, 0))
theorem HeldB.lt {w : World} {b : Nat} {x y : Value} (h : HeldB w b x y) : b < w.heap.size := (Array.getElem?_eq_some_iff.1 h).1
theorem HeldB.cells {w : World} {b : Nat} {x y : Value} (h : HeldB w b x y) : w.cell? ⟨b, 0, none⟩ = some x ∧ w.cell? ⟨b, 1, none⟩ = some y := by
  unfold HeldB at h
  exact ⟨by simp [World.cell?, h], by simp [World.cell?, h]⟩
theorem HeldB.free {w : World} {b : Nat} {x y : Value} (h : HeldB w b x y) (k : Nat) : w.frozen? ⟨b, k, none⟩ = false := by
  unfold HeldB at h
  simp [World.frozen?, h]
theorem HeldB.below {w w' : World} {b B : Nat} {x y : Value} (h : HeldB w b x y) (hb : Below B w w') (hp : b < B) : HeldB w' b x y := (hb.block b hp).trans h
theorem HeldB.other {w : World} {b g k : Nat} {x y u : Value} (h : HeldB w b x y) (hne : b ≠ g) : HeldB (w.setCell ⟨g, k, none⟩ u) b x y := (Below.heap_setCell w ⟨g, k, none⟩ u b hne).trans h
theorem HeldB.drew {w : World} {b : Nat} {x y : Value} (h : HeldB w b x y) : HeldB w.drew b x y := h
theorem HeldB.drawn {w : World} {b : Nat} {x y : Value} (h : HeldB w b x y) (n : Nat) : HeldB (w.drewN n) b x y := h
theorem HeldB.new (w : World) (x y : Value) : HeldB (w.alloc (.cells #[x, y] 56)) w.heap.size x y := heap_alloc_new w _

end Go.Proofs.Ytpccpkjfnmclfaa
