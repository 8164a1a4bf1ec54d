/- the walk of the scrubber's flip. -/
import Derived.Test.YtpccpkjfnmclfaaScrub
import Derived.Test.YtpccpkjfnmclfaaFlipW
namespace Go.Proofs.Ytpccpkjfnmclfaa
open Go.RowKit
attribute [local go_sem] msetCell_draws malloc_draws

theorem FR.head {w : World} {B : Nat} {A : Option Addr} {x : Flp} {l : List Flp} (h : FR w B A (x :: l)) :
    ∃ ad, A = some ad ∧ ad.block < B ∧ w.cell? ad = some (.int .i64 x.t) ∧ w.cell? ⟨ad.block, ad.off + 1, none⟩ = some (.int .i64 x.p) ∧ w.cell? ⟨ad.block, ad.off + 2, none⟩ = some (.int .i64 x.b) ∧ FR w B (some (ad.add 3)) l := by
  obtain ⟨ad, e, hb, c0, c1, c2⟩ := h.get 0 (by simp)
  have e0 : ad.add (0 * 3) = ad := by simp [Addr.add]
  rw [e0] at c0 c1 c2
  refine ⟨ad, e, hb, c0, c1, c2, ?_⟩
  cases l with
  | nil => exact .inl (by simp [fcells])
  | cons y l =>
    have hh : Cells w B A (fcells (x :: y :: l)) := h
    obtain ⟨ad', e', hc⟩ := hh.tail 3 (by rw [fcells_len]; simp <;> omega)
    obtain rfl : ad = ad' := by rw [e] at e'; injection e'
    exact hc
end Go.Proofs.Ytpccpkjfnmclfaa
