/- banks that came in. -/
import Derived.Test.YteelepjhlhifhaaClose
import Derived.Test.YteelepjhlhifhaaCheckBank
import Derived.Deep.Slices
import Derived.Deep.Strs
namespace Go.Proofs.Yteelepjhlhifhaa
open Go.ChangeShapes Go.WideShapes Go.ChangeAt Go.RowKit

theorem cellsBank : Try.prog.cellsOf 52 = 2 := by kernel_rfl
set_option maxRecDepth 100000 in
/-- A bank that came in. -/
theorem open_bank {H : Type} {enc : TypeId × Value → H} {W : World} {r : Reach} {b0 : Nat} {sp : Nat → Bool} {held : Bool} {v : Value} {d : DataW H} {p : List MemPlace}
    (hlt : ∀ x ∈ p, x.block < W.heap.size) (hv : Value.okWide Try.prog W r b0 52 v) (h : DataW.Trod enc Try.prog W 0 sp held 52 v d p) :
    ∃ (A A' : Option Addr) (c c' : Nat) (l l' : List Int), v = bankV A A' l.length l'.length c c' ∧ l.length ≤ 9223372036854775807 ∧ l'.length ≤ 9223372036854775807 ∧ IR W W.heap.size A l ∧ IR W W.heap.size A' l' := by
  obtain ⟨cs, ys, n, rfl, hl, hp, hys, hg⟩ := open_fields Try.underlying52 (by kernel_rfl) cellsBank hv h
  obtain ⟨c0, y0, e0, f0, h0⟩ := hg 0 _ rfl
  obtain ⟨c1, y1, e1, f1, h1⟩ := hg 1 _ rfl
  have m0 : y0 ∈ ys := List.mem_of_getElem? f0
  have m1 : y1 ∈ ys := List.mem_of_getElem? f1
  obtain ⟨A, k, l, rfl, hlc, hc, hA, -⟩ := open_is (fun x hx => hlt x (by rw [hp]; exact List.mem_flatMap.2 ⟨y0, m0, hx⟩)) h0
  obtain ⟨A', k', l', rfl, hlc', hc', hA', -⟩ := open_is (fun x hx => hlt x (by rw [hp]; exact List.mem_flatMap.2 ⟨y1, m1, hx⟩)) h1
  obtain ⟨a, b, rfl⟩ : ∃ a b, cs = [a, b] := by
    match cs, hl with
    | [a, b], _ => exact ⟨a, b, rfl⟩
  simp at e0 e1
  subst e0 e1
  unfold maxLen at hc hc'
  exact ⟨A, A', k, k', l, l', rfl, by omega, by omega, hA, hA'⟩
end Go.Proofs.Yteelepjhlhifhaa
