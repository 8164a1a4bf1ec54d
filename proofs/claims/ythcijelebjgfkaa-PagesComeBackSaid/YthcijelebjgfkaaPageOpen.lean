/- a page among the arguments. -/
import Derived.Test.YthcijelebjgfkaaFlashOpen
import Derived.Test.YthcijelebjgfkaaPgEnc
namespace Go.Proofs.Ythcijelebjgfkaa
open Go.ChangeShapes Go.WideShapes Go.ChangeAt Go.RowKit

theorem str_cellP {H : Type} {enc : TypeId × Value → H} {W : World} {sp : Nat → Bool} {held : Bool} {n : Nat} {c : Value} {y : DataW H × List MemPlace}
    (h : DataW.trod enc Try.prog W 0 sp held n 9 [c] = some y) : ∃ s : ByteArray, c = .string s ∧ s.size ≤ 9223372036854775807 := by
  obtain ⟨s, e, _, hs⟩ := DataW.trod_string Try.underlying9 h
  injection e with e
  exact ⟨s, e, by unfold maxLen at hs; omega⟩
theorem cellsPage : Try.prog.cellsOf 40 = 6 := by kernel_rfl
set_option maxRecDepth 100000 in
theorem open_page {H : Type} {enc : TypeId × Value → H} {W : World} {r : Reach} {b0 : Nat} {sp : Nat → Bool} {held : Bool} {v : Value} {d : DataW H} {p : List MemPlace}
    (hlt : ∀ x ∈ p, x.block < W.heap.size) (hv : Value.okWide Try.prog W r b0 40 v) (h : DataW.Trod enc Try.prog W 0 sp held 40 v d p) :
    ∃ (x : Pg) (A : Option Addr) (c : Nat), v = pgV x A c ∧ x.name.size ≤ 9223372036854775807 ∧ x.bytes.length ≤ c ∧ c ≤ maxLen ∧ BR W W.heap.size A x.bytes := by
  obtain ⟨cs, ys, n, rfl, hl, rfl, hy, hf⟩ := open_fields Try.underlying40 (by kernel_rfl) cellsPage hv h
  obtain ⟨c0, y0, e0, z0, h0⟩ := hf 0 _ rfl
  obtain ⟨c1, y1, e1, z1, h1⟩ := hf 1 _ rfl
  obtain ⟨c2, y2, e2, z2, h2⟩ := hf 2 _ rfl
  obtain ⟨c3, y3, e3, z3, h3⟩ := hf 3 _ rfl
  obtain ⟨c4, y4, e4, z4, h4⟩ := hf 4 _ rfl
  obtain ⟨c5, y5, e5, z5, h5⟩ := hf 5 _ rfl
  obtain ⟨gen, q0, -⟩ := DataW.trod_int Try.underlying3 h0
  obtain ⟨gone, q1, -⟩ := DataW.trod_bool Try.underlying4 h1
  obtain ⟨nm, q2, hs⟩ := str_cellP h2
  obtain ⟨ix, q3, -⟩ := DataW.trod_int Try.underlying3 h3
  obtain ⟨last, q4, -⟩ := DataW.trod_bool Try.underlying4 h4
  have m5 : y5 ∈ ys := List.mem_of_getElem? z5
  obtain ⟨A, c, l, q5, hlc, hc, hB⟩ := open_u8s (fun x hx => hlt x (List.mem_flatMap.2 ⟨y5, m5, hx⟩)) h5
  refine ⟨⟨gen, gone, nm, ix, last, l⟩, A, c, ?_, hs, hlc, hc, hB⟩
  match cs, hl with
  | [a0, a1, a2, a3, a4, a5], _ =>
    simp only [List.getElem?_cons_zero, List.getElem?_cons_succ, Option.some.injEq] at e0 e1 e2 e3 e4 e5
    simp only [List.cons.injEq, and_true] at q0 q1 q3 q4
    subst e0 e1 e2 e3 e4 e5 q0 q1 q2 q3 q4 q5
    rfl
end Go.Proofs.Ythcijelebjgfkaa
