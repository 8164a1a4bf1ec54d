/- limits and samples that came in. -/
import Derived.Test.YtldfommfaegdiaaOpenRow
import Derived.Test.YtldfommfaegdiaaLimRow
import Derived.Test.YtldfommfaegdiaaNameMath
namespace Go.Proofs.Ytldfommfaegdiaa
open Go.ChangeShapes Go.WideShapes Go.ChangeAt Go.RowKit

theorem cellsLim : Try.prog.cellsOf 25 = 8 := by kernel_rfl
theorem cellsSam : Try.prog.cellsOf 47 = 3 := by kernel_rfl
theorem cells9 : Try.prog.cellsOf 9 = 1 := by kernel_rfl
def Lim.fits (x : Lim) : Prop := x.p.size ≤ 9223372036854775807 ∧ In64 x.ll ∧ In64 x.lo ∧ In64 x.hi ∧ In64 x.hh ∧ In64 x.ct ∧ In64 x.cl ∧ In64 x.bk
def Sam.fits (x : Sam) : Prop := x.p.size ≤ 9223372036854775807 ∧ In64 x.t ∧ In64 x.v
theorem str_cell {H : Type} {enc : TypeId × Value → H} {W : World} {sp : Nat → Bool} {held : Bool} {n : Nat} {c : Value} {y : DataW H × List MemPlace}
    (h : DataW.trod enc Try.prog W 0 sp held n 9 [c] = some y) : ∃ s : ByteArray, c = .string s ∧ s.size ≤ 9223372036854775807 := by
  obtain ⟨s, e, _, hs⟩ := DataW.trod_string Try.underlying9 h
  injection e with e
  exact ⟨s, e, by unfold maxLen at hs; omega⟩
set_option maxRecDepth 100000 in
theorem lim_of {H : Type} {enc : TypeId × Value → H} {W : World} {sp : Nat → Bool} {held : Bool} {n : Nat} {cs : List Value} {x : DataW H × List MemPlace}
    (h : DataW.trod enc Try.prog W 0 sp held n 25 cs = some x) : ∃ m : Lim, cs = m.cells ∧ m.fits := by
  obtain ⟨xs, k, _, rfl, hl, hlen, hf⟩ := DataW.trod_struct Try.underlying25 h
  rw [cellsLim] at hl
  obtain ⟨a, b, c, d, e, f, g, i, rfl⟩ : ∃ a b c d e f g i, cs = [a, b, c, d, e, f, g, i] := by
    match cs, hl with
    | [a, b, c, d, e, f, g, i], _ => exact ⟨a, b, c, d, e, f, g, i, rfl⟩
  match xs, hlen with
  | [y0, y1, y2, y3, y4, y5, y6, y7], _ =>
    have h0 : DataW.trod enc Try.prog W 0 sp held k 9 [a] = some y0 := by simpa [cells9] using hf 0 _ rfl
    have h1 : DataW.trod enc Try.prog W 0 sp held k 3 [b] = some y1 := by simpa [cells3] using hf 1 _ rfl
    have h2 : DataW.trod enc Try.prog W 0 sp held k 3 [c] = some y2 := by simpa [cells3] using hf 2 _ rfl
    have h3 : DataW.trod enc Try.prog W 0 sp held k 3 [d] = some y3 := by simpa [cells3] using hf 3 _ rfl
    have h4 : DataW.trod enc Try.prog W 0 sp held k 3 [e] = some y4 := by simpa [cells3] using hf 4 _ rfl
    have h5 : DataW.trod enc Try.prog W 0 sp held k 3 [f] = some y5 := by simpa [cells3] using hf 5 _ rfl
    have h6 : DataW.trod enc Try.prog W 0 sp held k 3 [g] = some y6 := by simpa [cells3] using hf 6 _ rfl
    have h7 : DataW.trod enc Try.prog W 0 sp held k 3 [i] = some y7 := by simpa [cells3] using hf 7 _ rfl
    obtain ⟨s, rfl, ws⟩ := str_cell h0
    obtain ⟨z1, rfl, w1⟩ := int_cell h1
    obtain ⟨z2, rfl, w2⟩ := int_cell h2
    obtain ⟨z3, rfl, w3⟩ := int_cell h3
    obtain ⟨z4, rfl, w4⟩ := int_cell h4
    obtain ⟨z5, rfl, w5⟩ := int_cell h5
    obtain ⟨z6, rfl, w6⟩ := int_cell h6
    obtain ⟨z7, rfl, w7⟩ := int_cell h7
    exact ⟨⟨s, z1, z2, z3, z4, z5, z6, z7⟩, rfl, ws, w1, w2, w3, w4, w5, w6, w7⟩
set_option maxRecDepth 100000 in
theorem sam_of {H : Type} {enc : TypeId × Value → H} {W : World} {sp : Nat → Bool} {held : Bool} {n : Nat} {cs : List Value} {x : DataW H × List MemPlace}
    (h : DataW.trod enc Try.prog W 0 sp held n 47 cs = some x) : ∃ m : Sam, cs = m.cells ∧ m.fits := by
  obtain ⟨xs, k, _, rfl, hl, hlen, hf⟩ := DataW.trod_struct Try.underlying47 h
  rw [cellsSam] at hl
  obtain ⟨a, b, c, rfl⟩ : ∃ a b c, cs = [a, b, c] := by
    match cs, hl with
    | [a, b, c], _ => exact ⟨a, b, c, rfl⟩
  match xs, hlen with
  | [y0, y1, y2], _ =>
    have h0 : DataW.trod enc Try.prog W 0 sp held k 3 [a] = some y0 := by simpa [cells3] using hf 0 _ rfl
    have h1 : DataW.trod enc Try.prog W 0 sp held k 9 [b] = some y1 := by simpa [cells9] using hf 1 _ rfl
    have h2 : DataW.trod enc Try.prog W 0 sp held k 3 [c] = some y2 := by simpa [cells3] using hf 2 _ rfl
    obtain ⟨z0, rfl, w0⟩ := int_cell h0
    obtain ⟨s, rfl, ws⟩ := str_cell h1
    obtain ⟨z2, rfl, w2⟩ := int_cell h2
    exact ⟨⟨z0, s, z2⟩, rfl, ws, w0, w2⟩
/-- Limits that came in. -/
theorem open_lims {H : Type} {enc : TypeId × Value → H} {W : World} {sp : Nat → Bool} {held : Bool} {n : Nat} {v : Value} {y : DataW H × List MemPlace}
    (hlt : ∀ x ∈ y.2, x.block < W.heap.size) (h : DataW.trod enc Try.prog W 0 sp held n 22 [v] = some y) :
    ∃ (A : Option Addr) (c : Nat) (l : List Lim), v = .slice A l.length c ∧ l.length ≤ c ∧ c ≤ maxLen ∧ SR Lim.cells W W.heap.size A l ∧ (∀ a ∈ l, a.fits) ∧ (l = [] ∨ ∃ el sp', y.1 = .slice el sp' ∧ l.length ≤ el.length) :=
  open_row Lim.cells 8 Lim.eight (by omega) Try.underlying22 cellsLim Lim.fits (fun h _ => lim_of h) hlt h
/-- Samples that came in. -/
theorem open_sams {H : Type} {enc : TypeId × Value → H} {W : World} {sp : Nat → Bool} {held : Bool} {n : Nat} {v : Value} {y : DataW H × List MemPlace}
    (hlt : ∀ x ∈ y.2, x.block < W.heap.size) (h : DataW.trod enc Try.prog W 0 sp held n 23 [v] = some y) :
    ∃ (A : Option Addr) (c : Nat) (l : List Sam), v = .slice A l.length c ∧ l.length ≤ c ∧ c ≤ maxLen ∧ SR Sam.cells W W.heap.size A l ∧ (∀ a ∈ l, a.fits) ∧ (l = [] ∨ ∃ el sp', y.1 = .slice el sp' ∧ l.length ≤ el.length) :=
  open_row Sam.cells 3 Sam.three (by omega) Try.underlying23 cellsSam Sam.fits (fun h _ => sam_of h) hlt h
set_option maxRecDepth 100000 in
/-- A limit that came in. -/
theorem open_lim {H : Type} {enc : TypeId × Value → H} {W : World} {r : Reach} {b0 : Nat} {sp : Nat → Bool} {held : Bool} {v : Value} {d : DataW H} {p : List MemPlace}
    (hv : Value.okWide Try.prog W r b0 25 v) (h : DataW.Trod enc Try.prog W 0 sp held 25 v d p) :
    ∃ x : Lim, v = limV x.p x.ll x.lo x.hi x.hh x.ct x.cl x.bk ∧ x.fits := by
  obtain ⟨cs, ys, n, rfl, hl, _, _, hg⟩ := open_fields Try.underlying25 (by kernel_rfl) cellsLim hv h
  obtain ⟨c0, y0, e0, _, h0⟩ := hg 0 _ rfl
  obtain ⟨c1, y1, e1, _, h1⟩ := hg 1 _ rfl
  obtain ⟨c2, y2, e2, _, h2⟩ := hg 2 _ rfl
  obtain ⟨c3, y3, e3, _, h3⟩ := hg 3 _ rfl
  obtain ⟨c4, y4, e4, _, h4⟩ := hg 4 _ rfl
  obtain ⟨c5, y5, e5, _, h5⟩ := hg 5 _ rfl
  obtain ⟨c6, y6, e6, _, h6⟩ := hg 6 _ rfl
  obtain ⟨c7, y7, e7, _, h7⟩ := hg 7 _ rfl
  obtain ⟨s, rfl, ws⟩ := str_cell h0
  obtain ⟨z1, rfl, w1⟩ := int_cell h1
  obtain ⟨z2, rfl, w2⟩ := int_cell h2
  obtain ⟨z3, rfl, w3⟩ := int_cell h3
  obtain ⟨z4, rfl, w4⟩ := int_cell h4
  obtain ⟨z5, rfl, w5⟩ := int_cell h5
  obtain ⟨z6, rfl, w6⟩ := int_cell h6
  obtain ⟨z7, rfl, w7⟩ := int_cell h7
  refine ⟨⟨s, z1, z2, z3, z4, z5, z6, z7⟩, ?_, ws, w1, w2, w3, w4, w5, w6, w7⟩
  match cs, hl with
  | [a0, a1, a2, a3, a4, a5, a6, a7], _ =>
    simp only [List.getElem?_cons_zero, List.getElem?_cons_succ, Option.some.injEq] at e0 e1 e2 e3 e4 e5 e6 e7
    subst e0 e1 e2 e3 e4 e5 e6 e7
    rfl
end Go.Proofs.Ytldfommfaegdiaa
