/- a ground that came in. -/
import Derived.Test.YteikggieekhfkaaOpenRow2
namespace Go.Proofs.Yteikggieekhfkaa
open Go.ChangeShapes Go.WideShapes Go.ChangeAt Go.RowKit

theorem slice_none {H : Type} {enc : TypeId × Value → H} {W : World} {sp : Nat → Bool} {held : Bool} {n : Nat} {t e : TypeId} {A : Option Addr} {m c : Nat} {y : DataW H × List MemPlace} (hu : Try.prog.underlying t = some (.slice e))
    (h : DataW.trod enc Try.prog W 0 sp held n t [.slice A m c] = some y) : A = none → c = 0 := by
  rintro rfl
  rcases Go.Deep.open_slice hu h with ⟨hcs, _⟩ | ⟨a, len, cap, m', k, D, Pl, hcs, _⟩
  · simp at hcs
    omega
  · simp at hcs
theorem cellsSnd : Try.prog.cellsOf 41 = 5 := by kernel_rfl
set_option maxRecDepth 100000 in
/-- A ground that came in. -/
theorem open_snd {H : Type} {enc : TypeId × Value → H} {W : World} {r : Reach} {b0 : Nat} {sp : Nat → Bool} {held : Bool} {v : Value} {d : DataW H} {p : List MemPlace}
    (hlt : ∀ x ∈ p, x.block < W.heap.size) (hv : Value.okWide Try.prog W r b0 41 v) (h : DataW.Trod enc Try.prog W 0 sp held 41 v d p) :
    ∃ (f s : Int) (A : Option Addr) (q : List (List UInt8)) (c : Nat) (wd : Int) (st : Bool), v = grdV f s (.slice A q.length c) wd st ∧ In64 f ∧ In64 s ∧ In64 wd ∧ q.length ≤ c ∧ c ≤ maxLen ∧ (A = none → c = 0) ∧ QR W W.heap.size A q := by
  obtain ⟨cs, ys, n, rfl, hl, hp, hys, hg⟩ := open_fields Try.underlying41 (by kernel_rfl) cellsSnd hv h
  obtain ⟨c0, y0, e0, _, h0⟩ := hg 0 _ rfl
  obtain ⟨c1, y1, e1, _, h1⟩ := hg 1 _ rfl
  obtain ⟨c2, y2, e2, f2, h2⟩ := hg 2 _ rfl
  obtain ⟨c3, y3, e3, _, h3⟩ := hg 3 _ rfl
  obtain ⟨c4, y4, e4, _, h4⟩ := hg 4 _ rfl
  have m2 : y2 ∈ ys := List.mem_of_getElem? f2
  obtain ⟨z0, rfl, w0⟩ := int_cell h0
  obtain ⟨z1, rfl, w1⟩ := int_cell h1
  obtain ⟨A, k, q, rfl, hlc, hc, hA, -, -⟩ := open_bss (fun x hx => hlt x (by rw [hp]; exact List.mem_flatMap.2 ⟨y2, m2, hx⟩)) h2
  have hn := slice_none Try.underlying39 h2
  obtain ⟨z3, rfl, w3⟩ := int_cell h3
  obtain ⟨z4, rfl⟩ := bool_cell h4
  refine ⟨z0, z1, A, q, k, z3, z4, ?_, w0, w1, w3, hlc, hc, hn, hA⟩
  match cs, hl with
  | [a0, a1, a2, a3, a4], _ =>
    simp only [List.getElem?_cons_zero, List.getElem?_cons_succ, Option.some.injEq] at e0 e1 e2 e3 e4
    subst e0 e1 e2 e3 e4
    rfl
end Go.Proofs.Yteikggieekhfkaa
