/- keys that came in; bytes of one's own with their room. -/
import Derived.Test.YteikggieekhfkaaOpenRow
import Derived.Test.YteikggieekhfkaaPOpd
namespace Go.Proofs.Yteikggieekhfkaa
open Go.ChangeShapes Go.WideShapes Go.ChangeAt Go.RowKit

theorem slice_noneK {H : Type} {enc : TypeId × Value → H} {W : World} {sp : Nat → Bool} {held : Bool} {n : Nat} {t e : TypeId} {A : Option Addr} {m c : Nat} {y : DataW H × List MemPlace} (hu : Try.prog.underlying t = some (.slice e))
    (h : DataW.trod enc Try.prog W 0 sp held n t [.slice A m c] = some y) : A = none → c = 0 := by
  rintro rfl
  rcases Go.Deep.open_slice hu h with ⟨hcs, _⟩ | ⟨a, len, cap, m', k, D, Pl, hcs, _⟩
  · simp at hcs
    omega
  · simp at hcs
theorem cellsKeys : Try.prog.cellsOf 58 = 3 := by kernel_rfl
set_option maxRecDepth 100000 in
/-- Keys that came in. -/
theorem open_keys {H : Type} {enc : TypeId × Value → H} {W : World} {r : Reach} {b0 : Nat} {sp : Nat → Bool} {held : Bool} {v : Value} {d : DataW H} {p : List MemPlace}
    (hlt : ∀ x ∈ p, x.block < W.heap.size) (hv : Value.okWide Try.prog W r b0 58 v) (h : DataW.Trod enc Try.prog W 0 sp held 58 v d p) :
    ∃ (key least : Int) (A : Option Addr) (l : List Int) (c : Nat), v = kyV key least (.slice A l.length c) ∧ In64 key ∧ In64 least ∧ l.length ≤ c ∧ c ≤ maxLen ∧ (A = none → c = 0) ∧ IR W W.heap.size A l := by
  obtain ⟨cs, ys, n, rfl, hl, hp, hys, hg⟩ := open_fields Try.underlying58 (by kernel_rfl) cellsKeys hv h
  obtain ⟨c0, y0, e0, _, h0⟩ := hg 0 _ rfl
  obtain ⟨c1, y1, e1, _, h1⟩ := hg 1 _ rfl
  obtain ⟨c2, y2, e2, f2, h2⟩ := hg 2 _ rfl
  have m2 : y2 ∈ ys := List.mem_of_getElem? f2
  obtain ⟨z0, rfl, w0⟩ := int_cell h0
  obtain ⟨z1, rfl, w1⟩ := int_cell h1
  obtain ⟨A, k, q, rfl, hlc, hc, hA, -⟩ := open_is (fun x hx => hlt x (by rw [hp]; exact List.mem_flatMap.2 ⟨y2, m2, hx⟩)) h2
  have hn := slice_noneK Try.underlying56 h2
  refine ⟨z0, z1, A, q, k, ?_, w0, w1, hlc, hc, hn, hA⟩
  match cs, hl with
  | [a0, a1, a2], _ =>
    simp only [List.getElem?_cons_zero, List.getElem?_cons_succ, Option.some.injEq] at e0 e1 e2
    subst e0 e1 e2
    rfl
theorem Own.form9 {w : World} {base : Nat} {v : Value} {l : List UInt8} (h : Own w base v l) : ∃ A c, v = .slice A l.length c ∧ BR w w.heap.size A l ∧ l.length ≤ c := by
  obtain ⟨A, c, e, hr⟩ := h.form
  subst e
  refine ⟨A, c, rfl, hr, ?_⟩
  rcases h.2 with ⟨e1, h0⟩ | ⟨g, cap, cur, e1, hb, hg, hnc, -⟩
  · injection e1 with e1 e2 e3
    subst e1 e3
    omega
  · injection e1 with e1 e2 e3
    subst e1 e3
    exact hnc
end Go.Proofs.Yteikggieekhfkaa
