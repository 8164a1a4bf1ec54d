/- a flash among the arguments. -/
import Derived.Test.YthcijelebjgfkaaFlashW
import Derived.Test.YthcijelebjgfkaaClose
namespace Go.Proofs.Ythcijelebjgfkaa
open Go.ChangeShapes Go.WideShapes Go.ChangeAt Go.RowKit

theorem cells5 : Try.prog.cellsOf 5 = 1 := by kernel_rfl
theorem open_isN {H : Type} {enc : TypeId × Value → H} {W : World} {sp : Nat → Bool} {held : Bool} {n : Nat} {v : Value} {y : DataW H × List MemPlace}
    (hlt : ∀ x ∈ y.2, x.block < W.heap.size) (h : DataW.trod enc Try.prog W 0 sp held n 30 [v] = some y) :
    ∃ (A : Option Addr) (c : Nat) (l : List Int), v = .slice A l.length c ∧ l.length ≤ 9223372036854775807 ∧ (A = none → c = 0) ∧ IR W W.heap.size A l := by
  have hh := h
  rcases open_ints Try.underlying30 Try.underlying3 cells3 h with ⟨hcs, hx⟩ | ⟨a, len, cap, zs, hcs, _, hl, hm, hz, hx, hcell, hwz⟩
  · exact ⟨none, 0, [], by simpa using hcs, by simp, fun _ => rfl, .inl rfl⟩
  · obtain ⟨A, c, l, e, hlc, hc, hI, -⟩ := open_is hlt hh
    refine ⟨A, c, l, e, by unfold maxLen at hc; omega, ?_, hI⟩
    intro hA
    rw [e] at hcs
    subst hA
    simp at hcs
theorem open_u8s {H : Type} {enc : TypeId × Value → H} {W : World} {sp : Nat → Bool} {held : Bool} {n : Nat} {v : Value} {y : DataW H × List MemPlace}
    (hlt : ∀ x ∈ y.2, x.block < W.heap.size) (h : DataW.trod enc Try.prog W 0 sp held n 22 [v] = some y) :
    ∃ (A : Option Addr) (c : Nat) (l : List UInt8), v = .slice A l.length c ∧ l.length ≤ c ∧ c ≤ maxLen ∧ BR W W.heap.size A l := by
  rcases open_ints Try.underlying22 Try.underlying5 cells5 h with ⟨hcs, hx⟩ | ⟨a, len, cap, zs, hcs, _, hl, hm, hz, hx, hcell, hwz⟩
  · refine ⟨none, 0, [], by simpa using hcs, by simp, by simp [maxLen], .inl rfl⟩
  · have hlen : ((zs.take len).map fun z => UInt8.ofNat z.toNat).length = len := by
      simp
      split at hz <;> omega
    refine ⟨some a, cap, (zs.take len).map fun z => UInt8.ofNat z.toNat, ?_, by omega, hm, ?_⟩
    · rw [hlen]
      simpa using hcs
    rcases Nat.eq_zero_or_pos len with h0 | hpos
    · subst h0
      exact .inl (by simp)
    have hzl : len ≤ zs.length := by split at hz <;> omega
    refine .inr ⟨a, rfl, ?_, fun j u hu => ?_⟩
    · have := hlt (MemPlace.cell a.block a.off) (by rw [hx]; exact row_head a zs.length (by omega))
      exact this
    · have hj : j < len := by
        have := (List.getElem?_eq_some_iff.1 hu).1
        simp at this
        omega
      have hb := hcell j (by omega)
      rw [hb]
      have hzj : zs[j]? = some (zs[j]'(by omega)) := List.getElem?_eq_getElem (by omega)
      have hwf := u8_bd (hwz (zs[j]'(by omega)) (List.getElem_mem _))
      rw [← hu]
      simp [bv, hj, hzj, List.getD]
      omega
theorem cellsFlash : Try.prog.cellsOf 32 = 6 := by kernel_rfl
set_option maxRecDepth 100000 in
theorem open_flash {H : Type} {enc : TypeId × Value → H} {W : World} {r : Reach} {b0 : Nat} {sp : Nat → Bool} {held : Bool} {v : Value} {d : DataW H} {p : List MemPlace}
    (hlt : ∀ x ∈ p, x.block < W.heap.size) (hv : Value.okWide Try.prog W r b0 32 v) (h : DataW.Trod enc Try.prog W 0 sp held 32 v d p) :
    ∃ (b q s : Int) (D V X : Option Addr) (c c' c'' : Nat) (l : List UInt8) (vl xl : List Int), v = flV b q s (.slice D l.length c) (.slice V vl.length c') (.slice X xl.length c'') ∧ BR W W.heap.size D l ∧ IR W W.heap.size V vl ∧ IR W W.heap.size X xl ∧ vl.length ≤ 9223372036854775807 ∧ xl.length ≤ 9223372036854775807 ∧ (V = none → c' = 0) ∧ (X = none → c'' = 0) := by
  obtain ⟨cs, ys, n, rfl, hl, rfl, hy, hf⟩ := open_fields Try.underlying32 (by kernel_rfl) cellsFlash hv h
  obtain ⟨c0, y0, e0, z0, h0⟩ := hf 0 _ rfl
  obtain ⟨c1, y1, e1, z1, h1⟩ := hf 1 _ rfl
  obtain ⟨c2, y2, e2, z2, h2⟩ := hf 2 _ rfl
  obtain ⟨c3, y3, e3, z3, h3⟩ := hf 3 _ rfl
  obtain ⟨c4, y4, e4, z4, h4⟩ := hf 4 _ rfl
  obtain ⟨c5, y5, e5, z5, h5⟩ := hf 5 _ rfl
  obtain ⟨b, q0, -⟩ := DataW.trod_int Try.underlying3 h0
  obtain ⟨q, q1, -⟩ := DataW.trod_int Try.underlying3 h1
  obtain ⟨s, q2, -⟩ := DataW.trod_int Try.underlying3 h2
  have m3 : y3 ∈ ys := List.mem_of_getElem? z3
  have m4 : y4 ∈ ys := List.mem_of_getElem? z4
  have m5 : y5 ∈ ys := List.mem_of_getElem? z5
  obtain ⟨D, c, l, q3, -, -, hB⟩ := open_u8s (fun x hx => hlt x (List.mem_flatMap.2 ⟨y3, m3, hx⟩)) h3
  obtain ⟨V, c', vl, q4, hV, nV, hVI⟩ := open_isN (fun x hx => hlt x (List.mem_flatMap.2 ⟨y4, m4, hx⟩)) h4
  obtain ⟨X, c'', xl, q5, hX, nX, hXI⟩ := open_isN (fun x hx => hlt x (List.mem_flatMap.2 ⟨y5, m5, hx⟩)) h5
  refine ⟨b, q, s, D, V, X, c, c', c'', l, vl, xl, ?_, hB, hVI, hXI, hV, hX, nV, nX⟩
  match cs, hl with
  | [a0, a1, a2, a3, a4, a5], _ =>
    simp only [List.getElem?_cons_zero, List.getElem?_cons_succ, Option.some.injEq] at e0 e1 e2 e3 e4 e5
    simp only [List.cons.injEq, and_true] at q0 q1 q2
    subst e0 e1 e2 e3 e4 e5 q0 q1 q2 q3 q4 q5
    rfl
end Go.Proofs.Ythcijelebjgfkaa
