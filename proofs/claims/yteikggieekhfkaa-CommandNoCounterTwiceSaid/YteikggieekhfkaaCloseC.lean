/- boards, commands, reports and bytes that came in. -/
import Derived.Test.YteikggieekhfkaaClose
import Derived.Test.YteikggieekhfkaaTakeAll
import Derived.Deep.Slices
import Derived.Deep.Strs
import Derived.SizedLaws
namespace Go.Proofs.Yteikggieekhfkaa
open Go.ChangeShapes Go.WideShapes Go.ChangeAt Go.RowKit

theorem cells5 : Try.prog.cellsOf 5 = 1 := by kernel_rfl
theorem cellsUpl : Try.prog.cellsOf 23 = 6 := by kernel_rfl
theorem cellsOrd : Try.prog.cellsOf 26 = 3 := by kernel_rfl
theorem cellsAck : Try.prog.cellsOf 32 = 4 := by kernel_rfl
set_option maxRecDepth 100000 in
/-- A slice of bytes that came in. -/
theorem open_u8s {H : Type} {enc : TypeId × Value → H} {W : World} {sp : Nat → Bool} {held : Bool} {n : Nat} {v : Value} {y : DataW H × List MemPlace}
    (hlt : ∀ x ∈ y.2, x.block < W.heap.size) (h : DataW.trod enc Try.prog W 0 sp held n 24 [v] = some y) :
    ∃ (A : Option Addr) (c : Nat) (l : List UInt8), v = .slice A l.length c ∧ l.length ≤ c ∧ c ≤ maxLen ∧ BR W W.heap.size A l := by
  rcases open_ints Try.underlying24 Try.underlying5 cells5 h with ⟨hcs, hx⟩ | ⟨a, len, cap, zs, hcs, _, hl, hm, hz, hx, hcell, hwz⟩
  · refine ⟨none, 0, [], by simpa using hcs, by simp, by simp [maxLen], .inl rfl⟩
  · have hlen : ((zs.take len).map fun z => UInt8.ofNat z.toNat).length = len := by
      simp
      split at hz <;> omega
    refine ⟨some a, cap, (zs.take len).map fun z => UInt8.ofNat z.toNat, ?_, by omega, hm, ?_⟩
    · rw [hlen]
      simpa using hcs
    rcases Nat.eq_zero_or_pos len with h0 | hpos
    · subst h0
      exact .inl (by simp)
    have hzl : len ≤ zs.length := by split at hz <;> omega
    refine .inr ⟨a, rfl, ?_, fun j u hu => ?_⟩
    · have := hlt (MemPlace.cell a.block a.off) (by rw [hx]; exact row_head a zs.length (by omega))
      exact this
    · have hj : j < len := by
        have := (List.getElem?_eq_some_iff.1 hu).1
        simp at this
        omega
      have hb := hcell j (by omega)
      rw [hb]
      have hzj : zs[j]? = some (zs[j]'(by omega)) := List.getElem?_eq_getElem (by omega)
      have hwf := u8_bd (hwz (zs[j]'(by omega)) (List.getElem_mem _))
      rw [← hu]
      simp [bv, hj, hzj, List.getD]
      omega

set_option maxRecDepth 100000 in
theorem open_u8d {H : Type} {enc : TypeId × Value → H} {W : World} {sp : Nat → Bool} {held : Bool} {n : Nat} {v : Value} {y : DataW H × List MemPlace}
    (hlt : ∀ x ∈ y.2, x.block < W.heap.size) (h : DataW.trod enc Try.prog W 0 sp held n 24 [v] = some y) :
    ∃ (A : Option Addr) (c : Nat) (l : List UInt8), v = .slice A l.length c ∧ l.length ≤ c ∧ c ≤ maxLen ∧ BR W W.heap.size A l ∧ (l = [] ∨ ∃ el sp', y.1 = .slice el sp' ∧ l.length ≤ el.length) := by
  rcases open_ints Try.underlying24 Try.underlying5 cells5 h with ⟨hcs, hx⟩ | ⟨a, len, cap, zs, hcs, _, hl, hm, hz, hx, hcell, hwz⟩
  · refine ⟨none, 0, [], by simpa using hcs, by simp, by simp [maxLen], .inl rfl, .inl rfl⟩
  · have hlen : ((zs.take len).map fun z => UInt8.ofNat z.toNat).length = len := by
      simp
      split at hz <;> omega
    refine ⟨some a, cap, (zs.take len).map fun z => UInt8.ofNat z.toNat, ?_, by omega, hm, ?_, .inr ⟨_, _, by rw [hx], by rw [hlen]; simp [lits]; split at hz <;> omega⟩⟩
    · rw [hlen]
      simpa using hcs
    rcases Nat.eq_zero_or_pos len with h0 | hpos
    · subst h0
      exact .inl (by simp)
    have hzl : len ≤ zs.length := by split at hz <;> omega
    refine .inr ⟨a, rfl, ?_, fun j u hu => ?_⟩
    · have := hlt (MemPlace.cell a.block a.off) (by rw [hx]; exact row_head a zs.length (by omega))
      exact this
    · have hj : j < len := by
        have := (List.getElem?_eq_some_iff.1 hu).1
        simp at this
        omega
      have hb := hcell j (by omega)
      rw [hb]
      have hzj : zs[j]? = some (zs[j]'(by omega)) := List.getElem?_eq_getElem (by omega)
      have hwf := u8_bd (hwz (zs[j]'(by omega)) (List.getElem_mem _))
      rw [← hu]
      simp [bv, hj, hzj, List.getD]
      omega
/-- a number of 64 bits -/
def In64 (n : Int) : Prop := -9223372036854775808 ≤ n ∧ n ≤ 9223372036854775807
theorem int_cell {H : Type} {enc : TypeId × Value → H} {W : World} {sp : Nat → Bool} {held : Bool} {n : Nat} {c : Value} {y : DataW H × List MemPlace}
    (h : DataW.trod enc Try.prog W 0 sp held n 3 [c] = some y) : ∃ z, c = .int .i64 z ∧ In64 z := by
  obtain ⟨z, e, _, hw⟩ := DataW.trod_int Try.underlying3 h
  injection e with e
  exact ⟨z, e, i64_bd hw⟩
theorem bool_cell {H : Type} {enc : TypeId × Value → H} {W : World} {sp : Nat → Bool} {held : Bool} {n : Nat} {c : Value} {y : DataW H × List MemPlace}
    (h : DataW.trod enc Try.prog W 0 sp held n 4 [c] = some y) : ∃ z, c = .bool z := by
  obtain ⟨z, e, _⟩ := DataW.trod_bool Try.underlying4 h
  injection e with e
  exact ⟨z, e⟩
set_option maxRecDepth 100000 in
/-- A board that came in. -/
theorem open_upl {H : Type} {enc : TypeId × Value → H} {W : World} {r : Reach} {b0 : Nat} {sp : Nat → Bool} {held : Bool} {v : Value} {d : DataW H} {p : List MemPlace}
    (hv : Value.okWide Try.prog W r b0 23 v) (h : DataW.Trod enc Try.prog W 0 sp held 23 v d p) :
    ∃ (n q : Int) (L R T : Bool) (k : Int), v = uplV n q L R T k ∧ In64 n ∧ In64 q ∧ In64 k := by
  obtain ⟨cs, ys, n, rfl, hl, _, _, hg⟩ := open_fields Try.underlying23 (by kernel_rfl) cellsUpl hv h
  obtain ⟨c0, y0, e0, _, h0⟩ := hg 0 _ rfl
  obtain ⟨c1, y1, e1, _, h1⟩ := hg 1 _ rfl
  obtain ⟨c2, y2, e2, _, h2⟩ := hg 2 _ rfl
  obtain ⟨c3, y3, e3, _, h3⟩ := hg 3 _ rfl
  obtain ⟨c4, y4, e4, _, h4⟩ := hg 4 _ rfl
  obtain ⟨c5, y5, e5, _, h5⟩ := hg 5 _ rfl
  obtain ⟨z0, rfl, w0⟩ := int_cell h0
  obtain ⟨z1, rfl, w1⟩ := int_cell h1
  obtain ⟨z2, rfl⟩ := bool_cell h2
  obtain ⟨z3, rfl⟩ := bool_cell h3
  obtain ⟨z4, rfl⟩ := bool_cell h4
  obtain ⟨z5, rfl, w5⟩ := int_cell h5
  refine ⟨z0, z1, z2, z3, z4, z5, ?_, w0, w1, w5⟩
  match cs, hl with
  | [a0, a1, a2, a3, a4, a5], _ =>
    simp only [List.getElem?_cons_zero, List.getElem?_cons_succ, Option.some.injEq] at e0 e1 e2 e3 e4 e5
    subst e0 e1 e2 e3 e4 e5
    rfl
set_option maxRecDepth 100000 in
/-- A report that came in. -/
theorem open_ack {H : Type} {enc : TypeId × Value → H} {W : World} {r : Reach} {b0 : Nat} {sp : Nat → Bool} {held : Bool} {v : Value} {d : DataW H} {p : List MemPlace}
    (hv : Value.okWide Try.prog W r b0 32 v) (h : DataW.Trod enc Try.prog W 0 sp held 32 v d p) :
    ∃ (n : Int) (L R T : Bool), v = ackV n L R T ∧ In64 n := by
  obtain ⟨cs, ys, n, rfl, hl, _, _, hg⟩ := open_fields Try.underlying32 (by kernel_rfl) cellsAck hv h
  obtain ⟨c0, y0, e0, _, h0⟩ := hg 0 _ rfl
  obtain ⟨c1, y1, e1, _, h1⟩ := hg 1 _ rfl
  obtain ⟨c2, y2, e2, _, h2⟩ := hg 2 _ rfl
  obtain ⟨c3, y3, e3, _, h3⟩ := hg 3 _ rfl
  obtain ⟨z0, rfl, w0⟩ := int_cell h0
  obtain ⟨z1, rfl⟩ := bool_cell h1
  obtain ⟨z2, rfl⟩ := bool_cell h2
  obtain ⟨z3, rfl⟩ := bool_cell h3
  refine ⟨z0, z1, z2, z3, ?_, w0⟩
  match cs, hl with
  | [a0, a1, a2, a3], _ =>
    simp only [List.getElem?_cons_zero, List.getElem?_cons_succ, Option.some.injEq] at e0 e1 e2 e3
    subst e0 e1 e2 e3
    rfl
set_option maxRecDepth 100000 in
/-- A command that came in. -/
theorem open_ord {H : Type} {enc : TypeId × Value → H} {W : World} {r : Reach} {b0 : Nat} {sp : Nat → Bool} {held : Bool} {v : Value} {d : DataW H} {p : List MemPlace}
    (hlt : ∀ x ∈ p, x.block < W.heap.size) (hv : Value.okWide Try.prog W r b0 26 v) (h : DataW.Trod enc Try.prog W 0 sp held 26 v d p) :
    ∃ (c m : Int) (A : Option Addr) (l : List UInt8) (k : Nat), v = ordV c m A l.length k ∧ In64 c ∧ In64 m ∧ l.length ≤ k ∧ k ≤ maxLen ∧ BR W W.heap.size A l := by
  obtain ⟨cs, ys, n, rfl, hl, hp, hys, hg⟩ := open_fields Try.underlying26 (by kernel_rfl) cellsOrd hv h
  obtain ⟨c0, y0, e0, _, h0⟩ := hg 0 _ rfl
  obtain ⟨c1, y1, e1, _, h1⟩ := hg 1 _ rfl
  obtain ⟨c2, y2, e2, f2, h2⟩ := hg 2 _ rfl
  have m2 : y2 ∈ ys := List.mem_of_getElem? f2
  obtain ⟨z0, rfl, w0⟩ := int_cell h0
  obtain ⟨z1, rfl, w1⟩ := int_cell h1
  obtain ⟨A, k, l, rfl, hlc, hc, hA⟩ := open_u8s (fun x hx => hlt x (by rw [hp]; exact List.mem_flatMap.2 ⟨y2, m2, hx⟩)) h2
  refine ⟨z0, z1, A, l, k, ?_, w0, w1, hlc, hc, hA⟩
  match cs, hl with
  | [a0, a1, a2], _ =>
    simp only [List.getElem?_cons_zero, List.getElem?_cons_succ, Option.some.injEq] at e0 e1 e2
    subst e0 e1 e2
    rfl
end Go.Proofs.Yteikggieekhfkaa
