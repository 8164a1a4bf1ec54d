/- Decode of the reference, whole. -/
import Derived.Test.YthcijelebjgfkaaRDec
namespace Go.Proofs.Ythcijelebjgfkaa
open Go.RowKit

theorem rdec_fin {l : List UInt8} {S gen ix : Int} {gone last : Bool} {nm : ByteArray} {b : List UInt8} {w w4 : World} {A4 : Option Addr} {c4 base : Nat} (hD : decD l = (S, ⟨gen, gone, nm, ix, last, b⟩, 0)) (ho : Own w4 base (.slice A4 b.length c4) b) (h1 : w.heap.size < base) (hb : Below w.heap.size w w4) :
    DecPost l w (.returned (.tuple #[.int .i64 S, .agg #[.int .i64 gen, .bool gone, .string nm, .int .i64 ix, .bool last, .slice A4 b.length c4], .int .i64 0]))
      ((((((w4.setCell ⟨w.heap.size, 0, none⟩ (.int .i64 gen)).setCell ⟨w.heap.size, 1, none⟩ (.bool gone)).setCell ⟨w.heap.size, 2, none⟩ (.string nm)).setCell ⟨w.heap.size, 3, none⟩ (.int .i64 ix)).setCell ⟨w.heap.size, 4, none⟩ (.bool last)).setCell ⟨w.heap.size, 5, none⟩ (.slice A4 b.length c4)).drew := by
  have hz := six_set hb (Nat.le_refl _) (.int .i64 gen) (.bool gone) (.string nm) (.int .i64 ix) (.bool last) (.slice A4 b.length c4)
  have hw := six_own ho h1 (.int .i64 gen) (.bool gone) (.string nm) (.int .i64 ix) (.bool last) (.slice A4 b.length c4)
  generalize ((((((w4.setCell ⟨w.heap.size, 0, none⟩ (.int .i64 gen)).setCell ⟨w.heap.size, 1, none⟩ (.bool gone)).setCell ⟨w.heap.size, 2, none⟩ (.string nm)).setCell ⟨w.heap.size, 3, none⟩ (.int .i64 ix)).setCell ⟨w.heap.size, 4, none⟩ (.bool last)).setCell ⟨w.heap.size, 5, none⟩ (.slice A4 b.length c4)) = W at *
  obtain ⟨-, hB5⟩ := hw.read
  refine ⟨A4, c4, by rw [hD]; rfl, ?_, hz.drew⟩
  rw [hD]
  exact brd hB5
set_option maxRecDepth 100000 in
set_option maxHeartbeats 4000000 in
theorem rdecode_any (A : Option Addr) (c : Nat) (l : List UInt8) (w : World) (hc : l.length ≤ c) (hcm : c ≤ 9223372036854775807) (h : BR w w.heap.size A l) :
    Calls Try.prog 20 #[.slice A l.length c] w (DecPost l w) := by
  obtain ⟨w0, hw0⟩ : ∃ w0, w.alloc (.cells #[.int .i64 0, .bool false, .string ⟨#[]⟩, .int .i64 0, .bool false, .slice none 0 0] 40) = w0 := ⟨_, rfl⟩
  have b0 : Below w.heap.size w w0 := by rw [← hw0]; exact (Below.refl _ _).alloc (Nat.le_refl _) _
  have g0 : BoxP w0 w.heap.size (.int .i64 0) (.bool false) (.string ⟨#[]⟩) (.int .i64 0) (.bool false) (.slice none 0 0) := by rw [← hw0]; exact BoxP.new _ _ _ _ _ _ _
  have hz0 : w.heap.size < w0.heap.size := g0.lt
  have HD : Hid (decD l = if 64 ≤ l.length ∧ l.length ≤ 1024 then ((decS l).1, (decS l).2, 0) else (0, Pg.zero, 3)) := rfl
  have HW0 := Lib.hid hw0
  by_cases hlen : 64 ≤ l.length ∧ l.length ≤ 1024
  · obtain ⟨hl1, hl2⟩ := hlen
    have d1 : decide ((64 : Int) ≤ (l.length : Int) ∧ (l.length : Int) ≤ 1024) = true := decide_eq_true (by omega)
    have HD2 : Hid (decD l = ((decS l).1, (decS l).2, 0)) := Lib.hid (by rw [HD.out, if_pos ⟨hl1, hl2⟩])
    obtain ⟨ad, rfl, _, _⟩ := h.get 0 (by omega)
    have HR := Lib.hid (rdecPage_any ad c l w0 hl1 hl2 hc hcm ((h.below b0).lift b0.size))
    unfold RdPost at HR
    generalize (decS l).1 = S at *
    generalize (decS l).2 = X at *
    obtain ⟨gen, gone, nm, ix, last, b⟩ := X
    unfold pgV at *
    dsimp only at *
    go_enter Try.func20, Try.ntmps20
    go_upto_region 1 with fail
    clear hw0
    go_wp2_with (first | (go_at_call 46; refine (fwithin_any _ _ _ _).mono ?_; rintro e w' ⟨rfl, rfl⟩) | fail)
    refine HR.out.mono ?_
    rintro e w2 ⟨A2, c2, rfl, ho2, hb2⟩
    have hb02 := b0.trans (hb2.mono b0.size)
    obtain ⟨w3, hw3⟩ : ∃ w3, w2.alloc (.cells #[.int .i64 gen, .bool gone, .string nm, .int .i64 ix, .bool last, .slice A2 b.length c2] 40) = w3 := ⟨_, rfl⟩
    have b3 : Below w2.heap.size w2 w3 := by rw [← hw3]; exact (Below.refl _ _).alloc (Nat.le_refl _) _
    have g3 : BoxP w3 w2.heap.size (.int .i64 gen) (.bool gone) (.string nm) (.int .i64 ix) (.bool last) (.slice A2 b.length c2) := by rw [← hw3]; exact BoxP.new _ _ _ _ _ _ _
    have o4 : BoxP w3 w.heap.size (.int .i64 0) (.bool false) (.string ⟨#[]⟩) (.int .i64 0) (.bool false) (.slice none 0 0) := (g0.below hb2 hz0).below b3 (Nat.lt_of_lt_of_le hz0 hb2.size)
    have hlt2 : w.heap.size < w2.heap.size := Nat.lt_of_lt_of_le hz0 hb2.size
    have hb03 := hb02.trans (b3.mono hb02.size)
    have ho3 := ho2.after b3 (Nat.le_refl _)
    have HW3 := Lib.hid hw3
    clear hw3
    go_upto_region 4 with fail
    rw [HW3.out]
    obtain ⟨q0, q1, q2, q3, q4, q5⟩ := g3.cells
    obtain ⟨p0, p1, p2, p3, p4, p5⟩ := o4.cells
    have f0 := o4.free 0
    have f1 := o4.free 1
    have f2 := o4.free 2
    have f3 := o4.free 3
    have f4 := o4.free 4
    have f5 := o4.free 5
    have hne1 : w.heap.size ≠ w2.heap.size := Nat.ne_of_lt hlt2
    have hne2 : w2.heap.size ≠ w.heap.size := fun e => hne1 e.symm
    go_region
    go_wp2_with fail
    refine bodyPost_ret (v := .tuple #[.int .i64 S, .agg #[.int .i64 gen, .bool gone, .string nm, .int .i64 ix, .bool last, .slice A2 b.length c2], .int .i64 0]) (by simp [results, Try.results20, go_sem, p0, p1, p2, p3, p4, p5]) rfl ?_
    exact rdec_fin HD2.out ho3 hz0 hb03
  · have d1 : decide ((64 : Int) ≤ (l.length : Int) ∧ (l.length : Int) ≤ 1024) = false := decide_eq_false (by omega)
    have HD2 : Hid (decD l = (0, Pg.zero, 3)) := Lib.hid (by rw [HD.out, if_neg hlen])
    clear hlen
    go_enter Try.func20, Try.ntmps20
    go_upto_region 1 with fail
    clear hw0
    obtain ⟨q0, q1, q2, q3, q4, q5⟩ := g0.cells
    have f0 := g0.free 0
    have f1 := g0.free 1
    have f2 := g0.free 2
    have f3 := g0.free 3
    have f4 := g0.free 4
    have f5 := g0.free 5
    go_wp2_with (first | (go_at_call 46; refine (fwithin_any _ _ _ _).mono ?_; rintro e w' ⟨rfl, rfl⟩) | fail)
    refine bodyPost_ret (v := .tuple #[.int .i64 0, .agg #[.int .i64 0, .bool false, .string ⟨#[]⟩, .int .i64 0, .bool false, .slice none 0 0], .int .i64 3]) (by simp [results, Try.results20, go_sem, q0, q1, q2, q3, q4, q5]) rfl ?_
    exact ⟨none, 0, by rw [HD2.out]; rfl, .inl (by rw [HD2.out]; rfl), six_set b0 (Nat.le_refl _) _ _ _ _ _ _⟩
end Go.Proofs.Ythcijelebjgfkaa
