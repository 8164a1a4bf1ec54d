/- SamePage of the reference, for pages that are the same. -/
import Derived.Test.YthcijelebjgfkaaPgGuess
namespace Go.Proofs.Ythcijelebjgfkaa
open Go.RowKit

def boxed2P (x y : Array Value) (w : World) : World := (w.alloc (.cells x 40)).alloc (.cells y 40)
set_option maxRecDepth 100000 in
set_option maxHeartbeats 2000000 in
theorem samePage_yes (x : Pg) (A A' : Option Addr) (c c' : Nat) (B : Nat) (w : World) (hB : B ≤ w.heap.size) (h : BR w B A x.bytes) (h' : BR w B A' x.bytes) :
    Calls Try.prog 22 #[pgV x A c, pgV x A' c'] w fun e w' => e = .returned (.bool true) ∧ Below w.heap.size w w' := by
  obtain ⟨gen, gone, nm, ix, last, b⟩ := x
  unfold pgV
  dsimp only at h h' ⊢
  obtain ⟨w0, hw0⟩ : ∃ w0, boxed2P #[.int .i64 gen, .bool gone, .string nm, .int .i64 ix, .bool last, .slice A b.length c] #[.int .i64 gen, .bool gone, .string nm, .int .i64 ix, .bool last, .slice A' b.length c'] w = w0 := ⟨_, rfl⟩
  have z0 : w0.heap.size = w.heap.size + 2 := by rw [← hw0]; simp [boxed2P]
  have b0 : Below w.heap.size w w0 := by rw [← hw0]; exact (boxF _ _).alloc (by simp) _
  have h0 : BoxP w0 w.heap.size (.int .i64 gen) (.bool gone) (.string nm) (.int .i64 ix) (.bool last) (.slice A b.length c) := by
    rw [← hw0]
    exact (BoxP.new w _ _ _ _ _ _).below (boxF _ _) (by simp)
  have r0 : BoxP w0 (w.heap.size + 1) (.int .i64 gen) (.bool gone) (.string nm) (.int .i64 ix) (.bool last) (.slice A' b.length c') := by
    rw [← hw0]
    have := BoxP.new (w.alloc (.cells #[.int .i64 gen, .bool gone, .string nm, .int .i64 ix, .bool last, .slice A b.length c] 40)) (.int .i64 gen) (.bool gone) (.string nm) (.int .i64 ix) (.bool last) (.slice A' b.length c')
    rw [World.size_alloc] at this
    exact this
  have HW0 := Lib.hid hw0
  clear hw0
  have hq := bytesEqual_any A A' c c' b b B w0 (h.below (b0.mono hB)) (h'.below (b0.mono hB))
  simp only [decide_true] at hq
  have HQ := Lib.hid hq
  clear hq z0
  have s1 : (nm.toList == nm.toList) = true := by simp
  go_enter Try.func22, Try.ntmps22
  go_upto_region 1 with fail
  have e := HW0.out
  unfold boxed2P at e
  rw [e]
  clear e
  obtain ⟨e0, e1, e2, e3, e4, e5⟩ := h0.cells
  obtain ⟨f0, f1, f2, f3, f4, f5⟩ := r0.cells
  cases gone <;> cases last
  all_goals
    go_wp2_with fail
    refine HQ.out.mono ?_
    rintro e w1 ⟨rfl, rfl⟩
    go_wp2_with fail
    go_ret
    exact ⟨rfl, b0⟩
end Go.Proofs.Ythcijelebjgfkaa
