/- the walk of the reference's Same, of banks that are the same. -/
import Derived.Test.YtidddoldkedicaaWritten
import Derived.Test.YtidddoldkedicaaEqualI
namespace Go.Proofs.Ytidddoldkedicaa
open Go.RowKit

theorem HeldB.set {w : World} {b : Nat} {x y : Value} (h : HeldB w b x y) (x' y' : Value) : HeldB ((w.setCell ⟨b, 0, none⟩ x').setCell ⟨b, 1, none⟩ y') b x' y' := by
  have hlt := h.lt
  have h' : w.heap[b] = .cells #[x, y] 33 (0, 0) := by unfold HeldB at h; simpa [Array.getElem?_eq_getElem hlt] using h
  unfold HeldB
  simp only [World.setCell]
  rw [Array.getElem?_eq_getElem (by simpa using hlt), Array.getElem_modify_self, Array.getElem_modify_self, h']
  rfl
set_option maxRecDepth 100000 in
set_option maxHeartbeats 400000 in
theorem same_yes (A A' D D' : Option Addr) (c c' k k' : Nat) (l l' : List Int) (B : Nat) (w : World) (hB : B ≤ w.heap.size) (hl : l.length ≤ 9223372036854775807) (hl' : l'.length ≤ 9223372036854775807)
    (h : IR w B A l) (h' : IR w B A' l') (g : IR w B D l) (g' : IR w B D' l') :
    Calls Try.prog 28 #[bankV A A' l.length l'.length c c', bankV D D' l.length l'.length k k'] w fun e w' => e = .returned (.bool true) ∧ Below w.heap.size w w' := by
  have C1 := Lib.hid (fun (w1 : World) (hb : Below w.heap.size w w1) => equalI_yes A D c k l B w1 hl (h.below (hb.mono hB)) (g.below (hb.mono hB)))
  have C2 := Lib.hid (fun (w1 : World) (hb : Below w.heap.size w w1) => equalI_yes A' D' c' k' l' B w1 hl' (h'.below (hb.mono hB)) (g'.below (hb.mono hB)))
  unfold bankV
  generalize hw0 : (w.alloc (.cells #[.slice A l.length c, .slice A' l'.length c'] 33)).alloc (.cells #[.slice D l.length k, .slice D' l'.length k'] 33) = w0
  have b0 : Below w.heap.size w w0 := by rw [← hw0]; exact ((Below.refl _ _).alloc (Nat.le_refl _) _).alloc (by simp) _
  have s0 : w0.heap.size = w.heap.size + 2 := by rw [← hw0]; simp
  have e0 : w0.cell? ⟨w.heap.size, 0, none⟩ = some (.slice A l.length c) := by rw [← hw0]; simp
  have e1 : w0.cell? ⟨w.heap.size, 1, none⟩ = some (.slice A' l'.length c') := by rw [← hw0]; simp
  have e2 : w0.cell? ⟨w.heap.size + 1, 0, none⟩ = some (.slice D l.length k) := by rw [← hw0]; simp
  have e3 : w0.cell? ⟨w.heap.size + 1, 1, none⟩ = some (.slice D' l'.length k') := by rw [← hw0]; simp
  have C1' := Lib.hid (C1.out w0 b0)
  go_enter Try.func28, Try.ntmps28
  go_wp2_with fail
  refine C1'.out.mono ?_
  rintro e w1 ⟨rfl, hb1⟩
  have f1 := (Below.at_ hb1 w.heap.size (by omega) 1).trans e1
  have f3 := (Below.at_ hb1 (w.heap.size + 1) (by omega) 1).trans e3
  have b1 := b0.trans (hb1.mono (by omega))
  clear hw0
  go_wp2_with fail
  refine (C2.out w1 b1).mono ?_
  rintro e w2 ⟨rfl, hb2⟩
  go_wp2_with fail
  go_ret
  exact ⟨rfl, b1.trans (hb2.mono b1.size)⟩
end Go.Proofs.Ytidddoldkedicaa
