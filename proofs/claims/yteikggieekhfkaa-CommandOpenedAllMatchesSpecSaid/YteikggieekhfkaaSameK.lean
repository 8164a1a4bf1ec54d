/- the reference's SameKeys. -/
import Derived.Test.YteikggieekhfkaaPOpd
import Derived.Test.YteikggieekhfkaaEqualI
namespace Go.Proofs.Yteikggieekhfkaa
open Go.RowKit

set_option maxRecDepth 100000 in
set_option maxHeartbeats 1000000 in
theorem sameKeys_yes (key least : Int) (A A' : Option Addr) (c c' : Nat) (l : List Int) (B : Nat) (w : World) (hB : B ≤ w.heap.size) (hl : l.length ≤ 9223372036854775807) (h : IR w B A l) (h' : IR w B A' l) :
    Calls Try.prog 36 #[kyV key least (.slice A l.length c), kyV key least (.slice A' l.length c')] w fun e w' => e = .returned (.bool true) ∧ Below w.heap.size w w' := by
  unfold kyV
  obtain ⟨w1, hw1⟩ : ∃ w1, (w.alloc (.cells (kyC key least (.slice A l.length c)) 58)).alloc (.cells (kyC key least (.slice A' l.length c')) 58) = w1 := ⟨_, rfl⟩
  have b1 : Below w.heap.size w w1 := by rw [← hw1]; exact two_new w _ _
  have g0 : Blk w1 w.heap.size (kyC key least (.slice A l.length c)) 58 := by rw [← hw1]; exact (Blk.new w _ _).alloc _
  have g1 : Blk w1 (w.heap.size + 1) (kyC key least (.slice A' l.length c')) 58 := by rw [← hw1]; exact Blk.snd w _ _ _
  have HEQ := Lib.hid (equalI_yes A A' c c' l w1.heap.size w1 hl ((h.below (b1.mono hB)).lift (Nat.le_trans hB b1.size)) ((h'.below (b1.mono hB)).lift (Nat.le_trans hB b1.size)))
  unfold kyC at hw1
  have HW1 := Lib.hid hw1
  obtain ⟨p0, p1, p2⟩ := blk_k g0
  obtain ⟨q0, q1, q2⟩ := blk_k g1
  clear hw1 h h'
  go_enter Try.func36, Try.ntmps36
  go_upto_region 1 with fail
  rw [HW1.out]
  go_wp2_with fail
  refine HEQ.out.mono ?_
  rintro e w2 ⟨rfl, hb2⟩
  go_wp2_with fail
  go_ret
  exact ⟨rfl, b1.trans (hb2.mono b1.size)⟩
end Go.Proofs.Yteikggieekhfkaa
