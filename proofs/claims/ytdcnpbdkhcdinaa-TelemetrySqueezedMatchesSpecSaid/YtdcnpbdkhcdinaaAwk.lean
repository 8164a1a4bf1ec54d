/- the walk of the laws' own small check. -/
import Derived.Test.YtdcnpbdkhcdinaaSqP
import Derived.Test.YtdcnpbdkhcdinaaEqual
namespace Go.Proofs.Ytdcnpbdkhcdinaa
open Go.RowKit

theorem equal_yes (A A' : Option Addr) (c c' : Nat) (l : List UInt8) (B : Nat) (w : World) (hl : l.length ≤ 9223372036854775807) (h : BR w B A l) (h' : BR w B A' l) :
    Calls Try.prog 12 #[.slice A l.length c, .slice A' l.length c'] w fun e w' => e = .returned (.bool true) ∧ Below w.heap.size w w' := by
  have := equal_any A A' c c' l l B w hl hl h h'
  simpa using this
theorem sq_seven : sqF [7, 7, 7, 7, 6] = 0 ∧ sqR [7, 7, 7, 7, 6] = [0, 5, 14, 128, 0, 3, 1] := by
  have hf : sqF [7, 7, 7, 7, 6] = 0 := by decide
  refine ⟨hf, ?_⟩
  unfold sqR
  rw [if_pos hf, sqz_one (by decide), sqz_row (by decide), show ([7, 7, 7, 6] : List Int).drop (sameN 7 [7, 7, 7, 6]) = [6] by decide, sqz_one (by decide), show sqz 6 [] = [] by simp [sqz], grp_last (n := zigN (7 - 0)) (by decide), grp_last (n := sameN 7 [7, 7, 7, 6]) (by decide), grp_last (n := zigN (6 - 7)) (by decide)]
  decide
set_option maxRecDepth 100000 in
set_option maxHeartbeats 1000000 in
theorem awake_any (w : World) :
    Calls Try.prog 16 #[] w fun e w' => e = .returned (.bool true) ∧ Below w.heap.size w w' := by
  obtain ⟨w0, hw0⟩ : ∃ w0, w.alloc (.cells #[.int .i64 7, .int .i64 7, .int .i64 7, .int .i64 7, .int .i64 6] 3) = w0 := ⟨_, rfl⟩
  have b0 : Below w.heap.size w w0 := by rw [← hw0]; exact (Below.refl _ _).alloc (Nat.le_refl _) _
  have z0 : w0.heap.size = w.heap.size + 1 := by rw [← hw0]; simp
  have hr0 : IR w0 (w.heap.size + 1) (some ⟨w.heap.size, 0, none⟩) [7, 7, 7, 7, 6] := by rw [← hw0]; exact Cells.fresh w _ 3 (0, 0) _ rfl
  have HP := Lib.hid (p_squeezed_any (some ⟨w.heap.size, 0, none⟩) [7, 7, 7, 7, 6] 5 (w.heap.size + 1) w0 (by omega) (by simp) (by simp) hr0)
  have hl5 : ([7, 7, 7, 7, 6] : List Int).length = 5 := rfl
  rw [sq_seven.1, sq_seven.2, hl5] at HP
  have HW0 := Lib.hid hw0
  clear hw0 hr0
  go_enter Try.func16, Try.ntmps16
  go_wp2_with fail
  rw [HW0.out]
  refine HP.out.mono ?_
  rintro e w1 ⟨v, rfl, ho, hb⟩
  obtain ⟨A1, c1, rfl, hr1⟩ := ho.form
  have hz := hb.size
  have b1 : Below w1.heap.size w1 (w1.alloc (.cells #[.int .u8 0, .int .u8 5, .int .u8 14, .int .u8 128, .int .u8 0, .int .u8 3, .int .u8 1] 5)) := (Below.refl _ _).alloc (Nat.le_refl _) _
  have HE := Lib.hid (equal_yes A1 (some ⟨w1.heap.size, 0, none⟩) c1 7 [0, 5, 14, 128, 0, 3, 1] (w1.heap.size + 1) (w1.alloc (.cells #[.int .u8 0, .int .u8 5, .int .u8 14, .int .u8 128, .int .u8 0, .int .u8 3, .int .u8 1] 5)) (by simp) ((hr1.below b1).lift (by omega)) (Cells.fresh w1 _ 5 (0, 0) _ rfl))
  have hl7 : ([0, 5, 14, 128, 0, 3, 1] : List UInt8).length = 7 := rfl
  rw [hl7] at HE ⊢
  have HB := Lib.hid (b0.trans (hb.mono b0.size))
  clear ho hr1 hb HP
  go_wp2_with fail
  refine HE.out.mono ?_
  rintro e w2 ⟨rfl, hb2⟩
  go_wp2_with fail
  go_ret
  exact ⟨rfl, HB.out.trans ((b1.trans (hb2.mono b1.size)).mono HB.out.size)⟩
end Go.Proofs.Ytdcnpbdkhcdinaa
