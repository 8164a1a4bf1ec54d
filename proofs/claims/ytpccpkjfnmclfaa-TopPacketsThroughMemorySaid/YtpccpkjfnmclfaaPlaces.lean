/- the walks of checkPlace, isBit, isPlace and ReadAt. -/
import Derived.Test.YtpccpkjfnmclfaaBase
namespace Go.Proofs.Ytpccpkjfnmclfaa
open Go.RowKit

theorem box_below (x : Obj) (w : World) : Below w.heap.size w (w.alloc x) := (Below.refl _ _).alloc (Nat.le_refl _) x
set_option maxRecDepth 100000 in
set_option maxHeartbeats 400000 in
theorem checkPlace_any (A A' : Option Addr) (c c' : Nat) (l l' : List Int) (a : Int) (B : Nat) (w : World) (hB : B ≤ w.heap.size) (hl : l.length ≤ 9223372036854775807) (hl' : l'.length ≤ 9223372036854775807) (h : IR w B A l) (h' : IR w B A' l') :
    Calls Try.prog 67 #[bankV A A' l.length l'.length c c', .int .i64 a] w fun e w' => e = .returned (.int .i64 (placeS l l' a)) ∧ Below w.heap.size w w' := by
  have HC := Lib.hid (fun (w1 : World) (hb : Below w.heap.size w w1) => checkBank_any A A' c c' l l' B w1 (Nat.le_trans hB hb.size) hl hl' (h.below (hb.mono hB)) (h'.below (hb.mono hB)))
  have hp := place_cases l l' a
  unfold bankV at *
  generalize placeS l l' a = P at *
  have hb0 := box_below (.cells #[.slice A l.length c, .slice A' l'.length c'] 56) w
  have hc0 : (w.alloc (.cells #[.slice A l.length c, .slice A' l'.length c'] 56)).cell? ⟨w.heap.size, 0, none⟩ = some (.slice A l.length c) := by simp
  have hc01 : (w.alloc (.cells #[.slice A l.length c, .slice A' l'.length c'] 56)).cell? ⟨w.heap.size, 1, none⟩ = some (.slice A' l'.length c') := by simp
  have HCC := Lib.hid (HC.out _ hb0)
  generalize hw0 : w.alloc (.cells #[.slice A l.length c, .slice A' l'.length c'] 56) = w0 at *
  have hz0 : w0.heap.size = w.heap.size + 1 := by rw [← hw0]; simp
  have hpos := fun q => (chk_right (l := l) (l' := l') q).pos
  have hfew := fun q => (chk_right (l := l) (l' := l') q).few
  generalize chkB l l' = R at *
  rcases hp with ⟨rfl, hin, rfl⟩ | ⟨rfl, hin, rfl⟩ | ⟨hR, rfl⟩
  · have hd : decide (0 ≤ a ∧ a ≤ (l.length : Int) - 1) = true := by simp only [hin, decide_true, and_self]
    have h0 := hpos rfl
    have h1 := hfew rfl
    clear hpos hfew hin
    go_enter Try.func67, Try.ntmps67
    go_wp2_with fail
    try simp only [hw0]
    refine HCC.out.mono ?_
    rintro e w1 ⟨rfl, hb1⟩
    have hc1 := (Below.at_ hb1 w.heap.size (by omega) 0).trans hc0
    have hb2 := hb0.trans (hb1.mono (by omega))
    go_wp2_with (first | (go_at_call 65; refine (mwithin_any _ _ _ _).mono ?_; rintro e w' ⟨rfl, rfl⟩) | fail)
    go_ret
    exact ⟨rfl, hb2⟩
  · have hd : decide (0 ≤ a ∧ a ≤ (l.length : Int) - 1) = false := by simp; omega
    have h0 := hpos rfl
    have h1 := hfew rfl
    clear hpos hfew hin
    go_enter Try.func67, Try.ntmps67
    go_wp2_with fail
    try simp only [hw0]
    refine HCC.out.mono ?_
    rintro e w1 ⟨rfl, hb1⟩
    have hc1 := (Below.at_ hb1 w.heap.size (by omega) 0).trans hc0
    have hb2 := hb0.trans (hb1.mono (by omega))
    go_wp2_with (first | (go_at_call 65; refine (mwithin_any _ _ _ _).mono ?_; rintro e w' ⟨rfl, rfl⟩) | fail)
    go_ret
    exact ⟨rfl, hb2⟩
  · have hne : (P != 0) = true := by simpa using hR
    clear hpos hfew hR
    go_enter Try.func67, Try.ntmps67
    go_wp2_with fail
    try simp only [hw0]
    refine HCC.out.mono ?_
    rintro e w1 ⟨rfl, hb1⟩
    have hb2 := hb0.trans (hb1.mono (by omega))
    go_wp2_with fail
    go_ret
    exact ⟨rfl, hb2⟩
end Go.Proofs.Ytpccpkjfnmclfaa
