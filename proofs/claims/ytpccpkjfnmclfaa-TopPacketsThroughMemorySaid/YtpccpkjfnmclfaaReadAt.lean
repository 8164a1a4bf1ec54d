/- the walks of ReadAt. -/
import Derived.Test.YtpccpkjfnmclfaaPlaces
namespace Go.Proofs.Ytpccpkjfnmclfaa
open Go.RowKit

set_option maxRecDepth 100000 in
set_option maxHeartbeats 1000000 in
theorem readAt_any (A A' : Option Addr) (c c' : Nat) (l l' : List Int) (a : Int) (B : Nat) (w : World) (hB : B ≤ w.heap.size) (hl : l.length ≤ 9223372036854775807) (hl' : l'.length ≤ 9223372036854775807) (h : IR w B A l) (h' : IR w B A' l') :
    Calls Try.prog 32 #[bankV A A' l.length l'.length c c', .int .i64 a] w fun e w' => e = .returned (three' (readS l l' a)) ∧ Below w.heap.size w w' := by
  have HC := Lib.hid (fun (w1 : World) (hb : Below w.heap.size w w1) => checkPlace_any A A' c c' l l' a B w1 (Nat.le_trans hB hb.size) hl hl' (h.below (hb.mono hB)) (h'.below (hb.mono hB)))
  have HR := Lib.hid (show readS l l' a = if placeS l l' a = 0 then decS (l.getD a.toNat 0) else (0, 0, placeS l l' a) from rfl)
  generalize readS l l' a = R at *
  have hpr := fun q => place_right (l := l) (l' := l') (a := a) q
  have hb0 := box_below (.cells #[.slice A l.length c, .slice A' l'.length c'] 56) w
  have hc0 : (w.alloc (.cells #[.slice A l.length c, .slice A' l'.length c'] 56)).cell? ⟨w.heap.size, 0, none⟩ = some (.slice A l.length c) := by simp
  have hc01 : (w.alloc (.cells #[.slice A l.length c, .slice A' l'.length c'] 56)).cell? ⟨w.heap.size, 1, none⟩ = some (.slice A' l'.length c') := by simp
  have HCC := Lib.hid (HC.out _ hb0)
  unfold bankV at *
  generalize hw0 : w.alloc (.cells #[.slice A l.length c, .slice A' l'.length c'] 56) = w0 at *
  have hz0 : w0.heap.size = w.heap.size + 1 := by rw [← hw0]; simp
  generalize placeS l l' a = P at *
  by_cases hP : P = 0
  · subst hP
    obtain ⟨-, k, rfl, hk⟩ := hpr rfl
    rw [if_pos rfl, Int.toNat_natCast] at HR
    have hgd : l.getD k 0 = l[k] := by simp [List.getD, hk]
    rw [hgd] at HR
    obtain ⟨ad, rfl, had, hcell⟩ := h.get k hk
    have hk0 : (0 : Int) ≤ (k : Int) := Int.natCast_nonneg _
    have hk1 : (k : Int) < (l.length : Int) := by omega
    have HD := Lib.hid (fun w => Decoded_any l[k] w)
    generalize l[k] = x at *
    generalize decS x = D at *
    obtain ⟨d1, d2, d3⟩ := D
    simp only [three'] at *
    clear hpr hgd
    go_enter Try.func32, Try.ntmps32
    go_wp2_with fail
    refine HCC.out.mono ?_
    rintro e w1 ⟨rfl, hb1⟩
    have hc1 := (Below.at_ hb1 w.heap.size (by omega) 0).trans hc0
    have hb2 := hb0.trans (hb1.mono (by omega))
    have hcell1 := (hb2.cell (p := ad.add k) (by rw [add_block]; omega)).trans hcell
    clear hw0
    go_wp2_with (first | (go_at_call 70; refine (HD.out _).mono ?_; rintro e w' ⟨rfl, rfl⟩) | fail)
    refine bodyPost_ret (v := .tuple #[.int .i64 d1, .int .i64 d2, .int .i64 d3]) (by simp [results, Try.results32, go_sem]) rfl ⟨?_, hb2⟩
    rw [HR.out]
  · rw [if_neg hP] at HR
    have hne : (P != 0) = true := by simpa using hP
    clear hpr
    go_enter Try.func32, Try.ntmps32
    go_wp2_with fail
    refine HCC.out.mono ?_
    rintro e w1 ⟨rfl, hb1⟩
    have hb2 := hb0.trans (hb1.mono (by omega))
    go_wp2_with fail
    refine bodyPost_ret (v := .tuple #[.int .i64 0, .int .i64 0, .int .i64 P]) (by simp [results, Try.results32, go_sem]) rfl ⟨?_, hb2⟩
    rw [HR.out]
    rfl
end Go.Proofs.Ytpccpkjfnmclfaa
