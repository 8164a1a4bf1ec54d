/- the walks of the reference's kinds and words. -/
import Derived.Test.YteelepjhlhifhaaRCoded
namespace Go.Proofs.Yteelepjhlhifhaa
open Go.RowKit

set_option maxRecDepth 100000 in
set_option maxHeartbeats 400000 in
theorem rkind_any (c : Nat) (hc : c < 4194304) (w : World) :
    Calls Try.prog 115 #[.int .i64 (c : Int)] w fun e w' => e = .returned (.tuple #[.int .i64 ((kindN c).1 : Int), .int .i64 ((kindN c).2 : Int)]) ∧ w = w' := by
  have HM := Lib.hid (rmark_any c hc)
  have HO := Lib.hid (rodd_any c hc)
  have HK := Lib.hid (show kindN c = if oddTo c 22 = true then (if markTo c 21 = 0 then (2, 22) else if markTo c 21 < 22 then (2, markTo c 21) else (3, 0)) else if markTo c 21 = 0 then (1, 0) else (3, 0) from rfl)
  generalize kindN c = K at *
  generalize markTo c 21 = m at *
  cases ho : oddTo c 22
  · rw [ho] at HO HK
    by_cases hm : m = 0
    · subst hm
      have HK2 : Hid (K = (1, 0)) := Lib.hid (by simpa using HK.out)
      clear HK ho
      go_enter Try.func115, Try.ntmps115
      go_wp2_with (first | (go_at_call 124; refine (HM.out _).mono ?_; rintro e w' ⟨rfl, rfl⟩) | (go_at_call 125; refine (HO.out _).mono ?_; rintro e w' ⟨rfl, rfl⟩) | fail)
      go_ret2
      rw [HK2.out]
      exact ⟨rfl, rfl⟩
    · have HK2 : Hid (K = (3, 0)) := Lib.hid (by have := HK.out; rw [if_neg (by simp), if_neg hm] at this; exact this)
      have hm1 : ((m : Int) != 0) = true := by simp; omega
      clear HK ho
      go_enter Try.func115, Try.ntmps115
      go_wp2_with (first | (go_at_call 124; refine (HM.out _).mono ?_; rintro e w' ⟨rfl, rfl⟩) | (go_at_call 125; refine (HO.out _).mono ?_; rintro e w' ⟨rfl, rfl⟩) | fail)
      go_ret2
      rw [HK2.out]
      exact ⟨rfl, rfl⟩
  · rw [ho] at HO HK
    by_cases hm : m = 0
    · subst hm
      have HK2 : Hid (K = (2, 22)) := Lib.hid (by simpa using HK.out)
      clear HK ho
      go_enter Try.func115, Try.ntmps115
      go_wp2_with (first | (go_at_call 124; refine (HM.out _).mono ?_; rintro e w' ⟨rfl, rfl⟩) | (go_at_call 125; refine (HO.out _).mono ?_; rintro e w' ⟨rfl, rfl⟩) | fail)
      go_ret2
      rw [HK2.out]
      exact ⟨rfl, rfl⟩
    · have hm1 : ((m : Int) == 0) = false := by simp; omega
      by_cases hm2 : m < 22
      · have HK2 : Hid (K = (2, m)) := Lib.hid (by have := HK.out; rw [if_pos rfl, if_neg hm, if_pos hm2] at this; exact this)
        clear HK ho
        go_enter Try.func115, Try.ntmps115
        go_wp2_with (first | (go_at_call 124; refine (HM.out _).mono ?_; rintro e w' ⟨rfl, rfl⟩) | (go_at_call 125; refine (HO.out _).mono ?_; rintro e w' ⟨rfl, rfl⟩) | fail)
        go_ret2
        rw [HK2.out]
        exact ⟨rfl, rfl⟩
      · have HK2 : Hid (K = (3, 0)) := Lib.hid (by have := HK.out; rw [if_pos rfl, if_neg hm, if_neg hm2] at this; exact this)
        clear HK ho
        go_enter Try.func115, Try.ntmps115
        go_wp2_with (first | (go_at_call 124; refine (HM.out _).mono ?_; rintro e w' ⟨rfl, rfl⟩) | (go_at_call 125; refine (HO.out _).mono ?_; rintro e w' ⟨rfl, rfl⟩) | fail)
        go_ret2
        rw [HK2.out]
        exact ⟨rfl, rfl⟩

/-- a code with its bit put right, how many were, and the fault -/
def rightN (c : Nat) : Nat × Nat × Nat := if (kindN c).1 = 3 then (0, 0, 15) else if (kindN c).1 = 2 then (c ^^^ 2 ^ ((kindN c).2 - 1), 1, 0) else (c, 0, 0)
theorem dec_right (c : Nat) : decN c = if (rightN c).2.2 = 0 then (gather (rightN c).1, (rightN c).2.1, 0) else (0, 0, (rightN c).2.2) := by
  unfold decN rightN
  by_cases h1 : (kindN c).1 = 3
  · simp [h1]
  · by_cases h2 : (kindN c).1 = 2
    · simp [h2]
    · simp [h1, h2]
theorem right_lt (c : Nat) (hc : c < 4194304) : (rightN c).1 < 4194304 := by
  unfold rightN
  split
  · simp
  · split
    · rename_i h
      have := kind_bit c h
      exact flip_lt _ _ (by omega) hc
    · exact hc
set_option maxRecDepth 100000 in
set_option maxHeartbeats 400000 in
theorem rright_any (n : Nat) (hn : n < 4194304) (w : World) :
    Calls Try.prog 116 #[.int .i64 (n : Int)] w fun e w' => e = .returned (.tuple #[.int .i64 ((rightN n).1 : Int), .int .i64 ((rightN n).2.1 : Int), .int .i64 ((rightN n).2.2 : Int)]) ∧ w = w' := by
  have HC := Lib.hid (rkind_any n hn)
  have hk := kind_three n
  have hb := kind_bit n
  have HD := Lib.hid (show rightN n = if (kindN n).1 = 3 then (0, 0, 15) else if (kindN n).1 = 2 then (n ^^^ 2 ^ ((kindN n).2 - 1), 1, 0) else (n, 0, 0) from rfl)
  generalize rightN n = D at *
  generalize kindN n = K at *
  obtain ⟨k, b⟩ := K
  simp only at *
  rcases hk with rfl | rfl | rfl
  · clear hb
    have HR : Hid (D = (n, 0, 0)) := Lib.hid (by simpa using HD.out)
    clear HD
    go_enter Try.func116, Try.ntmps116
    go_wp2_with (first | (go_at_call 115; refine (HC.out _).mono ?_; rintro e w' ⟨rfl, rfl⟩) | fail)
    refine bodyPost_ret (v := .tuple #[.int .i64 (n : Int), .int .i64 0, .int .i64 0]) (by simp [results, Try.results116, go_sem]) rfl ⟨?_, rfl⟩
    rw [HR.out]
    rfl
  · obtain ⟨hb1, hb2⟩ := hb rfl
    clear hb
    obtain ⟨j, rfl⟩ : ∃ j, b = j + 1 := ⟨b - 1, by omega⟩
    have HR : Hid (D = (n ^^^ 2 ^ j, 1, 0)) := Lib.hid (by simpa using HD.out)
    clear HD
    have hp : 2 ^ j < 2 ^ 22 := Nat.pow_lt_pow_right (by omega) (show j < 22 by omega)
    have hx := xor64 n (2 ^ j) (by omega) (by simp at hp; generalize 2 ^ j = P at *; omega)
    have hw := wpow j (by omega)
    rw [show ((2 ^ j : Nat) : Int) = (2 : Int) ^ j by simp] at hx hw
    have HX := Lib.hid hx
    clear hx hp
    go_enter Try.func116, Try.ntmps116
    go_wp2_with (first | (go_at_call 115; refine (HC.out _).mono ?_; rintro e w' ⟨rfl, rfl⟩) | fail)
    refine bodyPost_ret (v := .tuple #[.int .i64 (bits .xor .i64 (n : Int) ((2 : Int) ^ j)), .int .i64 1, .int .i64 0]) (by simp [results, Try.results116, go_sem]) rfl ⟨?_, rfl⟩
    rw [HR.out, HX.out]
    rfl
  · clear hb
    have HR : Hid (D = (0, 0, 15)) := Lib.hid (by simpa using HD.out)
    clear HD
    go_enter Try.func116, Try.ntmps116
    go_wp2_with (first | (go_at_call 115; refine (HC.out _).mono ?_; rintro e w' ⟨rfl, rfl⟩) | fail)
    refine bodyPost_ret (v := .tuple #[.int .i64 0, .int .i64 0, .int .i64 15]) (by simp [results, Try.results116, go_sem]) rfl ⟨?_, rfl⟩
    rw [HR.out]
    rfl
end Go.Proofs.Yteelepjhlhifhaa
