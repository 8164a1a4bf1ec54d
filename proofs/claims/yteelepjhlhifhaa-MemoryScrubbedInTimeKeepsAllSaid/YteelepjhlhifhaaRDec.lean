/- the walk of the reference's word of a code. -/
import Derived.Test.YteelepjhlhifhaaRKinds
namespace Go.Proofs.Yteelepjhlhifhaa
open Go.RowKit

theorem gather_low (g : Nat) (hg : g < 65536) : g % 2 ^ dat 21 = g := by rw [dat_all]; exact Nat.mod_eq_of_lt (by simpa using hg)
set_option maxRecDepth 100000 in
set_option maxHeartbeats 1000000 in
theorem rdecoded_any (n : Nat) (hn : n < 4194304) (w : World) :
    Calls Try.prog 109 #[.int .i64 (n : Int)] w fun e w' => e = .returned (.tuple #[.int .i64 ((decN n).1 : Int), .int .i64 ((decN n).2.1 : Int), .int .i64 ((decN n).2.2 : Int)]) ∧ w = w' := by
  have HC := Lib.hid (rright_any n hn)
  have HD := Lib.hid (dec_right n)
  have hl := right_lt n hn
  generalize decN n = D at *
  generalize rightN n = K at *
  obtain ⟨c, k, f⟩ := K
  simp only at *
  by_cases hf : f = 0
  · subst hf
    have HR : Hid (D = (gather c, k, 0)) := Lib.hid (by simpa using HD.out)
    have HL := Lib.hid (gather_low (gather c) (gather_lt c))
    have HS := Lib.hid (show ∀ j, j < 21 → chk j = false → bitN (gather c) (dat j) = bitN c j from fun j h1 h2 => bit_gather c j h1 h2)
    clear HD
    generalize gather c = g at *
    go_enter Try.func109, Try.ntmps109
    go_wp2_with (first | (go_at_call 116; refine (HC.out _).mono ?_; rintro e w' ⟨rfl, rfl⟩) | fail)
    go_loop [7, 8, 9] (fun v d i => ∃ j : Nat, j ≤ 21 ∧ i = .int .i64 ((j : Int) + 1) ∧ d = .int .i64 ((dat j : Nat) : Int) ∧ v = .int .i64 ((g % 2 ^ dat j : Nat) : Int)) (fun _ _ i => 23 - (intOf i).toNat)
    case atStart => exact ⟨0, by omega, rfl, rfl, by simp [dat, Nat.mod_one]⟩
    case round =>
      obtain ⟨j, hj, rfl, rfl, rfl⟩ := hrel
      by_cases hlt : j < 21
      · have HB := Lib.hid (isCheck_any j hlt ((j : Int) + 1) (Lib.hid rfl))
        have HH := Lib.hid (has_any c j hl (by omega) ((j : Int) + 1) (Lib.hid rfl))
        have hd : dat (j + 1) = if chk j = true then dat j else dat j + 1 := rfl
        have hdl := dat_le j hj
        cases hck : chk j
        · have hbs := HS.out j hlt hck
          have hls := low_succ g (dat j)
          rw [hck] at hd HB
          simp only [Bool.false_eq_true, if_false] at hd
          have hor := or_low64 g (dat j) (by omega)
          have hw := wpow (dat j) (by omega)
          rw [show ((2 ^ dat j : Nat) : Int) = (2 : Int) ^ dat j by simp] at hor hw
          have HD2 := Lib.hid hd
          clear hck hd
          by_cases h1 : bitN c j = 1
          · have HR2 : Hid (g % 2 ^ dat (j + 1) = g % 2 ^ dat j + 2 ^ dat j) := Lib.hid (by rw [HD2.out, hls, hbs, h1]; omega)
            simp only [h1, decide_true] at HH
            have HOR := Lib.hid hor
            have HW := Lib.hid hw
            clear hls hbs h1 hor hw
            generalize g % 2 ^ dat j = x at *
            generalize dat j = d at *
            go_wp2_with (first | (go_at_call 117; refine (HB.out _).mono ?_; rintro e w' ⟨rfl, rfl⟩) | (go_at_call 118; refine (HH.out _).mono ?_; rintro e w' ⟨rfl, rfl⟩) | fail)
            go_round
            case rel => exact ⟨j + 1, by omega, by go_num, by rw [HD2.out]; go_num, by rw [HR2.out]; first | exact congrArg _ HOR.out | (rw [HW.out]; exact congrArg _ HOR.out)⟩
            case measure => simp [intOf]; omega
          · have hb := bit_lt c j
            have h0 : bitN c j = 0 := by omega
            have HR2 : Hid (g % 2 ^ dat (j + 1) = g % 2 ^ dat j) := Lib.hid (by rw [HD2.out, hls, hbs, h0]; omega)
            simp only [h1, decide_false] at HH
            clear hls hbs h1 h0 hb hor hw
            generalize g % 2 ^ dat j = x at *
            generalize dat j = d at *
            go_wp2_with (first | (go_at_call 117; refine (HB.out _).mono ?_; rintro e w' ⟨rfl, rfl⟩) | (go_at_call 118; refine (HH.out _).mono ?_; rintro e w' ⟨rfl, rfl⟩) | fail)
            go_round
            case rel => exact ⟨j + 1, by omega, by go_num, by rw [HD2.out]; go_num, by rw [HR2.out]⟩
            case measure => simp [intOf]; omega
        · rw [hck] at hd HB
          simp only [if_true] at hd
          have HR2 : Hid (g % 2 ^ dat (j + 1) = g % 2 ^ dat j) := Lib.hid (by rw [hd])
          have HD2 := Lib.hid hd
          clear hck hd HH
          generalize g % 2 ^ dat j = x at *
          generalize dat j = d at *
          go_wp2_with (first | (go_at_call 117; refine (HB.out _).mono ?_; rintro e w' ⟨rfl, rfl⟩) | fail)
          go_round
          case rel => exact ⟨j + 1, by omega, by go_num, by rw [HD2.out], by rw [HR2.out]⟩
          case measure => simp [intOf]; omega
      · obtain rfl : j = 21 := by omega
        clear HS
        simp only [HL.out]
        generalize dat 21 = d at *
        go_wp2_with fail
        refine bodyPost_ret (v := .tuple #[.int .i64 (g : Int), .int .i64 (k : Int), .int .i64 0]) (by simp [results, Try.results109, go_sem]) rfl ⟨?_, rfl⟩
        rw [HR.out]
        rfl
  · have HR : Hid (D = (0, 0, f)) := Lib.hid (by have := HD.out; rw [if_neg hf] at this; exact this)
    have hf1 : ((f : Int) != 0) = true := by simp; omega
    clear HD
    go_enter Try.func109, Try.ntmps109
    go_wp2_with (first | (go_at_call 116; refine (HC.out _).mono ?_; rintro e w' ⟨rfl, rfl⟩) | fail)
    refine bodyPost_ret (v := .tuple #[.int .i64 0, .int .i64 0, .int .i64 (f : Int)]) (by simp [results, Try.results109, go_sem]) rfl ⟨?_, rfl⟩
    rw [HR.out]
    rfl
end Go.Proofs.Yteelepjhlhifhaa
