/- the walk of the reference's code of a word. -/
import Derived.Test.YtidddoldkedicaaRBits
namespace Go.Proofs.Ytidddoldkedicaa
open Go.RowKit

/-- what `1 << (1<<k - 1)` is -/
def checkBit : Nat → Int
  | 0 => 1
  | 1 => 2
  | 2 => 8
  | 3 => 128
  | _ => 32768
theorem or_low64 (s j : Nat) (hj : j < 21) : bits .or .i64 ((s % 2 ^ j : Nat) : Int) ((2 ^ j : Nat) : Int) = ((s % 2 ^ j + 2 ^ j : Nat) : Int) := by
  have hol := or_low s j
  have hpj : 2 ^ j < 2097152 := Nat.pow_lt_pow_right (show 1 < 2 by omega) hj
  have hsl : s % 2 ^ j < 2 ^ j := Nat.mod_lt _ (Nat.two_pow_pos j)
  rw [← hol]
  clear hol
  generalize s % 2 ^ j = x at *
  generalize 2 ^ j = p at *
  exact or64 x p (by omega) (by omega)
set_option maxRecDepth 100000 in
set_option maxHeartbeats 2000000 in
theorem rcoded_any (n : Nat) (hn : n < 65536) (w : World) :
    Calls Try.prog 52 #[.int .i64 (n : Int)] w fun e w' => e = .returned (.int .i64 ((codeN n : Nat) : Int)) ∧ w = w' := by
  have hs := spread_lt n
  have HM := Lib.hid (rmark_any (spread n) (by omega))
  have HN := Lib.hid (show nearCode n = checksTo (markTo (spread n) 21) (spread n) 5 from rfl)
  have hml := mark_lt (spread n) 21 (by omega)
  have HC := Lib.hid (checks_lt (markTo (spread n) 21) (spread n) (by omega))
  have HZ := Lib.hid (fun k hk => checks_clear (markTo (spread n) 21) n k hk)
  have HO := Lib.hid (rodd_any (nearCode n) (near_lt n))
  have hq := near_lt n
  have HQ := Lib.hid (near_clear n)
  have HE := Lib.hid (show codeN n = if oddTo (nearCode n) 22 = true then nearCode n ^^^ 2 ^ 21 else nearCode n from rfl)
  have HS := Lib.hid (show ∀ j, j < 21 → bitN (spread n) j = if chk j = true then 0 else bitN n (dat j) from fun j hj => bit_spread n j hj)
  have HL := Lib.hid (show spread n % 2 ^ 21 = spread n from Nat.mod_eq_of_lt (by simpa using hs))
  generalize codeN n = R at *
  generalize markTo (spread n) 21 = m at *
  generalize spread n = s at *
  go_enter Try.func52, Try.ntmps52
  go_wp2_with fail
  go_loop [0, 3, 4] (fun v c i => ∃ j : Nat, j ≤ 21 ∧ i = .int .i64 ((j : Int) + 1) ∧ c = .int .i64 ((s % 2 ^ j : Nat) : Int) ∧ v = .int .i64 ((n / 2 ^ dat j : Nat) : Int)) (fun _ _ i => 23 - (intOf i).toNat)
  case atStart => exact ⟨0, by omega, rfl, by simp [Nat.mod_one], by simp [dat]⟩
  case round =>
    obtain ⟨j, hj, rfl, rfl, rfl⟩ := hrel
    by_cases hlt : j < 21
    · have HB := Lib.hid (isCheck_any j hlt ((j : Int) + 1) (Lib.hid rfl))
      have hbs := HS.out j hlt
      have hls := low_succ s j
      have hd : dat (j + 1) = if chk j = true then dat j else dat j + 1 := rfl
      have hw := wpow j (by omega)
      have hor := or_low64 s j hlt
      cases hck : chk j
      · rw [hck] at hbs hd HB
        simp only [Bool.false_eq_true, if_false] at hbs hd
        have hv : n / 2 ^ dat j < 65536 := Nat.lt_of_le_of_lt (Nat.div_le_self _ _) hn
        have hab := and_one (n / 2 ^ dat j) (by omega)
        have hbn : n / 2 ^ dat j % 2 = bitN n (dat j) := rfl
        have hvs : (n / 2 ^ dat (j + 1) : Nat) = n / 2 ^ dat j / 2 := by rw [hd, Nat.pow_succ, Nat.div_div_eq_div_mul]
        have HV := Lib.hid hvs
        rw [hbn] at hab
        clear hbn hvs hck hd hv
        generalize n / 2 ^ dat j = v at *
        by_cases h1 : bitN n (dat j) = 1
        · have HR : Hid (s % 2 ^ (j + 1) = s % 2 ^ j + 2 ^ j) := Lib.hid (by rw [hls, hbs, h1]; omega)
          rw [h1] at hab
          clear hls hbs h1
          generalize s % 2 ^ j = x at *
          rw [show ((2 ^ j : Nat) : Int) = (2 : Int) ^ j by simp] at hor hw
          have HOR := Lib.hid hor
          have HW := Lib.hid hw
          clear hor hw
          go_wp2_with (first | (go_at_call 77; refine (HB.out _).mono ?_; rintro e w' ⟨rfl, rfl⟩) | fail)
          go_round
          case rel => exact ⟨j + 1, by omega, by go_num, by rw [HR.out]; first | exact congrArg _ HOR.out | (rw [HW.out]; exact congrArg _ HOR.out), by rw [HV.out]; go_num⟩
          case measure => simp [intOf]; omega
        · have hb := bit_lt n (dat j)
          have h0 : bitN n (dat j) = 0 := by omega
          have HR : Hid (s % 2 ^ (j + 1) = s % 2 ^ j) := Lib.hid (by rw [hls, hbs, h0]; omega)
          rw [h0] at hab
          clear hls hbs h1 h0 hor hw hb
          generalize s % 2 ^ j = x at *
          go_wp2_with (first | (go_at_call 77; refine (HB.out _).mono ?_; rintro e w' ⟨rfl, rfl⟩) | fail)
          go_round
          case rel => exact ⟨j + 1, by omega, by go_num, by rw [HR.out], by rw [HV.out]; go_num⟩
          case measure => simp [intOf]; omega
      · rw [hck] at hbs hd HB
        simp only [if_true] at hbs hd
        have HR : Hid (s % 2 ^ (j + 1) = s % 2 ^ j) := Lib.hid (by rw [hls, hbs]; omega)
        have HV : Hid (n / 2 ^ dat (j + 1) = n / 2 ^ dat j) := Lib.hid (by rw [hd])
        clear hls hbs hck hd hor hw
        generalize s % 2 ^ j = x at *
        generalize n / 2 ^ dat j = v at *
        go_wp2_with (first | (go_at_call 77; refine (HB.out _).mono ?_; rintro e w' ⟨rfl, rfl⟩) | fail)
        go_round
        case rel => exact ⟨j + 1, by omega, by go_num, by rw [HR.out], by rw [HV.out]⟩
        case measure => simp [intOf]; omega
    · obtain rfl : j = 21 := by omega
      clear HS
      simp only [HL.out]
      generalize n / 2 ^ dat 21 = v at *
      go_wp2_with (first | (go_at_call 78; refine (HM.out _).mono ?_; rintro e w' ⟨rfl, rfl⟩) | fail)
      go_loop [3, 6, 25] (fun c _ i => ∃ k : Nat, k ≤ 5 ∧ i = .int .i64 (k : Int) ∧ c = .int .i64 ((checksTo m s k : Nat) : Int)) (fun _ _ i => 6 - (intOf i).toNat)
      case atStart => exact ⟨0, by omega, rfl, rfl⟩
      case round =>
        obtain ⟨k, hk, rfl, rfl⟩ := hrel
        by_cases hk5 : k < 5
        · have hcl := HC.out k hk
          have hz := HZ.out k hk5
          have hand := and_bit m k (by omega)
          have HK := Lib.hid (show checksTo m s (k + 1) = if bitN m k = 1 then checksTo m s k ^^^ 2 ^ (2 ^ k - 1) else checksTo m s k from rfl)
          generalize checksTo m s k = c at *
          have ho := or_xor c (2 ^ k - 1) hz
          by_cases h1 : bitN m k = 1
          · rw [if_pos h1] at HK
            rw [h1] at hand
            rw [← ho] at HK
            clear h1 hk hz ho
            have hc : k = 0 ∨ k = 1 ∨ k = 2 ∨ k = 3 ∨ k = 4 := by omega
            clear hk5
            rcases hc with rfl | rfl | rfl | rfl | rfl <;> simp only [Nat.reducePow, Nat.reduceSub, Int.reducePow, Int.ediv_one, Int.cast_ofNat_Int] at *
            · have hor := or64 c 1 (by omega) (by omega)
              have HOR := Lib.hid hor
              clear hor
              go_wp2_with fail
              go_round
              case rel => exact ⟨1, by omega, rfl, by rw [HK.out]; exact congrArg _ HOR.out⟩
              case measure => simp [intOf]
            · have hor := or64 c 2 (by omega) (by omega)
              have HOR := Lib.hid hor
              clear hor
              go_wp2_with fail
              go_round
              case rel => exact ⟨2, by omega, rfl, by rw [HK.out]; exact congrArg _ HOR.out⟩
              case measure => simp [intOf]
            · have hor := or64 c 8 (by omega) (by omega)
              have HOR := Lib.hid hor
              clear hor
              go_wp2_with fail
              go_round
              case rel => exact ⟨3, by omega, rfl, by rw [HK.out]; exact congrArg _ HOR.out⟩
              case measure => simp [intOf]
            · have hor := or64 c 128 (by omega) (by omega)
              have HOR := Lib.hid hor
              clear hor
              go_wp2_with fail
              go_round
              case rel => exact ⟨4, by omega, rfl, by rw [HK.out]; exact congrArg _ HOR.out⟩
              case measure => simp [intOf]
            · have hor := or64 c 32768 (by omega) (by omega)
              have HOR := Lib.hid hor
              clear hor
              go_wp2_with fail
              go_round
              case rel => exact ⟨5, by omega, rfl, by rw [HK.out]; exact congrArg _ HOR.out⟩
              case measure => simp [intOf]
          · rw [if_neg h1] at HK
            have hb := bit_lt m k
            have h0 : bitN m k = 0 := by omega
            rw [h0] at hand
            clear h1 hk hz ho h0 hb
            go_wp2_with fail
            go_round
            case rel => exact ⟨k + 1, by omega, by go_num, by rw [HK.out]⟩
            case measure => simp [intOf]; omega
        · obtain rfl : k = 5 := by omega
          have HN2 := Lib.hid HN.out.symm
          rw [HN2.out]
          clear HN HN2 HC HZ
          generalize nearCode n = q at *
          have hor := or64 q (2 ^ 21) (by omega) (by omega)
          rw [or_xor q 21 HQ.out] at hor
          have HOR := Lib.hid hor
          clear hor
          cases ho : oddTo q 22
          · have HR : Hid (R = q) := by have := HE.out; rw [ho] at this; exact Lib.hid (by simpa using this)
            rw [ho] at HO
            clear HE ho
            go_wp2_with (first | (go_at_call 79; refine (HO.out _).mono ?_; rintro e w' ⟨rfl, rfl⟩) | fail)
            go_ret
            exact ⟨ret_int (by rw [HR.out]), rfl⟩
          · have HR : Hid (R = q ^^^ 2 ^ 21) := by have := HE.out; rw [ho] at this; exact Lib.hid (by simpa using this)
            rw [ho] at HO
            clear HE ho
            go_wp2_with (first | (go_at_call 79; refine (HO.out _).mono ?_; rintro e w' ⟨rfl, rfl⟩) | fail)
            go_ret
            exact ⟨ret_int (by rw [HR.out]; exact HOR.out), rfl⟩
end Go.Proofs.Ytidddoldkedicaa
