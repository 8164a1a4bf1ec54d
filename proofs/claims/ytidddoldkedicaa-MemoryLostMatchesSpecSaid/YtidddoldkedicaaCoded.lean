/- the walks of the program's codes and words. -/
import Derived.Test.YtidddoldkedicaaBits
namespace Go.Proofs.Ytidddoldkedicaa
open Go.RowKit

theorem or_add (a b k : Nat) (ha : a < 2 ^ k) : a ||| b * 2 ^ k = a + b * 2 ^ k := by
  have := Nat.two_pow_add_eq_or_of_lt ha b
  rw [Nat.or_comm, Nat.mul_comm b, ← this, Nat.add_comm]
theorem wi64 (a : Nat) (ha : a < 9223372036854775808) : wrap64 (a : Int) = (a : Int) := IntWalk.wrap64_in _ ⟨by omega, by omega⟩
/-- a field of k bits, moved up by s -/
theorem and_field (x k m s : Nat) (hm : m = 2 ^ k - 1) (hk : k ≤ 7) (hx : x < 4194304) (hs : s ≤ 65536) : wrap64 (bits .and .i64 (x : Int) (m : Int) * (s : Int)) = ((x % 2 ^ k * s : Nat) : Int) := by
  have h1 : 2 ^ k ≤ 2 ^ 7 := Nat.pow_le_pow_right (by omega) hk
  have h2 : x % 2 ^ k < 2 ^ k := Nat.mod_lt _ (Nat.two_pow_pos k)
  have h3 : x % 2 ^ k * s ≤ 128 * 65536 := Nat.mul_le_mul (by omega) hs
  rw [hm, and64 _ _ (by omega) (by omega), Nat.and_two_pow_sub_one_eq_mod, ← Int.natCast_mul]
  exact wi64 _ (by omega)
theorem and_low (x k m : Nat) (hm : m = 2 ^ k - 1) (hk : k ≤ 7) (hx : x < 4194304) : bits .and .i64 (x : Int) (m : Int) = ((x % 2 ^ k : Nat) : Int) := by
  have h1 : 2 ^ k ≤ 2 ^ 7 := Nat.pow_le_pow_right (by omega) hk
  rw [hm, and64 _ _ (by omega) (by omega), Nat.and_two_pow_sub_one_eq_mod]
theorem gather_bits (c : Nat) (hc : c < 4194304) :
    bits .or .i64 (bits .or .i64 (bits .or .i64 (bits .and .i64 ((c : Int) / 4) 1) (wrap64 (bits .and .i64 ((c : Int) / 16) 7 * 2))) (wrap64 (bits .and .i64 ((c : Int) / 256) 127 * 16)))
      (wrap64 (bits .and .i64 ((c : Int) / 65536) 31 * 2048)) = ((gather c : Nat) : Int) := by
  have e1 := and_low (c / 4) 1 1 rfl (by omega) (by omega)
  have e2 := and_field (c / 16) 3 7 2 rfl (by omega) (by omega) (by omega)
  have e3 := and_field (c / 256) 7 127 16 rfl (by omega) (by omega) (by omega)
  have e4 := and_field (c / 65536) 5 31 2048 rfl (by omega) (by omega) (by omega)
  simp only [Nat.reducePow, Int.natCast_ediv, Int.cast_ofNat_Int] at e1 e2 e3 e4
  rw [e1, e2, e3, e4]
  have b1 : c / 4 % 2 < 2 := Nat.mod_lt _ (by omega)
  have b2 : c / 16 % 8 < 8 := Nat.mod_lt _ (by omega)
  have b3 : c / 256 % 128 < 128 := Nat.mod_lt _ (by omega)
  have b4 : c / 65536 % 32 < 32 := Nat.mod_lt _ (by omega)
  unfold gather
  generalize c / 4 % 2 = a1, c / 16 % 8 = a2, c / 256 % 128 = a3, c / 65536 % 32 = a4 at *
  rw [or64 _ _ (by omega) (by omega), or_add _ a2 1 (by omega), or64 _ _ (by omega) (by omega), or_add _ a3 4 (by omega), or64 _ _ (by omega) (by omega), or_add _ a4 11 (by omega)]
theorem spread_bits (n : Nat) (hn : n < 65536) :
    bits .or .i64 (bits .or .i64 (bits .or .i64 (wrap64 (bits .and .i64 (n : Int) 1 * 4)) (wrap64 (bits .and .i64 ((n : Int) / 2) 7 * 16))) (wrap64 (bits .and .i64 ((n : Int) / 16) 127 * 256)))
      (wrap64 (bits .and .i64 ((n : Int) / 2048) 31 * 65536)) = ((spread n : Nat) : Int) := by
  have e1 := and_field n 1 1 4 rfl (by omega) (by omega) (by omega)
  have e2 := and_field (n / 2) 3 7 16 rfl (by omega) (by omega) (by omega)
  have e3 := and_field (n / 16) 7 127 256 rfl (by omega) (by omega) (by omega)
  have e4 := and_field (n / 2048) 5 31 65536 rfl (by omega) (by omega) (by omega)
  simp only [Nat.reducePow, Int.natCast_ediv, Int.cast_ofNat_Int] at e1 e2 e3 e4
  rw [e1, e2, e3, e4]
  have b1 : n % 2 < 2 := Nat.mod_lt _ (by omega)
  have b2 : n / 2 % 8 < 8 := Nat.mod_lt _ (by omega)
  have b3 : n / 16 % 128 < 128 := Nat.mod_lt _ (by omega)
  have b4 : n / 2048 % 32 < 32 := Nat.mod_lt _ (by omega)
  unfold spread
  generalize n % 2 = a1, n / 2 % 8 = a2, n / 16 % 128 = a3, n / 2048 % 32 = a4 at *
  rw [or64 _ _ (by omega) (by omega), or_add _ a2 4 (by omega), or64 _ _ (by omega) (by omega), or_add _ a3 8 (by omega), or64 _ _ (by omega) (by omega), or_add _ a4 16 (by omega)]

set_option maxRecDepth 100000 in
set_option maxHeartbeats 400000 in
theorem wordOf_any (c : Nat) (hc : c < 4194304) (w : World) :
    Calls Try.prog 54 #[.int .i64 (c : Int)] w fun e w' => e = .returned (.int .i64 ((gather c : Nat) : Int)) ∧ w = w' := by
  go_enter Try.func54, Try.ntmps54
  go_wp2
  go_ret
  exact ⟨ret_int (gather_bits c hc), rfl⟩

/-- the check bits, one behind the other -/
def checkOf : Nat → Int
  | 0 => 1
  | 1 => 2
  | 2 => 4
  | 3 => 8
  | 4 => 16
  | _ => 32
theorem and_check (m : Nat) (hm : m < 32) (k : Nat) (hk : k < 5) : bits .and .i64 (m : Int) (checkOf k) = if bitN m k = 1 then checkOf k else 0 := by
  have key : ∀ m, m < 32 → ∀ k, k < 5 → ((m &&& 2 ^ k : Nat) : Int) = if bitN m k = 1 then checkOf k else 0 := by decide +kernel
  have e : checkOf k = ((2 ^ k : Nat) : Int) := by
    rcases (by omega : k = 0 ∨ k = 1 ∨ k = 2 ∨ k = 3 ∨ k = 4) with rfl | rfl | rfl | rfl | rfl <;> rfl
  have hp : 2 ^ k < 2 ^ 5 := Nat.pow_lt_pow_right (by omega) hk
  rw [← key m hm k hk, e]
  exact and64 m (2 ^ k) (by omega) (by omega)
set_option maxRecDepth 100000 in
set_option maxHeartbeats 1000000 in
theorem coded_any (n : Nat) (hn : n < 65536) (w : World) :
    Calls Try.prog 50 #[.int .i64 (n : Int)] w fun e w' => e = .returned (.int .i64 ((codeN n : Nat) : Int)) ∧ w = w' := by
  have HS := Lib.hid (spread_bits n hn)
  have hs := spread_lt n
  have HM := Lib.hid (mark_any (spread n) (by omega))
  have HN := Lib.hid (show nearCode n = checksTo (markTo (spread n) 21) (spread n) 5 from rfl)
  have hml := mark_lt (spread n) 21 (by omega)
  generalize hm0 : markTo (spread n) 21 = m at *
  have HC := Lib.hid (checks_lt m (spread n) (by omega))
  have HO := Lib.hid (odd_any (nearCode n) (near_lt n))
  have HF := Lib.hid (flipped_any (nearCode n) 21 (near_lt n) (by omega) 22 rfl)
  have HE := Lib.hid (show codeN n = if oddTo (nearCode n) 22 = true then nearCode n ^^^ 2 ^ 21 else nearCode n from rfl)
  generalize codeN n = R at *
  go_enter Try.func50, Try.ntmps50
  go_wp2_with fail
  simp only [HS.out]
  refine (HM.out _).mono ?_
  rintro e w' ⟨rfl, rfl⟩
  clear hm0 HS HM
  generalize spread n = s at *
  go_wp2_with fail
  go_loop [3, 5] (fun c i => ∃ k : Nat, k ≤ 5 ∧ i = .int .i64 (checkOf k) ∧ c = .int .i64 ((checksTo m s k : Nat) : Int)) (fun _ i => 64 - (intOf i).toNat)
  case atStart => exact ⟨0, by omega, rfl, rfl⟩
  case round =>
    obtain ⟨k, hk, rfl, rfl⟩ := hrel
    by_cases hlt : k < 5
    · have hcl := HC.out k hk
      have hand := and_check m hml k hlt
      have HK := Lib.hid (show checksTo m s (k + 1) = if bitN m k = 1 then checksTo m s k ^^^ 2 ^ (2 ^ k - 1) else checksTo m s k from rfl)
      generalize checksTo m s k = c at *
      by_cases h1 : bitN m k = 1
      · rw [if_pos h1] at HK hand
        clear h1 hk
        have hc : k = 0 ∨ k = 1 ∨ k = 2 ∨ k = 3 ∨ k = 4 := by omega
        clear hlt
        rcases hc with rfl | rfl | rfl | rfl | rfl <;> simp only [checkOf, Nat.reducePow, Nat.reduceSub] at *
        · have HF1 := Lib.hid (flipped_any c 0 hcl (by omega) 1 rfl)
          go_wp2_with fail
          refine (HF1.out _).mono ?_
          rintro e w' ⟨rfl, rfl⟩
          go_wp2_with fail
          go_round
          case rel => exact ⟨1, by omega, rfl, by rw [HK.out]⟩
          case measure => simp [intOf]
        · have HF1 := Lib.hid (flipped_any c 1 hcl (by omega) 2 rfl)
          go_wp2_with fail
          refine (HF1.out _).mono ?_
          rintro e w' ⟨rfl, rfl⟩
          go_wp2_with fail
          go_round
          case rel => exact ⟨2, by omega, rfl, by rw [HK.out]⟩
          case measure => simp [intOf]
        · have HF1 := Lib.hid (flipped_any c 3 hcl (by omega) 4 rfl)
          go_wp2_with fail
          refine (HF1.out _).mono ?_
          rintro e w' ⟨rfl, rfl⟩
          go_wp2_with fail
          go_round
          case rel => exact ⟨3, by omega, rfl, by rw [HK.out]⟩
          case measure => simp [intOf]
        · have HF1 := Lib.hid (flipped_any c 7 hcl (by omega) 8 rfl)
          go_wp2_with fail
          refine (HF1.out _).mono ?_
          rintro e w' ⟨rfl, rfl⟩
          go_wp2_with fail
          go_round
          case rel => exact ⟨4, by omega, rfl, by rw [HK.out]⟩
          case measure => simp [intOf]
        · have HF1 := Lib.hid (flipped_any c 15 hcl (by omega) 16 rfl)
          go_wp2_with fail
          refine (HF1.out _).mono ?_
          rintro e w' ⟨rfl, rfl⟩
          go_wp2_with fail
          go_round
          case rel => exact ⟨5, by omega, rfl, by rw [HK.out]⟩
          case measure => simp [intOf]
      · rw [if_neg h1] at HK hand
        clear h1 hk
        have hc : k = 0 ∨ k = 1 ∨ k = 2 ∨ k = 3 ∨ k = 4 := by omega
        clear hlt
        rcases hc with rfl | rfl | rfl | rfl | rfl <;> simp only [checkOf] at *
        · go_wp2_with fail
          go_round
          case rel => exact ⟨1, by omega, rfl, by rw [HK.out]⟩
          case measure => simp [intOf]
        · go_wp2_with fail
          go_round
          case rel => exact ⟨2, by omega, rfl, by rw [HK.out]⟩
          case measure => simp [intOf]
        · go_wp2_with fail
          go_round
          case rel => exact ⟨3, by omega, rfl, by rw [HK.out]⟩
          case measure => simp [intOf]
        · go_wp2_with fail
          go_round
          case rel => exact ⟨4, by omega, rfl, by rw [HK.out]⟩
          case measure => simp [intOf]
        · go_wp2_with fail
          go_round
          case rel => exact ⟨5, by omega, rfl, by rw [HK.out]⟩
          case measure => simp [intOf]
    · obtain rfl : k = 5 := by omega
      have HN2 := Lib.hid HN.out.symm
      simp only [checkOf]
      rw [HN2.out]
      clear HN HN2 HC
      generalize nearCode n = q at *
      go_wp2_with fail
      refine (HO.out _).mono ?_
      rintro e w' ⟨rfl, rfl⟩
      cases ho : oddTo q 22
      · have HR : Hid (R = q) := by have := HE.out; rw [ho] at this; exact Lib.hid (by simpa using this)
        clear HE ho
        go_wp2_with fail
        go_ret
        exact ⟨ret_int (by rw [HR.out]), rfl⟩
      · have HR : Hid (R = q ^^^ 2 ^ 21) := by have := HE.out; rw [ho] at this; exact Lib.hid (by simpa using this)
        clear HE ho
        go_wp2_with fail
        refine (HF.out _).mono ?_
        rintro e w' ⟨rfl, rfl⟩
        go_wp2_with fail
        go_ret
        exact ⟨ret_int (by rw [HR.out]), rfl⟩
end Go.Proofs.Ytidddoldkedicaa
