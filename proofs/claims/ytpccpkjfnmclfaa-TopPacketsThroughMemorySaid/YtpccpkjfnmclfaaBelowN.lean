/- Below of the reference. -/
import Derived.Test.YtpccpkjfnmclfaaBase
import Derived.WalkKit
import Derived.Outline
import Derived.Lib.Hide
namespace Go.Proofs.Ytpccpkjfnmclfaa
open Go.RowKit

theorem tmod_low (x : Int) (n : Nat) : -(n : Int) < x.tmod n ∨ n = 0 := by
  rcases Nat.eq_zero_or_pos n with h | h
  · exact .inr h
  · exact .inl (Int.lt_tmod_of_pos x (by omega))
theorem emod_of_tmod (x : Int) (n : Nat) : x % (n : Int) = (x.tmod n) % (n : Int) := by
  have h := Int.mul_tdiv_add_tmod x n
  conv => lhs; rw [← h]
  rw [Int.mul_add_emod_self_left]

set_option maxRecDepth 100000 in
set_option maxHeartbeats 400000 in
theorem belowN_any (x : Int) (n : Nat) (w : World) (h1 : 1 ≤ n) (h2 : n ≤ 1000000000000) (hx : -9223372036854775808 ≤ x ∧ x ≤ 9223372036854775807) :
    Calls Try.prog 30 #[.int .i64 x, .int .i64 n] w fun e w' => e = .returned (.int .i64 (x % (n : Int))) ∧ w = w' := by
  obtain ⟨hx1, hx2⟩ := hx
  by_cases h0 : 0 ≤ x
  · have hp : 0 ≤ x % (n : Int) := Int.emod_nonneg _ (by omega)
    go_enter Try.func30, Try.ntmps30
    go_wp2
    go_ret
    exact ⟨rfl, rfl⟩
  · have hlo : -(n : Int) < x.tmod n := by
      rcases tmod_low x n with h | h
      · exact h
      · omega
    have hhi : x.tmod n ≤ 0 := by
      have := Int.tmod_nonneg (n : Int) (show (0 : Int) ≤ -x by omega)
      rw [Int.neg_tmod] at this
      omega
    have he := emod_of_tmod x n
    by_cases hz : x.tmod n < 0
    · have hr : x % (n : Int) = x.tmod n + n := by
        rw [he, ← Int.add_emod_right, Int.emod_eq_of_lt (by omega) (by omega)]
      have HR := Lib.hid hr
      clear hr he
      go_enter Try.func30, Try.ntmps30
      go_wp2
      go_ret
      exact ⟨ret_int (by rw [HR.out]), rfl⟩
    · have ht : x.tmod n = 0 := by omega
      have hr : x % (n : Int) = 0 := by rw [he, ht]; simp
      have HR := Lib.hid hr
      have hz' : 0 ≤ x.tmod n := by omega
      have HT := Lib.hid ht
      clear hr he ht
      go_enter Try.func30, Try.ntmps30
      go_wp2
      go_ret
      exact ⟨ret_int (by rw [HR.out, HT.out]), rfl⟩
end Go.Proofs.Ytpccpkjfnmclfaa
