/- the sum of bytes, asked of package store and of its reference. -/
import Derived.Test.YthcijelebjgfkaaRSumOf
namespace Go.Proofs.Ythcijelebjgfkaa
open Go.RowKit

/-- the answer of a sum: none of more than 262144 bytes -/
def sumS (l : List UInt8) : Int × Int := if 262144 < l.length then (0, 2) else (crc l, 0)
set_option maxRecDepth 100000 in
set_option maxHeartbeats 400000 in
theorem ssum_any (A : Option Addr) (c : Nat) (l : List UInt8) (B : Nat) (w : World) (hl : l.length ≤ 9223372036854775807) (h : BR w B A l) :
    Calls Try.prog 13 #[.slice A l.length c] w fun e w' => e = .returned (.tuple #[.int .i64 (sumS l).1, .int .i64 (sumS l).2]) ∧ w = w' := by
  have HS := Lib.hid (sum_any A c l B w hl h)
  clear h
  unfold sumS
  by_cases h : 262144 < l.length
  · rw [if_pos h]
    have t1 : decide ((262144 : Int) < (l.length : Int)) = true := decide_eq_true (by omega)
    clear h
    go_enter Try.func13, Try.ntmps13
    go_wp2
    go_ret2
    exact ⟨rfl, rfl⟩
  · rw [if_neg h]
    have t1 : decide ((262144 : Int) < (l.length : Int)) = false := decide_eq_false (by omega)
    clear h
    go_enter Try.func13, Try.ntmps13
    go_wp2_with (first | (go_at_call 30; refine HS.out.mono ?_; rintro e w' ⟨rfl, rfl⟩) | fail)
    go_ret2
    exact ⟨rfl, rfl⟩
set_option maxRecDepth 100000 in
set_option maxHeartbeats 400000 in
theorem rsum4_any (A : Option Addr) (c : Nat) (l : List UInt8) (B : Nat) (w : World) (hl : l.length ≤ 9223372036854775807) (h : BR w B A l) :
    Calls Try.prog 14 #[.slice A l.length c] w fun e w' => e = .returned (.tuple #[.int .i64 (sumS l).1, .int .i64 (sumS l).2]) ∧ w = w' := by
  have HS := Lib.hid (rsumOf_any A c l B w hl h)
  clear h
  unfold sumS
  by_cases h : 262144 < l.length
  · rw [if_pos h]
    have t1 : decide ((262144 : Int) < (l.length : Int)) = true := decide_eq_true (by omega)
    clear h
    go_enter Try.func14, Try.ntmps14
    go_wp2
    go_ret2
    exact ⟨rfl, rfl⟩
  · rw [if_neg h]
    have t1 : decide ((262144 : Int) < (l.length : Int)) = false := decide_eq_false (by omega)
    clear h
    go_enter Try.func14, Try.ntmps14
    go_wp2_with (first | (go_at_call 39; refine HS.out.mono ?_; rintro e w' ⟨rfl, rfl⟩) | fail)
    go_ret2
    exact ⟨rfl, rfl⟩
end Go.Proofs.Ythcijelebjgfkaa
