/- the walks of the two checks of a packet. -/
import Derived.Test.YtpccpkjfnmclfaaBase
import Derived.WalkKit
import Derived.Outline
import Derived.Handy
import Derived.Lib.Hide
namespace Go.Proofs.Ytpccpkjfnmclfaa
open Go.RowKit

/-- a packet as a value -/
def pv (s : Int) (cm : Bool) (pt nm : Int) (A : Option Addr) (n cap : Nat) : Value := .agg #[.int .i64 s, .bool cm, .int .i64 pt, .int .i64 nm, .slice A n cap]
def ckP (s pt nm : Int) (n : Nat) : Int :=
  if s < 0 ∨ 2047 < s then 1 else if pt < 0 ∨ 3 < pt then 4 else if nm < 0 ∨ 16383 < nm then 1 else if n = 0 then 9 else if 1000 < n then 2 else 0

set_option maxHeartbeats 400000 in
theorem within_any (n lo hi : Int) (w : World) :
    Calls Try.prog 38 #[.int .i64 n, .int .i64 lo, .int .i64 hi] w fun e w' => e = .returned (.bool (decide (lo ≤ n ∧ n ≤ hi))) ∧ w = w' := by
  by_cases h1 : lo ≤ n
  · by_cases h2 : n ≤ hi
    all_goals
      go_enter Try.func38, Try.ntmps38
      go_wp2
      go_ret
      exact ⟨ret_bool (by simp [h1, h2]), rfl⟩
  · go_enter Try.func38, Try.ntmps38
    go_wp2
    go_ret
    exact ⟨ret_bool (by simp; omega), rfl⟩

set_option maxHeartbeats 1000000 in
theorem check_any (s : Int) (cm : Bool) (pt nm : Int) (A : Option Addr) (n cap : Nat) (w : World) :
    Calls Try.prog 63 #[pv s cm pt nm A n cap] w fun e w' => e = .returned (.int .i64 (ckP s pt nm n)) ∧ Below w.heap.size w w' := by
  unfold pv
  go_enter Try.func63, Try.ntmps63
  go_wp2
  all_goals
    go_ret
    refine ⟨ret_int ?_, (Below.refl _ _).alloc (Nat.le_refl _) _⟩
    unfold ckP
    (repeat' split) <;> first | rfl | omega | (simp only [beq_iff_eq, beq_eq_false_iff_ne, ne_eq] at *; omega)

set_option maxHeartbeats 1000000 in
theorem rcheck_any (s : Int) (cm : Bool) (pt nm : Int) (A : Option Addr) (n cap : Nat) (w : World) :
    Calls Try.prog 37 #[pv s cm pt nm A n cap] w fun e w' => e = .returned (.int .i64 (ckP s pt nm n)) ∧ Below w.heap.size w w' := by
  unfold pv
  go_enter Try.func37, Try.ntmps37
  go_wp2_with (go_at_call 38; refine (within_any _ _ _ _).mono ?_; rintro e w' ⟨rfl, rfl⟩)
  all_goals
    go_ret
    refine ⟨ret_int ?_, (Below.refl _ _).alloc (Nat.le_refl _) _⟩
    unfold ckP
    (repeat' split) <;> first | rfl | omega | (simp only [Bool.not_eq_true', Bool.not_eq_false', decide_eq_true_eq, decide_eq_false_iff_not, beq_iff_eq, beq_eq_false_iff_ne, ne_eq] at *; omega)
end Go.Proofs.Ytpccpkjfnmclfaa
