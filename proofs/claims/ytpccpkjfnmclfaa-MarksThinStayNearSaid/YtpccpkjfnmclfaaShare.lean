/- shares: rate, below, lowest of the program; lowest and lessShare of the reference. -/
import Derived.Test.YtpccpkjfnmclfaaShareMath
import Derived.Test.YtpccpkjfnmclfaaDiv
import Derived.Test.YtpccpkjfnmclfaaReach
import Derived.Test.YtpccpkjfnmclfaaCarry
namespace Go.Proofs.Ytpccpkjfnmclfaa
open Go.RowKit

theorem setCell_draws (w : World) (n : Nat) (a : Addr) (v : Value) : (w.drewN n).setCell a v = (w.setCell a v).drewN n := rfl
theorem alloc_draws (w : World) (n : Nat) (o : Obj) : (w.drewN n).alloc o = (w.alloc o).drewN n := rfl
attribute [local go_sem] setCell_draws alloc_draws
/-- a share as a value -/
def sv (x : Nat × Nat) : Value := .agg #[.int .i64 x.1, .int .i64 x.2]
set_option maxRecDepth 100000 in
set_option maxHeartbeats 1000000 in
theorem rate_any (a b : Mk) (x : Nat × Nat) (h1 : b.z - a.z = x.1) (h2 : b.t - a.t = x.2) (hx1 : x.1 ≤ 1000000000000) (hx2 : x.2 ≤ 1000000000000) (w : World) :
    Calls Try.prog 78 #[mv a, mv b] w fun e w' => e = .returned (sv x) ∧ Below w.heap.size w w' := by
  obtain ⟨at_, az, ao⟩ := a
  obtain ⟨bt, bz, bo⟩ := b
  obtain ⟨p, q⟩ := x
  simp only at *
  unfold mv sv
  have w1 : IntKind.i64.wrap (bz - az) = (p : Int) := by rw [h1]; exact IntWalk.i64_in _ (by omega)
  have w2 : IntKind.i64.wrap (bt - at_) = (q : Int) := by rw [h2]; exact IntWalk.i64_in _ (by omega)
  have w3 : wrap64 (bz - az) = (p : Int) := by rw [h1]; exact IntWalk.wrap64_in _ (by omega)
  have w4 : wrap64 (bt - at_) = (q : Int) := by rw [h2]; exact IntWalk.wrap64_in _ (by omega)
  have w5 : IntKind.i64.wrap (p : Int) = (p : Int) := IntWalk.i64_in _ (by omega)
  have w6 : IntKind.i64.wrap (q : Int) = (q : Int) := IntWalk.i64_in _ (by omega)
  simp only at w1 w2 w3 w4 w5 w6 ⊢
  go_enter Try.func78, Try.ntmps78
  go_wp2_with fail
  exact bodyPost_ret (v := .agg #[.int .i64 (p : Int), .int .i64 (q : Int)]) (by simp [results, Try.results78, go_sem]) rfl ⟨rfl, (((Below.refl _ _).alloc (Nat.le_refl _) _).alloc (by simp) _).alloc (by simp; omega) _⟩
set_option maxRecDepth 100000 in
set_option maxHeartbeats 1000000 in
theorem below_any (x y : Nat × Nat) (hx1 : x.1 ≤ 9000000000000000000) (hx2 : x.2 ≤ 9000000000000000000) (hy1 : y.1 ≤ 9000000000000000000) (hy2 : y.2 ≤ 9000000000000000000) (w : World) :
    Calls Try.prog 79 #[sv x, sv y] w fun e w' => e = .returned (.bool (lessQ x y)) ∧ Below w.heap.size w w' := by
  have M1 := Lib.hid (fun w => mul64_any x.1 y.2 (by omega) (by omega) w)
  have M2 := Lib.hid (fun w => mul64_any y.1 x.2 (by omega) (by omega) w)
  have hc := halves_lt (x.1 * y.2) (y.1 * x.2)
  obtain ⟨a, b⟩ := x
  obtain ⟨c, d⟩ := y
  unfold sv lessQ
  simp only at *
  generalize a * d = P at *
  generalize c * b = Q at *
  obtain ⟨r, hr⟩ : ∃ r, r = decide (P < Q) := ⟨_, rfl⟩
  rw [← hr]
  have HR := Lib.hid hr
  clear hr
  generalize P / 18446744073709551616 = p1 at *
  generalize P % 18446744073709551616 = p0 at *
  generalize Q / 18446744073709551616 = q1 at *
  generalize Q % 18446744073709551616 = q0 at *
  have HC := Lib.hid hc
  clear hc
  go_enter Try.func79, Try.ntmps79
  go_wp2_with fail
  refine (M1.out _).mono ?_
  rintro e w1 ⟨rfl, rfl⟩
  go_wp2_with fail
  refine (M2.out _).mono ?_
  rintro e w2 ⟨rfl, rfl⟩
  go_wp2_with fail
  all_goals
    go_ret
    refine ⟨ret_bool ?_, (((Below.refl _ _).alloc (Nat.le_refl _) _).alloc (by simp) _)⟩
    have := HC.out
    rw [HR.out, Bool.eq_iff_iff]
    simp
    omega
/-- the head of Euclid's loop -/
def GcdAt (g : Nat) (W : World) (a b : Value) (wr : World) : Prop := ∃ p q d : Nat, a = .int .i64 p ∧ b = .int .i64 q ∧ wr = W.drewN d ∧ Nat.gcd p q = g ∧ p ≤ 1000000000000 ∧ q ≤ 1000000000000
end Go.Proofs.Ytpccpkjfnmclfaa
