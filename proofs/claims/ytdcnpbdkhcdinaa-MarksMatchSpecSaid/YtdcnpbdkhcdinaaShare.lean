/- shares: rate, below, lowest of the program; lowest and lessShare of the reference. -/
import Derived.Test.YtdcnpbdkhcdinaaShareMath
import Derived.Test.YtdcnpbdkhcdinaaDiv
import Derived.Test.YtdcnpbdkhcdinaaReach
import Derived.Test.YtdcnpbdkhcdinaaCarry
namespace Go.Proofs.Ytdcnpbdkhcdinaa
open Go.RowKit

theorem setCell_draws (w : World) (n : Nat) (a : Addr) (v : Value) : (w.drewN n).setCell a v = (w.setCell a v).drewN n := rfl
theorem alloc_draws (w : World) (n : Nat) (o : Obj) : (w.drewN n).alloc o = (w.alloc o).drewN n := rfl
attribute [local go_sem] setCell_draws alloc_draws
/-- a share as a value -/
def sv (x : Nat × Nat) : Value := .agg #[.int .i64 x.1, .int .i64 x.2]
set_option maxRecDepth 100000 in
set_option maxHeartbeats 1000000 in
theorem rate_any (a b : Mk) (x : Nat × Nat) (h1 : b.z - a.z = x.1) (h2 : b.t - a.t = x.2) (hx1 : x.1 ≤ 1000000000000) (hx2 : x.2 ≤ 1000000000000) (w : World) :
    Calls Try.prog 55 #[mv a, mv b] w fun e w' => e = .returned (sv x) ∧ Below w.heap.size w w' := by
  obtain ⟨at_, az, ao⟩ := a
  obtain ⟨bt, bz, bo⟩ := b
  obtain ⟨p, q⟩ := x
  simp only at *
  unfold mv sv
  have w1 : IntKind.i64.wrap (bz - az) = (p : Int) := by rw [h1]; exact IntWalk.i64_in _ (by omega)
  have w2 : IntKind.i64.wrap (bt - at_) = (q : Int) := by rw [h2]; exact IntWalk.i64_in _ (by omega)
  have w3 : wrap64 (bz - az) = (p : Int) := by rw [h1]; exact IntWalk.wrap64_in _ (by omega)
  have w4 : wrap64 (bt - at_) = (q : Int) := by rw [h2]; exact IntWalk.wrap64_in _ (by omega)
  have w5 : IntKind.i64.wrap (p : Int) = (p : Int) := IntWalk.i64_in _ (by omega)
  have w6 : IntKind.i64.wrap (q : Int) = (q : Int) := IntWalk.i64_in _ (by omega)
  simp only at w1 w2 w3 w4 w5 w6 ⊢
  go_enter Try.func55, Try.ntmps55
  go_wp2_with fail
  exact bodyPost_ret (v := .agg #[.int .i64 (p : Int), .int .i64 (q : Int)]) (by simp [results, Try.results55, go_sem]) rfl ⟨rfl, (((Below.refl _ _).alloc (Nat.le_refl _) _).alloc (by simp) _).alloc (by simp; omega) _⟩
set_option maxRecDepth 100000 in
set_option maxHeartbeats 1000000 in
theorem below_any (x y : Nat × Nat) (hx1 : x.1 ≤ 9000000000000000000) (hx2 : x.2 ≤ 9000000000000000000) (hy1 : y.1 ≤ 9000000000000000000) (hy2 : y.2 ≤ 9000000000000000000) (w : World) :
    Calls Try.prog 56 #[sv x, sv y] w fun e w' => e = .returned (.bool (lessQ x y)) ∧ Below w.heap.size w w' := by
  have M1 := Lib.hid (fun w => mul64_any x.1 y.2 (by omega) (by omega) w)
  have M2 := Lib.hid (fun w => mul64_any y.1 x.2 (by omega) (by omega) w)
  have hc := halves_lt (x.1 * y.2) (y.1 * x.2)
  obtain ⟨a, b⟩ := x
  obtain ⟨c, d⟩ := y
  unfold sv lessQ
  simp only at *
  generalize a * d = P at *
  generalize c * b = Q at *
  obtain ⟨r, hr⟩ : ∃ r, r = decide (P < Q) := ⟨_, rfl⟩
  rw [← hr]
  have HR := Lib.hid hr
  clear hr
  generalize P / 18446744073709551616 = p1 at *
  generalize P % 18446744073709551616 = p0 at *
  generalize Q / 18446744073709551616 = q1 at *
  generalize Q % 18446744073709551616 = q0 at *
  have HC := Lib.hid hc
  clear hc
  go_enter Try.func56, Try.ntmps56
  go_wp2_with fail
  refine (M1.out _).mono ?_
  rintro e w1 ⟨rfl, rfl⟩
  go_wp2_with fail
  refine (M2.out _).mono ?_
  rintro e w2 ⟨rfl, rfl⟩
  go_wp2_with fail
  all_goals
    go_ret
    refine ⟨ret_bool ?_, (((Below.refl _ _).alloc (Nat.le_refl _) _).alloc (by simp) _)⟩
    have := HC.out
    rw [HR.out, Bool.eq_iff_iff]
    simp
    omega
set_option maxRecDepth 100000 in
set_option maxHeartbeats 1000000 in
theorem lessShare_any (x y : Nat × Nat) (hx1 : x.1 ≤ 9000000000000000000) (hx2 : x.2 ≤ 9000000000000000000) (hy1 : y.1 ≤ 9000000000000000000) (hy2 : y.2 ≤ 9000000000000000000) (w : World) :
    Calls Try.prog 59 #[sv x, sv y] w fun e w' => e = .returned (.bool (lessQ x y)) ∧ Below w.heap.size w w' := by
  have M1 := Lib.hid (fun w => mul64_any x.1 y.2 (by omega) (by omega) w)
  have M2 := Lib.hid (fun w => mul64_any y.1 x.2 (by omega) (by omega) w)
  have hc := halves_lt (x.1 * y.2) (y.1 * x.2)
  obtain ⟨a, b⟩ := x
  obtain ⟨c, d⟩ := y
  unfold sv lessQ
  simp only at *
  generalize a * d = P at *
  generalize c * b = Q at *
  obtain ⟨r, hr⟩ : ∃ r, r = decide (P < Q) := ⟨_, rfl⟩
  rw [← hr]
  have HR := Lib.hid hr
  clear hr
  generalize P / 18446744073709551616 = p1 at *
  generalize P % 18446744073709551616 = p0 at *
  generalize Q / 18446744073709551616 = q1 at *
  generalize Q % 18446744073709551616 = q0 at *
  have HC := Lib.hid hc
  clear hc
  go_enter Try.func59, Try.ntmps59
  go_wp2_with fail
  refine (M1.out _).mono ?_
  rintro e w1 ⟨rfl, rfl⟩
  go_wp2_with fail
  refine (M2.out _).mono ?_
  rintro e w2 ⟨rfl, rfl⟩
  go_wp2_with fail
  all_goals
    go_ret
    refine ⟨ret_bool ?_, (((Below.refl _ _).alloc (Nat.le_refl _) _).alloc (by simp) _)⟩
    have := HC.out
    rw [HR.out, Bool.eq_iff_iff]
    simp
    omega

/-- the head of Euclid's loop -/
def GcdAt (g : Nat) (W : World) (a b : Value) (wr : World) : Prop := ∃ p q d : Nat, a = .int .i64 p ∧ b = .int .i64 q ∧ wr = W.drewN d ∧ Nat.gcd p q = g ∧ p ≤ 1000000000000 ∧ q ≤ 1000000000000
set_option maxRecDepth 100000 in
set_option maxHeartbeats 1000000 in
theorem common_any (a b : Nat) (h1 : 0 < a ∧ a ≤ 1000000000000) (h2 : b ≤ 1000000000000) (w : World) :
    Calls Try.prog 81 #[.int .i64 (a : Int), .int .i64 (b : Int)] w fun e w' => e = .returned (.int .i64 (Nat.gcd a b : Nat)) ∧ ∃ d : Nat, w' = w.drewN d := by
  have hg : 0 < Nat.gcd a b := Nat.gcd_pos_of_pos_left _ h1.1
  obtain ⟨g, hge⟩ : ∃ g, g = Nat.gcd a b := ⟨_, rfl⟩
  rw [← hge] at hg ⊢
  have HGE := Lib.hid hge.symm
  clear hge
  go_enter Try.func81, Try.ntmps81
  go_wp2_with fail
  go_loopw [0, 1] (fun a b wr => GcdAt g w a b wr) (fun _ b _ => (intOf b).toNat)
  case atStart => exact ⟨a, b, 0, rfl, rfl, rfl, HGE.out, by omega, h2⟩
  case round =>
    obtain ⟨p, q, d, rfl, rfl, rfl, hgpq, hp, hq⟩ := hrel
    have HGP := Lib.hid hgpq
    clear hgpq
    rcases Nat.eq_zero_or_pos q with h0 | h0
    · subst h0
      have hpg : p = g := by rw [← HGP.out]; exact (Nat.gcd_zero_right p).symm
      subst hpg
      have wn : IntKind.i64.wrap (-(p : Int)) = -(p : Int) := IntWalk.i64_in _ (by omega)
      have wn2 : wrap64 (-(p : Int)) = -(p : Int) := IntWalk.wrap64_in _ (by omega)
      have hm : max (p : Int) (-(p : Int)) = (p : Int) := by omega
      have hlt1 : ¬ (p : Int) < -(p : Int) := by omega
      have hlt2 : -(p : Int) ≤ (p : Int) := by omega
      go_wp2_with fail
      go_ret
      exact ⟨by first | rfl | (rw [hm]), _, rfl⟩
    · have hq0 : ((q : Int) != 0) = true := by simp; omega
      have hqz : ¬ ((q : Int) = 0) := by omega
      have hr : (p : Int) % (q : Int) = ((p % q : Nat) : Int) := (Int.natCast_emod p q).symm
      have hlt := Nat.mod_lt p h0
      have HGN : Hid (Nat.gcd q (p % q) = g) := Lib.hid (by rw [← HGP.out, Nat.gcd_comm q, ← Nat.gcd_rec, Nat.gcd_comm])
      generalize p % q = r at *
      have wr1 : IntKind.i64.wrap (r : Int) = (r : Int) := IntWalk.i64_in _ (by omega)
      go_wp2_with fail
      go_quiet (fail)
      go_wp2_with fail
      go_roundw
      case rel => exact ⟨q, r, d + nq, rfl, by first | rw [hr] | rfl, World.drewN_drewN _ _ _, HGN.out, hq, by omega⟩
      case measure => simp [intOf]; omega
set_option maxRecDepth 100000 in
set_option maxHeartbeats 1000000 in
theorem lowest_any (x : Nat × Nat) (h1 : 0 < x.1 ∧ x.1 ≤ 1000000000000) (h2 : x.2 ≤ 1000000000000) (w : World) :
    Calls Try.prog 57 #[.int .i64 (x.1 : Int), .int .i64 (x.2 : Int)] w fun e w' => e = .returned (sv (lowQ x)) ∧ Below w.heap.size w w' := by
  obtain ⟨a, b⟩ := x
  unfold sv lowQ
  simp only at *
  have hg : 0 < Nat.gcd a b := Nat.gcd_pos_of_pos_left _ h1.1
  have hga := Nat.div_le_self a (Nat.gcd a b)
  have hgb := Nat.div_le_self b (Nat.gcd a b)
  have qa : (a : Int) / (Nat.gcd a b : Nat) = ((a / Nat.gcd a b : Nat) : Int) := (Int.natCast_ediv a _).symm
  have qb : (b : Int) / (Nat.gcd a b : Nat) = ((b / Nat.gcd a b : Nat) : Int) := (Int.natCast_ediv b _).symm
  obtain ⟨W, hW⟩ : ∃ W, W = w.alloc (.cells #[.int .i64 0, .int .i64 0] 45) := ⟨_, rfl⟩
  have HC0 := common_any a b h1 h2 W
  obtain ⟨g, hge⟩ : ∃ g, g = Nat.gcd a b := ⟨_, rfl⟩
  rw [← hge] at hg hga hgb qa qb HC0 ⊢
  have HC := Lib.hid HC0
  clear hge HC0
  generalize a / g = u at *
  generalize b / g = v at *
  have f2 : W.cell? ⟨w.heap.size, 0, none⟩ = some (.int .i64 0) := by rw [hW]; simp
  have f3 : W.cell? ⟨w.heap.size, 1, none⟩ = some (.int .i64 0) := by rw [hW]; simp
  have f4 : W.frozen? ⟨w.heap.size, 0, none⟩ = false := by rw [hW]; simp [go_sem]
  have f5 : W.frozen? ⟨w.heap.size, 1, none⟩ = false := by rw [hW]; simp [go_sem]
  have hbb : Below w.heap.size w W := by rw [hW]; exact (Below.refl _ _).alloc (Nat.le_refl _) _
  have HW := Lib.hid hW
  clear hW
  have hp0 : ¬ ((g : Int) = 0) := by omega
  have wu : IntKind.i64.wrap (u : Int) = (u : Int) := IntWalk.i64_in _ (by omega)
  have wv : IntKind.i64.wrap (v : Int) = (v : Int) := IntWalk.i64_in _ (by omega)
  go_enter Try.func57, Try.ntmps57
  go_wp2_with fail
  rw [← HW.out]
  refine HC.out.mono ?_
  rintro e w' ⟨rfl, d, rfl⟩
  go_wp2_with fail
  go_region
  go_wp2_with fail
  exact bodyPost_ret (v := .agg #[.int .i64 (u : Int), .int .i64 (v : Int)]) (by simp [results, Try.results57, go_sem, f2, f3]) rfl ⟨rfl, below_draws ((hbb.setCell (by simp) _).setCell (by simp) _) _⟩
end Go.Proofs.Ytdcnpbdkhcdinaa
