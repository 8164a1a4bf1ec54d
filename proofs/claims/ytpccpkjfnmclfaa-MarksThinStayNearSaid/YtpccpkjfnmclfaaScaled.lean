/- quotients of 128 bits: scaled of the program, divided and nearest of the reference; the line through two marks on both sides. -/
import Derived.Test.YtpccpkjfnmclfaaDiv
import Derived.Test.YtpccpkjfnmclfaaLineMath
import Derived.Test.YtpccpkjfnmclfaaReach
namespace Go.Proofs.Ytpccpkjfnmclfaa
open Go.RowKit

theorem prod_bd {D R : Nat} (hD : D ≤ 1000000000000) (hR : R ≤ 1000000000000) : D * R ≤ 1000000000000000000000000 := by
  calc D * R ≤ 1000000000000 * 1000000000000 := Nat.mul_le_mul hD hR
    _ = 1000000000000000000000000 := by omega
theorem big_quo {p run : Nat} (h0 : 0 < run) (h : run ≤ p / 18446744073709551616) : 18446744073709551616 ≤ p / run := by
  rw [Nat.le_div_iff_mul_le h0]
  have := Nat.div_mul_le_self p 18446744073709551616
  calc 18446744073709551616 * run ≤ 18446744073709551616 * (p / 18446744073709551616) := Nat.mul_le_mul_left _ h
    _ = p / 18446744073709551616 * 18446744073709551616 := Nat.mul_comm _ _
    _ ≤ p := this
set_option maxRecDepth 100000 in
set_option maxHeartbeats 1000000 in
theorem scaled_any (D R run : Nat) (hD : D ≤ 1000000000000) (hR : R ≤ 1000000000000) (h0 : 0 < run) (h1 : run ≤ 1000000000000) (w : World) :
    Calls Try.prog 113 #[.int .i64 D, .int .i64 R, .int .i64 run] w fun e w' => (∃ n r : Int, e = .returned (.tuple #[.int .i64 n, .int .i64 r]) ∧ Scal 2000000000000 (D * R) run n r) ∧ Below w.heap.size w w' := by
  have hp := prod_bd hD hR
  have hm := fun w => mul64_any D R (by omega) (by omega) w
  have hdm := Nat.div_add_mod (D * R) 18446744073709551616
  have hdv := fun (h : D * R / 18446744073709551616 < run) w => div64_any (D * R / 18446744073709551616) (D * R % 18446744073709551616) run w (Nat.mod_lt _ (by omega)) (by omega) h
  have hbig := fun h => big_quo (p := D * R) h0 h
  have hrm := Nat.mod_lt (D * R) h0
  rw [Nat.mul_comm] at hdm
  rw [hdm] at hdv
  have HD := Lib.hid hdv
  have HM := Lib.hid hm
  have hhi : D * R / 18446744073709551616 < 18446744073709551616 := by omega
  have HDM := Lib.hid hdm
  clear hdv hm hdm
  generalize D * R = p at *
  generalize p / 18446744073709551616 = hi at *
  generalize p % 18446744073709551616 = lo at *
  by_cases hc : run ≤ hi
  · have hq := hbig hc
    have t1 : decide ((run : Int) ≤ (hi : Int)) = true := by simp; omega
    have HQ : Hid (Scal 2000000000000 p run 2000000000000 0) := Lib.hid (.inr ⟨by omega, rfl, by omega, by omega⟩)
    clear HD hbig hq hrm
    go_enter Try.func113, Try.ntmps113
    go_wp2_with fail
    refine (HM.out _).mono ?_
    rintro e w1 ⟨rfl, rfl⟩
    go_wp2_with fail
    go_ret2
    exact ⟨⟨_, _, rfl, HQ.out⟩, Below.refl _ _⟩
  · have t1 : decide ((run : Int) ≤ (hi : Int)) = false := by simp; omega
    have hdv := HD.out (by omega)
    clear HD hbig
    have HS1 : Hid (p / run ≤ 2000000000000 → Scal 2000000000000 p run ((p / run : Nat) : Int) ((p % run : Nat) : Int)) := Lib.hid fun h => .inl ⟨rfl, by omega, rfl⟩
    have HS2 : Hid (2000000000000 < p / run → Scal 2000000000000 p run 2000000000000 ((p % run : Nat) : Int)) := Lib.hid fun h => .inr ⟨by omega, rfl, by omega, by omega⟩
    generalize p / run = q at *
    generalize p % run = r at *
    have HDV := Lib.hid hdv
    clear hdv
    have w2 : IntKind.i64.wrap (r : Int) = (r : Int) := IntWalk.i64_in _ (by omega)
    by_cases hq : q ≤ 2000000000000
    · have HQ := Lib.hid (HS1.out hq)
      have t2 : decide ((2000000000000 : Int) < (q : Int)) = false := by simp; omega
      have t3 : min (q : Int) 2000000000000 = (q : Int) := by omega
      have w1 : IntKind.i64.wrap (q : Int) = (q : Int) := IntWalk.i64_in _ (by omega)
      clear HS1 HS2
      go_enter Try.func113, Try.ntmps113
      go_wp2_with fail
      refine (HM.out _).mono ?_
      rintro e w1 ⟨rfl, rfl⟩
      go_wp2_with fail
      refine (HDV.out _).mono ?_
      rintro e w2 ⟨rfl, hb⟩
      go_wp2_with fail
      go_ret2
      exact ⟨⟨_, _, rfl, HQ.out⟩, hb⟩
    · have HQ := Lib.hid (HS2.out (by omega))
      have t2 : decide ((2000000000000 : Int) < (q : Int)) = true := by simp; omega
      have t3 : min (q : Int) 2000000000000 = 2000000000000 := by omega
      clear HS1 HS2
      go_enter Try.func113, Try.ntmps113
      go_wp2_with fail
      refine (HM.out _).mono ?_
      rintro e w1 ⟨rfl, rfl⟩
      go_wp2_with fail
      refine (HDV.out _).mono ?_
      rintro e w2 ⟨rfl, hb⟩
      go_wp2_with fail
      go_ret2
      exact ⟨⟨_, _, rfl, HQ.out⟩, hb⟩
set_option maxRecDepth 100000 in
set_option maxHeartbeats 1000000 in
theorem divided_any (D R run : Nat) (hD : D ≤ 1000000000000) (hR : R ≤ 1000000000000) (h0 : 0 < run) (h1 : run ≤ 1000000000000) (w : World) :
    Calls Try.prog 123 #[.int .i64 D, .int .i64 R, .int .i64 run] w fun e w' => (∃ n r : Int, e = .returned (.tuple #[.int .i64 n, .int .i64 r]) ∧ Scal 4611686018427387904 (D * R) run n r) ∧ Below w.heap.size w w' := by
  have hp := prod_bd hD hR
  have hm := fun w => mul64_any D R (by omega) (by omega) w
  have hdm := Nat.div_add_mod (D * R) 18446744073709551616
  have hdv := fun (h : D * R / 18446744073709551616 < run) w => div64_any (D * R / 18446744073709551616) (D * R % 18446744073709551616) run w (Nat.mod_lt _ (by omega)) (by omega) h
  have hbig := fun h => big_quo (p := D * R) h0 h
  have hrm := Nat.mod_lt (D * R) h0
  rw [Nat.mul_comm] at hdm
  rw [hdm] at hdv
  have HD := Lib.hid hdv
  have HM := Lib.hid hm
  have hhi : D * R / 18446744073709551616 < 18446744073709551616 := by omega
  have HDM := Lib.hid hdm
  clear hdv hm hdm
  generalize D * R = p at *
  generalize p / 18446744073709551616 = hi at *
  generalize p % 18446744073709551616 = lo at *
  by_cases hc : run ≤ hi
  · have hq := hbig hc
    have t1 : decide ((run : Int) ≤ (hi : Int)) = true := by simp; omega
    have HQ : Hid (Scal 4611686018427387904 p run 4611686018427387904 0) := Lib.hid (.inr ⟨by omega, rfl, by omega, by omega⟩)
    clear HD hbig hq hrm
    go_enter Try.func123, Try.ntmps123
    go_wp2_with fail
    refine (HM.out _).mono ?_
    rintro e w1 ⟨rfl, rfl⟩
    go_wp2_with fail
    go_ret2
    exact ⟨⟨_, _, rfl, HQ.out⟩, Below.refl _ _⟩
  · have t1 : decide ((run : Int) ≤ (hi : Int)) = false := by simp; omega
    have hdv := HD.out (by omega)
    clear HD hbig
    have HS1 : Hid (p / run < 4611686018427387904 → Scal 4611686018427387904 p run ((p / run : Nat) : Int) ((p % run : Nat) : Int)) := Lib.hid fun h => .inl ⟨rfl, by omega, rfl⟩
    have HS2 : Hid (4611686018427387904 ≤ p / run → Scal 4611686018427387904 p run 4611686018427387904 0) := Lib.hid fun h => .inr ⟨by omega, rfl, by omega, by omega⟩
    generalize p / run = q at *
    generalize p % run = r at *
    have HDV := Lib.hid hdv
    clear hdv
    have w2 : IntKind.i64.wrap (r : Int) = (r : Int) := IntWalk.i64_in _ (by omega)
    by_cases hq : q < 4611686018427387904
    · have HQ := Lib.hid (HS1.out hq)
      have t2 : decide ((4611686018427387904 : Int) ≤ (q : Int)) = false := by simp; omega
      have w1 : IntKind.i64.wrap (q : Int) = (q : Int) := IntWalk.i64_in _ (by omega)
      clear HS1 HS2
      go_enter Try.func123, Try.ntmps123
      go_wp2_with fail
      refine (HM.out _).mono ?_
      rintro e w1 ⟨rfl, rfl⟩
      go_wp2_with fail
      refine (HDV.out _).mono ?_
      rintro e w2 ⟨rfl, hb⟩
      go_wp2_with fail
      go_ret2
      exact ⟨⟨_, _, rfl, HQ.out⟩, hb⟩
    · have HQ := Lib.hid (HS2.out (by omega))
      have t2 : decide ((4611686018427387904 : Int) ≤ (q : Int)) = true := by simp; omega
      clear HS1 HS2
      go_enter Try.func123, Try.ntmps123
      go_wp2_with fail
      refine (HM.out _).mono ?_
      rintro e w1 ⟨rfl, rfl⟩
      go_wp2_with fail
      refine (HDV.out _).mono ?_
      rintro e w2 ⟨rfl, hb⟩
      go_wp2_with fail
      go_ret2
      exact ⟨⟨_, _, rfl, HQ.out⟩, hb⟩
set_option maxRecDepth 100000 in
set_option maxHeartbeats 1000000 in
theorem nearest_up (D R run : Nat) (hD : D ≤ 1000000000000) (hR : R ≤ 1000000000000) (h0 : 0 < run) (h1 : run ≤ 1000000000000) (w : World) :
    Calls Try.prog 112 #[.int .i64 D, .int .i64 R, .int .i64 run] w fun e w' => (∃ n r : Int, e = .returned (.int .i64 (if (run : Int) ≤ 2 * r then n + 1 else n)) ∧ Scal 4611686018427387904 (D * R) run n r) ∧ Below w.heap.size w w' := by
  have HD := Lib.hid (fun w => divided_any D R run hD hR h0 h1 w)
  have t0 : decide ((D : Int) < 0) = false := by simp
  have t00 : ¬ (D : Int) < 0 := by omega
  go_enter Try.func112, Try.ntmps112
  go_wp2_with fail
  refine (HD.out _).mono ?_
  rintro e w1 ⟨⟨n, r, rfl, hs⟩, hb⟩
  have HS := Lib.hid hs
  obtain ⟨⟨r0, r1⟩, n0, n1⟩ := scal_rest hs h0 (by omega)
  clear hs HD
  by_cases hr : (run : Int) ≤ 2 * r
  · have t1 : decide ((run : Int) ≤ 2 * r) = true := by simpa using hr
    have HI : Hid ((if (run : Int) ≤ 2 * r then n + 1 else n) = n + 1) := Lib.hid (if_pos hr)
    go_wp2_with fail
    go_ret
    exact ⟨⟨n, r, by rw [HI.out]; rfl, HS.out⟩, hb⟩
  · have t1 : decide ((run : Int) ≤ 2 * r) = false := by simpa using hr
    have HI : Hid ((if (run : Int) ≤ 2 * r then n + 1 else n) = n) := Lib.hid (if_neg hr)
    go_wp2_with fail
    go_ret
    exact ⟨⟨n, r, by rw [HI.out]; rfl, HS.out⟩, hb⟩
set_option maxRecDepth 100000 in
set_option maxHeartbeats 1000000 in
theorem nearest_down (D R run : Nat) (hD0 : 0 < D) (hD : D ≤ 1000000000000) (hR : R ≤ 1000000000000) (h0 : 0 < run) (h1 : run ≤ 1000000000000) (a : Int) (ha : a = -(D : Int)) (w : World) :
    Calls Try.prog 112 #[.int .i64 a, .int .i64 R, .int .i64 run] w fun e w' => (∃ n r : Int, e = .returned (.int .i64 (-(if (run : Int) < 2 * r then n + 1 else n))) ∧ Scal 4611686018427387904 (D * R) run n r) ∧ Below w.heap.size w w' := by
  have HD := Lib.hid (fun w => divided_any D R run hD hR h0 h1 w)
  have t0 : decide (a < 0) = true := by simp; omega
  have t00 : a < 0 := by omega
  have wn : IntKind.i64.wrap (-a) = (D : Int) := by rw [ha, Int.neg_neg]; exact IntWalk.i64_in _ (by omega)
  have wn2 : -a = (D : Int) := by omega
  clear ha
  go_enter Try.func112, Try.ntmps112
  go_wp2_with fail
  refine (HD.out _).mono ?_
  rintro e w1 ⟨⟨n, r, rfl, hs⟩, hb⟩
  have HS := Lib.hid hs
  obtain ⟨⟨r0, r1⟩, n0, n1⟩ := scal_rest hs h0 (by omega)
  clear hs HD wn wn2
  by_cases hr : (run : Int) < 2 * r
  · have t1 : decide ((run : Int) < 2 * r) = true := by simpa using hr
    have HI : Hid ((if (run : Int) < 2 * r then n + 1 else n) = n + 1) := Lib.hid (if_pos hr)
    have w5 : IntKind.i64.wrap (-(n + 1)) = -(n + 1) := IntWalk.i64_in _ (by omega)
    go_wp2_with fail
    go_ret
    exact ⟨⟨n, r, by rw [HI.out]; rfl, HS.out⟩, hb⟩
  · have t1 : decide ((run : Int) < 2 * r) = false := by simpa using hr
    have HI : Hid ((if (run : Int) < 2 * r then n + 1 else n) = n) := Lib.hid (if_neg hr)
    have w5 : IntKind.i64.wrap (-n) = -n := IntWalk.i64_in _ (by omega)
    go_wp2_with fail
    go_ret
    exact ⟨⟨n, r, by rw [HI.out]; rfl, HS.out⟩, hb⟩
end Go.Proofs.Ytpccpkjfnmclfaa
