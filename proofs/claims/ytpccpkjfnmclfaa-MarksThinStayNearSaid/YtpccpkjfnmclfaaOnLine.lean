/- the line through two marks at a tick: onLine of the program, through of the reference. -/
import Derived.Test.YtpccpkjfnmclfaaScaled
namespace Go.Proofs.Ytpccpkjfnmclfaa
open Go.RowKit

/-- what a line's function leaves -/
def LinePost (x : Int) (w : World) (e : Ending) (w' : World) : Prop := (∃ v : Int, e = .returned (.int .i64 v) ∧ Near v x) ∧ Below w.heap.size w w'
/-- two marks in blocks of their own -/
def boxedM (a b : Mk) (w : World) : World := (w.alloc (.cells #[.int .i64 a.t, .int .i64 a.z, .int .i64 a.o] 36)).alloc (.cells #[.int .i64 b.t, .int .i64 b.z, .int .i64 b.o] 36)
set_option maxRecDepth 100000 in
set_option maxHeartbeats 2000000 in
theorem onLine_any (a b : Mk) (n : Int) (ha : a.ok) (hb : b.ok) (hlt : a.lt b) (hn : 0 ≤ n ∧ n ≤ 1000000000000) (w : World) :
    Calls Try.prog 86 #[mv a, mv b, .int .i64 n] w (LinePost (lineF a b n) w) := by
  obtain ⟨h1, h2⟩ := hlt
  have hup := fun (p run : Nat) (m r : Int) hrun hr hp h => near_up (a := a) (b := b) (n := n) (B := 2000000000000) (m := m) (r := r) (p := p) (run := run) ha.2.1 hrun hr hp (by omega) h
  have hdn := fun (p run : Nat) (m r : Int) hrun hr hp h => near_down (a := a) (b := b) (n := n) (B := 2000000000000) (m := m) (r := r) (p := p) (run := run) ha.2.1 hrun hr hp (by omega) h
  obtain ⟨x, hx⟩ : ∃ x, x = lineF a b n := ⟨_, rfl⟩
  rw [← hx] at hup hdn ⊢
  have HUP := Lib.hid hup
  have HDN := Lib.hid hdn
  clear hup hdn hx
  unfold mv LinePost
  obtain ⟨⟨x1, x2⟩, ⟨x3, x4⟩, ⟨x5, x6⟩⟩ := ha
  obtain ⟨⟨y1, y2⟩, ⟨y3, y4⟩, ⟨y5, y6⟩⟩ := hb
  obtain ⟨at_, az, ao⟩ := a
  obtain ⟨bt, bz, bo⟩ := b
  simp only at *
  obtain ⟨n1, n2⟩ := hn
  obtain ⟨R, hR⟩ : ∃ R : Nat, bz - az = R := ⟨(bz - az).toNat, by omega⟩
  obtain ⟨run, hrun⟩ : ∃ run : Nat, bt - at_ = run := ⟨(bt - at_).toNat, by omega⟩
  obtain ⟨W, hW⟩ : ∃ W, W = (w.alloc (.cells #[.int .i64 at_, .int .i64 az, .int .i64 ao] 36)).alloc (.cells #[.int .i64 bt, .int .i64 bz, .int .i64 bo] 36) := ⟨_, rfl⟩
  have f0 : W.cell? ⟨w.heap.size, 0, none⟩ = some (.int .i64 at_) := by rw [hW]; simp
  have f1 : W.cell? ⟨w.heap.size, 1, none⟩ = some (.int .i64 az) := by rw [hW]; simp
  have f2 : W.cell? ⟨w.heap.size, 2, none⟩ = some (.int .i64 ao) := by rw [hW]; simp
  have f3 : W.cell? ⟨w.heap.size + 1, 0, none⟩ = some (.int .i64 bt) := by rw [hW]; simp
  have f4 : W.cell? ⟨w.heap.size + 1, 1, none⟩ = some (.int .i64 bz) := by rw [hW]; simp
  have f5 : W.cell? ⟨w.heap.size + 1, 2, none⟩ = some (.int .i64 bo) := by rw [hW]; simp
  have hsz : W.heap.size = w.heap.size + 2 := by rw [hW]; simp
  have hbb : Below w.heap.size w W := by rw [hW]; exact ((Below.refl _ _).alloc (Nat.le_refl _) _).alloc (by simp) _
  have HW := Lib.hid hW
  clear hW
  have wR : IntKind.i64.wrap (bz - az) = (R : Int) := by rw [hR]; exact IntWalk.i64_in _ (by omega)
  have wr : IntKind.i64.wrap (bt - at_) = (run : Int) := by rw [hrun]; exact IntWalk.i64_in _ (by omega)
  have wR2 : wrap64 (bz - az) = (R : Int) := by rw [hR]; exact IntWalk.wrap64_in _ (by omega)
  have wr2 : wrap64 (bt - at_) = (run : Int) := by rw [hrun]; exact IntWalk.wrap64_in _ (by omega)
  have hRb : R ≤ 1000000000000 := by omega
  have hrb : run ≤ 1000000000000 := by omega
  have hr0 : 0 < run := by omega
  have HRR := Lib.hid hR
  have HRN := Lib.hid hrun
  by_cases hd : at_ ≤ n
  · obtain ⟨D, hD⟩ : ∃ D : Nat, n - at_ = D := ⟨(n - at_).toNat, by omega⟩
    have hDb : D ≤ 1000000000000 := by omega
    have wD : IntKind.i64.wrap (n - at_) = (D : Int) := by rw [hD]; exact IntWalk.i64_in _ (by omega)
    have wD2 : wrap64 (n - at_) = (D : Int) := by rw [hD]; exact IntWalk.wrap64_in _ (by omega)
    have t0 : decide (at_ ≤ n) = true := by simpa using hd
    have HDD := Lib.hid hD
    have HS := Lib.hid (fun w => scaled_any D R run hDb hRb hr0 hrb w)
    clear hD hR hrun
    go_enter Try.func86, Try.ntmps86
    go_wp2_with fail
    rw [← HW.out]
    go_quiet (fail)
    go_wp2_with fail
    refine (HS.out _).mono ?_
    rintro e w1 ⟨⟨m, r, rfl, hs⟩, hb1⟩
    have hb2 := (below_draws hbb nq).trans (hb1.mono (by simp; omega))
    have g1 : w1.cell? ⟨w.heap.size, 1, none⟩ = some (.int .i64 az) := by rw [Below.at_ hb1 _ (by simp; omega)]; simpa using f1
    obtain ⟨⟨r0, r1⟩, m0, m1⟩ := scal_rest hs hr0 (by omega)
    have HN := Lib.hid (HUP.out (D * R) run m r hr0 HRN.out (by rw [HDD.out, HRR.out]; exact Int.natCast_mul D R |>.symm) hs)
    clear hs hb1 HS HUP HDN
    by_cases hr : (run : Int) ≤ 2 * r
    · have t1 : decide ((run : Int) ≤ 2 * r) = true := by simpa using hr
      have HI : Hid (az + (if (run : Int) ≤ 2 * r then m + 1 else m) = az + (m + 1)) := Lib.hid (by rw [if_pos hr])
      go_wp2_with fail
      go_ret
      exact ⟨⟨_, rfl, by rw [← HI.out]; exact HN.out⟩, hb2⟩
    · have t1 : decide ((run : Int) ≤ 2 * r) = false := by simpa using hr
      have HI : Hid (az + (if (run : Int) ≤ 2 * r then m + 1 else m) = az + m) := Lib.hid (by rw [if_neg hr])
      go_wp2_with fail
      go_ret
      exact ⟨⟨_, rfl, by rw [← HI.out]; exact HN.out⟩, hb2⟩
  · obtain ⟨D, hD⟩ : ∃ D : Nat, at_ - n = D := ⟨(at_ - n).toNat, by omega⟩
    have hDb : D ≤ 1000000000000 := by omega
    have wD : IntKind.i64.wrap (at_ - n) = (D : Int) := by rw [hD]; exact IntWalk.i64_in _ (by omega)
    have wD2 : wrap64 (at_ - n) = (D : Int) := by rw [hD]; exact IntWalk.wrap64_in _ (by omega)
    have t0 : decide (at_ ≤ n) = false := by simpa using hd
    have HDD := Lib.hid hD
    have HS := Lib.hid (fun w => scaled_any D R run hDb hRb hr0 hrb w)
    clear hD hR hrun
    go_enter Try.func86, Try.ntmps86
    go_wp2_with fail
    rw [← HW.out]
    go_quiet (fail)
    go_wp2_with fail
    refine (HS.out _).mono ?_
    rintro e w1 ⟨⟨m, r, rfl, hs⟩, hb1⟩
    have hb2 := (below_draws hbb nq).trans (hb1.mono (by simp; omega))
    have g1 : w1.cell? ⟨w.heap.size, 1, none⟩ = some (.int .i64 az) := by rw [Below.at_ hb1 _ (by simp; omega)]; simpa using f1
    obtain ⟨⟨r0, r1⟩, m0, m1⟩ := scal_rest hs hr0 (by omega)
    have HN := Lib.hid (HDN.out (D * R) run m r hr0 HRN.out (by rw [HDD.out, HRR.out]; exact Int.natCast_mul D R |>.symm) hs)
    clear hs hb1 HS HUP HDN
    by_cases hr : (run : Int) < 2 * r
    · have t1 : decide ((run : Int) < 2 * r) = true := by simpa using hr
      have HI : Hid (az - (if (run : Int) < 2 * r then m + 1 else m) = az - (m + 1)) := Lib.hid (by rw [if_pos hr])
      go_wp2_with fail
      go_ret
      exact ⟨⟨_, rfl, by rw [← HI.out]; exact HN.out⟩, hb2⟩
    · have t1 : decide ((run : Int) < 2 * r) = false := by simpa using hr
      have HI : Hid (az - (if (run : Int) < 2 * r then m + 1 else m) = az - m) := Lib.hid (by rw [if_neg hr])
      go_wp2_with fail
      go_ret
      exact ⟨⟨_, rfl, by rw [← HI.out]; exact HN.out⟩, hb2⟩
end Go.Proofs.Ytpccpkjfnmclfaa
