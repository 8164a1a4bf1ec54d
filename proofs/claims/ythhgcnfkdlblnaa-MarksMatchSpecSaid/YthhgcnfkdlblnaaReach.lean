/- both checks of a clock; reach of both sides. -/
import Derived.Test.YthhgcnfkdlblnaaMarks
import Derived.Test.YthhgcnfkdlblnaaClockMath
namespace Go.Proofs.Ythhgcnfkdlblnaa
open Go.RowKit

/-- a clock, a mark as values -/
def cv (s f : Int) : Value := .agg #[.int .i64 s, .int .i64 f]
def mv (x : Mk) : Value := .agg #[.int .i64 x.t, .int .i64 x.z, .int .i64 x.o]

set_option maxHeartbeats 1000000 in
theorem checkClock_any (s f : Int) (w : World) :
    Calls Try.prog 37 #[cv s f] w fun e w' => e = .returned (.int .i64 (ckC s f)) ∧ Below w.heap.size w w' := by
  unfold cv
  go_enter Try.func37, Try.ntmps37
  go_wp2
  all_goals
    go_ret
    refine ⟨ret_int ?_, (Below.refl _ _).alloc (Nat.le_refl _) _⟩
    unfold ckC
    (repeat' split) <;> first | rfl | omega
set_option maxHeartbeats 1000000 in
theorem rcheckClock_any (s f : Int) (w : World) :
    Calls Try.prog 38 #[cv s f] w fun e w' => e = .returned (.int .i64 (ckC s f)) ∧ Below w.heap.size w w' := by
  unfold cv
  go_enter Try.func38, Try.ntmps38
  go_wp2_with (go_at_call 54; refine (within_any _ _ _ _).mono ?_; rintro e w' ⟨rfl, rfl⟩)
  all_goals
    go_ret
    refine ⟨ret_int ?_, (Below.refl _ _).alloc (Nat.le_refl _) _⟩
    unfold ckC
    (repeat' split) <;> first | rfl | omega | (simp only [Bool.not_eq_true', Bool.not_eq_false', decide_eq_true_eq, decide_eq_false_iff_not] at *; omega)

set_option maxHeartbeats 400000 in
theorem own_any (x : Mk) (hx : x.ok) (w : World) :
    Calls Try.prog 87 #[mv x] w fun e w' => e = .returned (.tuple #[.int .i64 (x.z - x.o), .int .i64 (x.z + x.o)]) ∧ Below w.heap.size w w' := by
  obtain ⟨⟨x1, x2⟩, ⟨x3, x4⟩, ⟨x5, x6⟩⟩ := hx
  obtain ⟨t, z, o⟩ := x
  simp only at *
  unfold mv
  go_enter Try.func87, Try.ntmps87
  go_wp2_with fail
  go_quiet (fail)
  go_wp2_with fail
  go_ret2
  exact ⟨rfl, below_draws ((Below.refl _ _).alloc (Nat.le_refl _) _) _⟩
set_option maxHeartbeats 400000 in
theorem roundedUp_any (z : Int) (h : 0 ≤ z ∧ z ≤ 1000000000000000000) (w : World) :
    Calls Try.prog 88 #[.int .i64 z] w fun e w' => e = .returned (.int .i64 ((z + 999999) / 1000000)) ∧ w = w' := by
  obtain ⟨h1, h2⟩ := h
  go_enter Try.func88, Try.ntmps88
  go_wp2
  go_ret
  exact ⟨ret_int (by omega), rfl⟩
set_option maxHeartbeats 400000 in
theorem up_any (z : Int) (h : 0 ≤ z ∧ z ≤ 1000000000000000000) (w : World) :
    Calls Try.prog 89 #[.int .i64 z] w fun e w' => e = .returned (.int .i64 ((z + 999999) / 1000000)) ∧ w = w' := by
  obtain ⟨h1, h2⟩ := h
  go_enter Try.func89, Try.ntmps89
  go_wp2
  go_ret
  exact ⟨rfl, rfl⟩

theorem quiet_eq {f : FuncId} {args : Array Value} {w : World} {n : Nat} {v : Value} (h : Calls Try.prog f args (w.drewN n) fun e w' => e = .returned v ∧ w.drewN n = w') :
    Calls Try.prog f args (w.drewN n) fun e w'' => e = .returned v ∧ ∃ m, w'' = w.drewN m := h.mono fun _ _ ⟨he, hm⟩ => ⟨he, n, hm.symm⟩
/-- what reach leaves -/
def ReachPost (r : Int × Int) (w : World) (e : Ending) (w' : World) : Prop := e = .returned (.tuple #[.int .i64 r.1, .int .i64 r.2]) ∧ Below w.heap.size w w'
set_option maxRecDepth 100000 in
set_option maxHeartbeats 1000000 in
theorem reach_any (s f : Int) (x : Mk) (n : Int) (hs : 1 ≤ s ∧ s ≤ 1000000) (hf : 1 ≤ f ∧ f ≤ 1000000) (hx : x.ok) (hn : 0 ≤ n ∧ n ≤ 1000000000000) (w : World) :
    Calls Try.prog 68 #[cv s f, mv x, .int .i64 n] w (ReachPost (reachF s f x n) w) := by
  have ho := fun w => own_any x hx w
  obtain ⟨r, hr⟩ : ∃ r, r = reachF s f x n := ⟨_, rfl⟩
  rw [← hr]
  have HR := Lib.hid hr
  clear hr
  unfold mv at ho
  unfold mv cv
  obtain ⟨⟨x1, x2⟩, ⟨x3, x4⟩, ⟨x5, x6⟩⟩ := hx
  obtain ⟨t, z, o⟩ := x
  simp only at *
  obtain ⟨n1, n2⟩ := hn
  have HO := Lib.hid ho
  clear ho
  go_enter Try.func68, Try.ntmps68
  go_wp2_with fail
  refine (HO.out _).mono ?_
  rintro e w1 ⟨rfl, hb1⟩
  have f0 : w1.cell? ⟨w.heap.size, 0, none⟩ = some (.int .i64 s) := by rw [Below.at_ hb1 _ (by simp; omega)]; simp
  have f1 : w1.cell? ⟨w.heap.size, 1, none⟩ = some (.int .i64 f) := by rw [Below.at_ hb1 _ (by simp; omega)]; simp
  have f2 : w1.cell? ⟨w.heap.size + 1, 0, none⟩ = some (.int .i64 t) := by rw [Below.at_ hb1 _ (by simp)]; simp
  have hbb : Below w.heap.size w w1 := (((Below.refl _ _).alloc (Nat.le_refl _) _).alloc (by simp) _).trans (hb1.mono (by simp; omega))
  clear hb1
  by_cases hd : 0 ≤ n - t
  · obtain ⟨p1, p2⟩ := mul_bd (d := n - t) (by omega) hs
    obtain ⟨q1, q2⟩ := mul_bd (d := n - t) (by omega) hf
    have hF : r = (z - o + (n - t) * s / 1000000, z + o + ((n - t) * f + 999999) / 1000000) := by
      rw [HR.out]
      unfold reachF
      rw [if_pos hd]
    have wD : wrap64 (n - t) = n - t := IntWalk.wrap64_in _ (by omega)
    have wP0 : IntKind.i64.wrap ((n - t) * s) = (n - t) * s := IntWalk.i64_in _ (by omega)
    have wQ0 : IntKind.i64.wrap ((n - t) * f) = (n - t) * f := IntWalk.i64_in _ (by omega)
    obtain ⟨P, hP⟩ : ∃ P, P = (n - t) * s := ⟨_, rfl⟩
    obtain ⟨Q, hQ⟩ : ∃ Q, Q = (n - t) * f := ⟨_, rfl⟩
    rw [← hP] at p1 p2 hF
    rw [← hQ] at q1 q2 hF
    have wP := wP0.trans hP.symm
    have wQ := wQ0.trans hQ.symm
    have HF := Lib.hid hF
    clear wP0 wQ0 hP hQ hF HR
    have HQ := Lib.hid (fun w => roundedUp_any Q ⟨q1, q2⟩ w)
    have wP2 : IntKind.i64.wrap (P.tdiv 1000000) = P / 1000000 := by rw [Int.tdiv_eq_ediv_of_nonneg p1]; exact IntWalk.i64_in _ (by omega)
    have wS : IntKind.i64.wrap (z - o + P / 1000000) = z - o + P / 1000000 := IntWalk.i64_in _ (by omega)
    have wT : IntKind.i64.wrap (z + o + (Q + 999999) / 1000000) = z + o + (Q + 999999) / 1000000 := IntWalk.i64_in _ (by omega)
    have hdd : t ≤ n := by omega
    clear hs hf
    go_wp2_with fail
    go_quiet ((go_at_call 88; exact quiet_eq (HQ.out _)))
    go_wp2_with fail
    go_ret2
    rw [HF.out]
    exact ⟨rfl, below_draws hbb _⟩
  · obtain ⟨p1, p2⟩ := mul_bd (d := t - n) (by omega) hf
    obtain ⟨q1, q2⟩ := mul_bd (d := t - n) (by omega) hs
    have hF : r = (z - o - ((t - n) * f + 999999) / 1000000, z + o - (t - n) * s / 1000000) := by
      rw [HR.out]
      unfold reachF
      rw [if_neg hd]
    have wD : wrap64 (t - n) = t - n := IntWalk.wrap64_in _ (by omega)
    have wP0 : IntKind.i64.wrap ((t - n) * f) = (t - n) * f := IntWalk.i64_in _ (by omega)
    have wQ0 : IntKind.i64.wrap ((t - n) * s) = (t - n) * s := IntWalk.i64_in _ (by omega)
    obtain ⟨P, hP⟩ : ∃ P, P = (t - n) * f := ⟨_, rfl⟩
    obtain ⟨Q, hQ⟩ : ∃ Q, Q = (t - n) * s := ⟨_, rfl⟩
    rw [← hP] at p1 p2 hF
    rw [← hQ] at q1 q2 hF
    have wP := wP0.trans hP.symm
    have wQ := wQ0.trans hQ.symm
    have HF := Lib.hid hF
    clear wP0 wQ0 hP hQ hF HR
    have HQ := Lib.hid (fun w => roundedUp_any P ⟨p1, p2⟩ w)
    have wP2 : IntKind.i64.wrap (Q.tdiv 1000000) = Q / 1000000 := by rw [Int.tdiv_eq_ediv_of_nonneg q1]; exact IntWalk.i64_in _ (by omega)
    have wS : IntKind.i64.wrap (z - o - (P + 999999) / 1000000) = z - o - (P + 999999) / 1000000 := IntWalk.i64_in _ (by omega)
    have wT : IntKind.i64.wrap (z + o - Q / 1000000) = z + o - Q / 1000000 := IntWalk.i64_in _ (by omega)
    have hdd : ¬ t ≤ n := by omega
    have hd2 : n < t := by omega
    clear hs hf
    go_wp2_with fail
    go_quiet ((go_at_call 88; exact quiet_eq (HQ.out _)))
    go_wp2_with fail
    go_ret2
    rw [HF.out]
    exact ⟨rfl, below_draws hbb _⟩

set_option maxRecDepth 100000 in
set_option maxHeartbeats 1000000 in
theorem windowOf_any (s f : Int) (x : Mk) (n : Int) (hs : 1 ≤ s ∧ s ≤ 1000000) (hf : 1 ≤ f ∧ f ≤ 1000000) (hx : x.ok) (hn : 0 ≤ n ∧ n ≤ 1000000000000) (w : World) :
    Calls Try.prog 70 #[cv s f, mv x, .int .i64 n] w (ReachPost (reachF s f x n) w) := by
  obtain ⟨r, hr⟩ : ∃ r, r = reachF s f x n := ⟨_, rfl⟩
  rw [← hr]
  have HR := Lib.hid hr
  clear hr
  unfold mv cv
  obtain ⟨⟨x1, x2⟩, ⟨x3, x4⟩, ⟨x5, x6⟩⟩ := hx
  obtain ⟨t, z, o⟩ := x
  simp only at *
  obtain ⟨n1, n2⟩ := hn
  obtain ⟨W, hW⟩ : ∃ W, W = (w.alloc (.cells #[.int .i64 s, .int .i64 f] 45)).alloc (.cells #[.int .i64 t, .int .i64 z, .int .i64 o] 41) := ⟨_, rfl⟩
  have f0 : W.cell? ⟨w.heap.size, 0, none⟩ = some (.int .i64 s) := by rw [hW]; simp
  have f1 : W.cell? ⟨w.heap.size, 1, none⟩ = some (.int .i64 f) := by rw [hW]; simp
  have f2 : W.cell? ⟨w.heap.size + 1, 0, none⟩ = some (.int .i64 t) := by rw [hW]; simp
  have f3 : W.cell? ⟨w.heap.size + 1, 1, none⟩ = some (.int .i64 z) := by rw [hW]; simp
  have f4 : W.cell? ⟨w.heap.size + 1, 2, none⟩ = some (.int .i64 o) := by rw [hW]; simp
  have hbb : Below w.heap.size w W := by rw [hW]; exact ((Below.refl _ _).alloc (Nat.le_refl _) _).alloc (by simp) _
  have HW := Lib.hid hW
  clear hW
  have wzo : IntKind.i64.wrap (z - o) = z - o := IntWalk.i64_in _ (by omega)
  have wzp : IntKind.i64.wrap (z + o) = z + o := IntWalk.i64_in _ (by omega)
  go_enter Try.func70, Try.ntmps70
  by_cases hd : 0 ≤ n - t
  · obtain ⟨p1, p2⟩ := mul_bd (d := n - t) (by omega) hs
    obtain ⟨q1, q2⟩ := mul_bd (d := n - t) (by omega) hf
    have hF : r = (z - o + (n - t) * s / 1000000, z + o + ((n - t) * f + 999999) / 1000000) := by
      rw [HR.out]
      unfold reachF
      rw [if_pos hd]
    have wP0 : IntKind.i64.wrap ((n - t) * s) = (n - t) * s := IntWalk.i64_in _ (by omega)
    have wQ0 : IntKind.i64.wrap ((n - t) * f) = (n - t) * f := IntWalk.i64_in _ (by omega)
    obtain ⟨P, hP⟩ : ∃ P, P = (n - t) * s := ⟨_, rfl⟩
    obtain ⟨Q, hQ⟩ : ∃ Q, Q = (n - t) * f := ⟨_, rfl⟩
    rw [← hP] at p1 p2 hF
    rw [← hQ] at q1 q2 hF
    have wP := wP0.trans hP.symm
    have wQ := wQ0.trans hQ.symm
    have HF := Lib.hid hF
    clear wP0 wQ0 hP hQ hF HR
    have HQ := Lib.hid (fun w => up_any Q ⟨q1, q2⟩ w)
    have wP2 : IntKind.i64.wrap (P.tdiv 1000000) = P / 1000000 := by rw [Int.tdiv_eq_ediv_of_nonneg p1]; exact IntWalk.i64_in _ (by omega)
    have wS : IntKind.i64.wrap (z - o + P / 1000000) = z - o + P / 1000000 := IntWalk.i64_in _ (by omega)
    have wT : IntKind.i64.wrap (z + o + (Q + 999999) / 1000000) = z + o + (Q + 999999) / 1000000 := IntWalk.i64_in _ (by omega)
    have hdd : t ≤ n := by omega
    clear hs hf
    go_wp2_with fail
    rw [← HW.out]
    go_quiet ((go_at_call 89; exact quiet_eq (HQ.out _)))
    go_wp2_with fail
    go_ret2
    rw [HF.out]
    exact ⟨rfl, below_draws hbb _⟩
  · obtain ⟨p1, p2⟩ := mul_bd (d := t - n) (by omega) hf
    obtain ⟨q1, q2⟩ := mul_bd (d := t - n) (by omega) hs
    have hF : r = (z - o - ((t - n) * f + 999999) / 1000000, z + o - (t - n) * s / 1000000) := by
      rw [HR.out]
      unfold reachF
      rw [if_neg hd]
    have wN : IntKind.i64.wrap (-(n - t)) = t - n := by rw [show -(n - t) = t - n by omega]; exact IntWalk.i64_in _ (by omega)
    have wN2 : IntKind.i64.wrap (t - n) = t - n := IntWalk.i64_in _ (by omega)
    have wP0 : IntKind.i64.wrap ((t - n) * f) = (t - n) * f := IntWalk.i64_in _ (by omega)
    have wQ0 : IntKind.i64.wrap ((t - n) * s) = (t - n) * s := IntWalk.i64_in _ (by omega)
    obtain ⟨P, hP⟩ : ∃ P, P = (t - n) * f := ⟨_, rfl⟩
    obtain ⟨Q, hQ⟩ : ∃ Q, Q = (t - n) * s := ⟨_, rfl⟩
    rw [← hP] at p1 p2 hF
    rw [← hQ] at q1 q2 hF
    have wP := wP0.trans hP.symm
    have wQ := wQ0.trans hQ.symm
    have HF := Lib.hid hF
    clear wP0 wQ0 hP hQ hF HR
    have HQ := Lib.hid (fun w => up_any P ⟨p1, p2⟩ w)
    have wP2 : IntKind.i64.wrap (Q.tdiv 1000000) = Q / 1000000 := by rw [Int.tdiv_eq_ediv_of_nonneg q1]; exact IntWalk.i64_in _ (by omega)
    have wS : IntKind.i64.wrap (z - o - (P + 999999) / 1000000) = z - o - (P + 999999) / 1000000 := IntWalk.i64_in _ (by omega)
    have wT : IntKind.i64.wrap (z + o - Q / 1000000) = z + o - Q / 1000000 := IntWalk.i64_in _ (by omega)
    have hdd : ¬ t ≤ n := by omega
    have hd2 : n < t := by omega
    clear hs hf
    go_wp2_with fail
    rw [← HW.out]
    go_quiet ((go_at_call 89; exact quiet_eq (HQ.out _)))
    go_wp2_with fail
    go_ret2
    rw [HF.out]
    exact ⟨rfl, below_draws hbb _⟩
end Go.Proofs.Ythhgcnfkdlblnaa
