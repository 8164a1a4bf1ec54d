/- the walks of both takes of a command by a board. -/
import Derived.Test.YteikggieekhfkaaBoard
namespace Go.Proofs.Yteikggieekhfkaa
open Go.RowKit

theorem setCell_draws (w : World) (n : Nat) (a : Addr) (v : Value) : (w.drewN n).setCell a v = (w.setCell a v).drewN n := rfl
theorem alloc_draws (w : World) (n : Nat) (o : Obj) : (w.drewN n).alloc o = (w.alloc o).drewN n := rfl
attribute [local go_sem] setCell_draws alloc_draws
theorem aft_zero {n m : Int} (h1 : 0 ≤ n ∧ n ≤ 255) (h2 : 0 ≤ m ∧ m ≤ 255) : aft n m = 0 ↔ n = m := by unfold aft; omega
theorem aft_bd {n m : Int} : 0 ≤ aft n m ∧ aft n m ≤ 255 := by unfold aft; omega
theorem two_new (w : World) (a b : Obj) : Below w.heap.size w ((w.alloc a).alloc b) := ((Below.refl _ _).alloc (Nat.le_refl _) _).alloc (by simp) _
theorem three_new (w : World) (a b c : Obj) : Below w.heap.size w (((w.alloc a).alloc b).alloc c) := (two_new w a b).alloc (by simp; omega) _
theorem two_newD (w : World) (a b : Obj) (n : Nat) : Below w.heap.size w (((w.alloc a).alloc b).drewN n) := below_draws (two_new w a b) n
theorem three_newD (w : World) (a b c : Obj) (n : Nat) : Below w.heap.size w ((((w.alloc a).alloc b).alloc c).drewN n) := below_draws (three_new w a b c) n

set_option maxRecDepth 100000 in
set_option maxHeartbeats 1000000 in
theorem p_plain_any (n v : Int) (L R T : Bool) (k m : Int) (w : World) (hb : BrdOk n v k) (hm0 : 0 ≤ m) (hm1 : m ≤ 255) :
    Calls Try.prog 86 #[uplV n v L R T k, .int .i64 m] w fun e w' => e = .returned (.tuple #[(plainS ⟨n, v, L, R, T, k⟩ m).1.val, .int .i64 (plainS ⟨n, v, L, R, T, k⟩ m).2]) ∧ Below w.heap.size w w' := by
  obtain ⟨n0, n1, v0, v1, -, k0, k1⟩ := hb
  have HE := Lib.hid (show plainS ⟨n, v, L, R, T, k⟩ m = if L = true then (⟨n, v, L, R, T, k⟩, 5)
    else if m = n then (if T = true then (⟨n, v, L, true, T, k⟩, 6) else (⟨(n + 1) % 256, v, L, false, T, k + 1⟩, 1))
    else if aft m n < v / 2 then (⟨n, v, L, true, T, k⟩, 2)
    else if aft n m ≤ v / 2 then (⟨n, v, L, R, T, k⟩, 3)
    else (⟨n, v, true, R, T, k⟩, 4) from rfl)
  generalize plainS ⟨n, v, L, R, T, k⟩ m = X at *
  have HA := Lib.hid (fun w => p_after_any m n w hm0 hm1 n0 n1)
  have HB := Lib.hid (fun w => p_after_any n m w n0 n1 hm0 hm1)
  have HF := Lib.hid (fun w => p_further_any n 1 w n0 n1 (by omega) (by omega))
  obtain ⟨a0, a1⟩ := @aft_bd m n
  obtain ⟨b0, b1⟩ := @aft_bd n m
  generalize aft m n = a at *
  generalize aft n m = b at *
  unfold uplV
  cases L
  · by_cases h1 : m = n
    · have d1 : (m == n) = true := by simpa using h1
      cases T
      · have HR : Hid (X = (⟨(n + 1) % 256, v, false, false, false, k + 1⟩, 1)) := Lib.hid (by rw [HE.out, if_neg (by simp), if_pos h1, if_neg (by simp)])
        clear HE h1
        go_enter Try.func86, Try.ntmps86
        go_wp2_with (first | (go_at_call 102; refine (HF.out _).mono ?_; rintro e w' ⟨rfl, rfl⟩) | fail)
        refine bodyPost_ret (v := .tuple #[uplV ((n + 1) % 256) v false false false (k + 1), .int .i64 1]) (by simp [results, Try.results86, go_sem, uplV]) rfl ⟨by rw [HR.out]; rfl, ?_⟩
        exact two_new _ _ _
      · have HR : Hid (X = (⟨n, v, false, true, true, k⟩, 6)) := Lib.hid (by rw [HE.out, if_neg (by simp), if_pos h1, if_pos rfl])
        clear HE h1
        go_enter Try.func86, Try.ntmps86
        go_wp2_with fail
        refine bodyPost_ret (v := .tuple #[uplV n v false true true k, .int .i64 6]) (by simp [results, Try.results86, go_sem, uplV]) rfl ⟨by rw [HR.out]; rfl, ?_⟩
        exact two_new _ _ _
    · have d1 : (m == n) = false := by simpa using h1
      by_cases h2 : a < v / 2
      · have HR : Hid (X = (⟨n, v, false, true, T, k⟩, 2)) := Lib.hid (by rw [HE.out, if_neg (by simp), if_neg h1, if_pos h2])
        clear HE h1
        go_enter Try.func86, Try.ntmps86
        go_wp2_with (first | (go_at_call 103; refine (HA.out _).mono ?_; rintro e w' ⟨rfl, rfl⟩) | fail)
        refine bodyPost_ret (v := .tuple #[uplV n v false true T k, .int .i64 2]) (by simp [results, Try.results86, go_sem, uplV]) rfl ⟨by rw [HR.out]; rfl, ?_⟩
        exact two_new _ _ _
      · by_cases h3 : b ≤ v / 2
        · have HR : Hid (X = (⟨n, v, false, R, T, k⟩, 3)) := Lib.hid (by rw [HE.out, if_neg (by simp), if_neg h1, if_neg h2, if_pos h3])
          clear HE h1
          go_enter Try.func86, Try.ntmps86
          go_wp2_with (first | (go_at_call 103; with_reducible refine (HA.out _).mono ?_; rintro e w' ⟨rfl, rfl⟩) | (go_at_call 103; with_reducible refine (HB.out _).mono ?_; rintro e w' ⟨rfl, rfl⟩) | fail)
          refine bodyPost_ret (v := .tuple #[uplV n v false R T k, .int .i64 3]) (by simp [results, Try.results86, go_sem, uplV]) rfl ⟨by rw [HR.out]; rfl, ?_⟩
          exact two_new _ _ _
        · have HR : Hid (X = (⟨n, v, true, R, T, k⟩, 4)) := Lib.hid (by rw [HE.out, if_neg (by simp), if_neg h1, if_neg h2, if_neg h3])
          clear HE h1
          go_enter Try.func86, Try.ntmps86
          go_wp2_with (first | (go_at_call 103; with_reducible refine (HA.out _).mono ?_; rintro e w' ⟨rfl, rfl⟩) | (go_at_call 103; with_reducible refine (HB.out _).mono ?_; rintro e w' ⟨rfl, rfl⟩) | fail)
          refine bodyPost_ret (v := .tuple #[uplV n v true R T k, .int .i64 4]) (by simp [results, Try.results86, go_sem, uplV]) rfl ⟨by rw [HR.out]; rfl, ?_⟩
          exact two_new _ _ _
  · have HR : Hid (X = (⟨n, v, true, R, T, k⟩, 5)) := Lib.hid (by rw [HE.out, if_pos rfl])
    clear HE
    go_enter Try.func86, Try.ntmps86
    go_wp2_with fail
    refine bodyPost_ret (v := .tuple #[uplV n v true R T k, .int .i64 5]) (by simp [results, Try.results86, go_sem, uplV]) rfl ⟨by rw [HR.out]; rfl, ?_⟩
    exact two_new _ _ _
set_option maxRecDepth 100000 in
set_option maxHeartbeats 1000000 in
theorem r_plain_any (n v : Int) (L R T : Bool) (k c m : Int) (A : Option Addr) (z z' : Nat) (w : World) (hb : BrdOk n v k) (hm0 : 0 ≤ m) (hm1 : m ≤ 255) :
    Calls Try.prog 89 #[uplV n v L R T k, ordV c m A z z'] w fun e w' => e = .returned (.tuple #[(plainS ⟨n, v, L, R, T, k⟩ m).1.val, .int .i64 (plainS ⟨n, v, L, R, T, k⟩ m).2]) ∧ Below w.heap.size w w' := by
  obtain ⟨n0, n1, v0, v1, -, k0, k1⟩ := hb
  have HE := Lib.hid (show plainS ⟨n, v, L, R, T, k⟩ m = if L = true then (⟨n, v, L, R, T, k⟩, 5)
    else if m = n then (if T = true then (⟨n, v, L, true, T, k⟩, 6) else (⟨(n + 1) % 256, v, L, false, T, k + 1⟩, 1))
    else if aft m n < v / 2 then (⟨n, v, L, true, T, k⟩, 2)
    else if aft n m ≤ v / 2 then (⟨n, v, L, R, T, k⟩, 3)
    else (⟨n, v, true, R, T, k⟩, 4) from rfl)
  generalize plainS ⟨n, v, L, R, T, k⟩ m = X at *
  have HA := Lib.hid (fun w => r_after_any m n w hm0 hm1 n0 n1)
  have HB := Lib.hid (fun w => r_after_any n m w n0 n1 hm0 hm1)
  obtain ⟨a0, a1⟩ := @aft_bd m n
  obtain ⟨b0, b1⟩ := @aft_bd n m
  have hz := @aft_zero m n ⟨hm0, hm1⟩ ⟨n0, n1⟩
  generalize aft m n = a at *
  generalize aft n m = b at *
  unfold uplV ordV
  cases L
  · by_cases h1 : m = n
    · have d1 : (a == 0) = true := by simpa using hz.2 h1
      have HZ := Lib.hid hz
      cases T
      · have HR : Hid (X = (⟨(n + 1) % 256, v, false, false, false, k + 1⟩, 1)) := Lib.hid (by rw [HE.out, if_neg (by simp), if_pos h1, if_neg (by simp)])
        clear HE h1 hz
        go_enter Try.func89, Try.ntmps89
        go_wp2_with (first | (go_at_call 92; with_reducible refine (HA.out _).mono ?_; rintro e w' ⟨rfl, rfl⟩) | fail)
        refine bodyPost_ret (v := .tuple #[uplV ((n + 1) % 256) v false false false (k + 1), .int .i64 1]) (by simp [results, Try.results89, go_sem, uplV]) rfl ⟨by rw [HR.out]; rfl, ?_⟩
        exact three_new _ _ _ _
      · have HR : Hid (X = (⟨n, v, false, true, true, k⟩, 6)) := Lib.hid (by rw [HE.out, if_neg (by simp), if_pos h1, if_pos rfl])
        clear HE h1 hz
        go_enter Try.func89, Try.ntmps89
        go_wp2_with (first | (go_at_call 92; with_reducible refine (HA.out _).mono ?_; rintro e w' ⟨rfl, rfl⟩) | fail)
        refine bodyPost_ret (v := .tuple #[uplV n v false true true k, .int .i64 6]) (by simp [results, Try.results89, go_sem, uplV]) rfl ⟨by rw [HR.out]; rfl, ?_⟩
        exact three_new _ _ _ _
    · have d1 : (a == 0) = false := by simpa using fun e => h1 (hz.1 e)
      clear hz
      by_cases h2 : a < v / 2
      · have HR : Hid (X = (⟨n, v, false, true, T, k⟩, 2)) := Lib.hid (by rw [HE.out, if_neg (by simp), if_neg h1, if_pos h2])
        clear HE h1
        go_enter Try.func89, Try.ntmps89
        go_wp2_with (first | (go_at_call 92; with_reducible refine (HA.out _).mono ?_; rintro e w' ⟨rfl, rfl⟩) | fail)
        refine bodyPost_ret (v := .tuple #[uplV n v false true T k, .int .i64 2]) (by simp [results, Try.results89, go_sem, uplV]) rfl ⟨by rw [HR.out]; rfl, ?_⟩
        exact three_new _ _ _ _
      · by_cases h3 : b ≤ v / 2
        · have HR : Hid (X = (⟨n, v, false, R, T, k⟩, 3)) := Lib.hid (by rw [HE.out, if_neg (by simp), if_neg h1, if_neg h2, if_pos h3])
          have d3 : decide (b ≤ v / 2) = true := decide_eq_true h3
          clear HE h1
          go_enter Try.func89, Try.ntmps89
          go_wp2_with (first | (go_at_call 92; with_reducible refine (HA.out _).mono ?_; rintro e w' ⟨rfl, rfl⟩) | fail)
          go_quiet ((go_at_call 92; exact Calls.quiet_of_same ((HB.out _).mono fun e w' h => ⟨h.1, h.2.symm⟩)))
          all_goals
            go_wp2_with fail
            refine bodyPost_ret (v := .tuple #[uplV n v false R T k, .int .i64 3]) (by simp [results, Try.results89, go_sem, uplV]) rfl ⟨by rw [HR.out]; rfl, ?_⟩
            exact three_newD _ _ _ _ _
        · have HR : Hid (X = (⟨n, v, true, R, T, k⟩, 4)) := Lib.hid (by rw [HE.out, if_neg (by simp), if_neg h1, if_neg h2, if_neg h3])
          have d3 : decide (b ≤ v / 2) = false := decide_eq_false h3
          clear HE h1
          go_enter Try.func89, Try.ntmps89
          go_wp2_with (first | (go_at_call 92; with_reducible refine (HA.out _).mono ?_; rintro e w' ⟨rfl, rfl⟩) | fail)
          go_quiet ((go_at_call 92; exact Calls.quiet_of_same ((HB.out _).mono fun e w' h => ⟨h.1, h.2.symm⟩)))
          all_goals
            go_wp2_with fail
            refine bodyPost_ret (v := .tuple #[uplV n v true R T k, .int .i64 4]) (by simp [results, Try.results89, go_sem, uplV]) rfl ⟨by rw [HR.out]; rfl, ?_⟩
            exact three_newD _ _ _ _ _
  · have HR : Hid (X = (⟨n, v, true, R, T, k⟩, 5)) := Lib.hid (by rw [HE.out, if_pos rfl])
    clear HE hz
    go_enter Try.func89, Try.ntmps89
    go_wp2_with (first | (go_at_call 92; with_reducible refine (HA.out _).mono ?_; rintro e w' ⟨rfl, rfl⟩) | fail)
    refine bodyPost_ret (v := .tuple #[uplV n v true R T k, .int .i64 5]) (by simp [results, Try.results89, go_sem, uplV]) rfl ⟨by rw [HR.out]; rfl, ?_⟩
    exact three_new _ _ _ _
end Go.Proofs.Yteikggieekhfkaa
