/- the walks of both CheckBoard, and of the checks of a command. -/
import Derived.Test.YteikggieekhfkaaCmdMath
import Derived.RegionTactic
import Derived.Deep.QuietTactic
import Derived.BigQuiet
namespace Go.Proofs.Yteikggieekhfkaa
open Go.RowKit

set_option maxRecDepth 100000 in
set_option maxHeartbeats 400000 in
theorem p_within_any (n a b : Int) (w : World) :
    Calls Try.prog 55 #[.int .i64 n, .int .i64 a, .int .i64 b] w fun e w' => e = .returned (.bool (decide (a ≤ n ∧ n ≤ b))) ∧ w = w' := by
  by_cases h1 : a ≤ n
  · by_cases h2 : n ≤ b
    · have hd := Lib.hid (show decide (a ≤ n ∧ n ≤ b) = true by simp [h1, h2])
      go_enter Try.func55, Try.ntmps55
      go_wp2
      go_ret
      exact ⟨ret_bool (by have := hd.out; simp_all), rfl⟩
    · have hd := Lib.hid (show decide (a ≤ n ∧ n ≤ b) = false by simp [h2])
      go_enter Try.func55, Try.ntmps55
      go_wp2
      go_ret
      exact ⟨ret_bool (by have := hd.out; simp_all), rfl⟩
  · have hd := Lib.hid (show decide (a ≤ n ∧ n ≤ b) = false by simp [h1])
    go_enter Try.func55, Try.ntmps55
    go_wp2
    go_ret
    exact ⟨ret_bool (by have := hd.out; simp_all), rfl⟩
set_option maxRecDepth 100000 in
set_option maxHeartbeats 400000 in
theorem p_after_any (n m : Int) (w : World) (h1 : 0 ≤ n) (h2 : n ≤ 255) (h3 : 0 ≤ m) (h4 : m ≤ 255) :
    Calls Try.prog 103 #[.int .i64 n, .int .i64 m] w fun e w' => e = .returned (.int .i64 (aft n m)) ∧ w = w' := by
  go_enter Try.func103, Try.ntmps103
  go_wp2
  go_ret
  exact ⟨rfl, rfl⟩
set_option maxRecDepth 100000 in
set_option maxHeartbeats 400000 in
theorem r_within_any (n a b : Int) (w : World) :
    Calls Try.prog 56 #[.int .i64 n, .int .i64 a, .int .i64 b] w fun e w' => e = .returned (.bool (decide (a ≤ n ∧ n ≤ b))) ∧ w = w' := by
  by_cases h1 : a ≤ n
  · by_cases h2 : n ≤ b
    · have hd := Lib.hid (show decide (a ≤ n ∧ n ≤ b) = true by simp [h1, h2])
      go_enter Try.func56, Try.ntmps56
      go_wp2
      go_ret
      exact ⟨ret_bool (by have := hd.out; simp_all), rfl⟩
    · have hd := Lib.hid (show decide (a ≤ n ∧ n ≤ b) = false by simp [h2])
      go_enter Try.func56, Try.ntmps56
      go_wp2
      go_ret
      exact ⟨ret_bool (by have := hd.out; simp_all), rfl⟩
  · have hd := Lib.hid (show decide (a ≤ n ∧ n ≤ b) = false by simp [h1])
    go_enter Try.func56, Try.ntmps56
    go_wp2
    go_ret
    exact ⟨ret_bool (by have := hd.out; simp_all), rfl⟩
set_option maxRecDepth 100000 in
set_option maxHeartbeats 400000 in
theorem r_after_any (n m : Int) (w : World) (h1 : 0 ≤ n) (h2 : n ≤ 255) (h3 : 0 ≤ m) (h4 : m ≤ 255) :
    Calls Try.prog 92 #[.int .i64 n, .int .i64 m] w fun e w' => e = .returned (.int .i64 (aft n m)) ∧ w = w' := by
  go_enter Try.func92, Try.ntmps92
  go_wp2
  go_ret
  exact ⟨rfl, rfl⟩
set_option maxRecDepth 100000 in
set_option maxHeartbeats 400000 in
theorem p_isNumber_any (n : Int) (w : World) :
    Calls Try.prog 54 #[.int .i64 n] w fun e w' => e = .returned (.bool (decide (0 ≤ n ∧ n ≤ 255))) ∧ w = w' := by
  have HC := Lib.hid (p_within_any n 0 255)
  obtain ⟨d, hd⟩ : ∃ d, decide (0 ≤ n ∧ n ≤ 255) = d := ⟨_, rfl⟩
  rw [hd] at HC ⊢
  clear hd
  go_enter Try.func54, Try.ntmps54
  go_wp2_with (first | (go_at_call 55; refine (HC.out _).mono ?_; rintro e w' ⟨rfl, rfl⟩) | fail)
  go_ret
  exact ⟨rfl, rfl⟩
set_option maxRecDepth 100000 in
set_option maxHeartbeats 400000 in
theorem p_further_any (n m : Int) (w : World) (h1 : 0 ≤ n) (h2 : n ≤ 255) (h3 : 0 ≤ m) (h4 : m ≤ 255) :
    Calls Try.prog 102 #[.int .i64 n, .int .i64 m] w fun e w' => e = .returned (.int .i64 ((n + m) % 256)) ∧ w = w' := by
  go_enter Try.func102, Try.ntmps102
  go_wp2
  go_ret
  exact ⟨rfl, rfl⟩
set_option maxRecDepth 100000 in
set_option maxHeartbeats 1000000 in
theorem p_checkBoard_any (n v : Int) (L R T : Bool) (k : Int) (w : World) :
    Calls Try.prog 17 #[uplV n v L R T k] w fun e w' => e = .returned (.int .i64 (brdS n v k)) ∧ Below w.heap.size w w' := by
  have HE := Lib.hid (show brdS n v k = if 0 ≤ n ∧ n ≤ 255 then (if v.tmod 2 = 0 then (if 2 ≤ v ∧ v ≤ 254 then (if 0 ≤ k ∧ k ≤ 1000000 then 0 else 1) else 1) else 1) else 1 from rfl)
  generalize brdS n v k = X at *
  unfold uplV
  by_cases h1 : 0 ≤ n ∧ n ≤ 255
  · have d1 : decide (0 ≤ n ∧ n ≤ 255) = true := decide_eq_true h1
    by_cases h2 : v.tmod 2 = 0
    · have d2 : (v.tmod 2 != 0) = false := by simpa using h2
      by_cases h3 : 2 ≤ v ∧ v ≤ 254
      · have d3 : decide (2 ≤ v ∧ v ≤ 254) = true := decide_eq_true h3
        by_cases h4 : 0 ≤ k ∧ k ≤ 1000000
        · have d4 : decide (0 ≤ k ∧ k ≤ 1000000) = true := decide_eq_true h4
          have HR : Hid (X = 0) := Lib.hid (by rw [HE.out, if_pos h1, if_pos h2, if_pos h3, if_pos h4])
          clear HE h1 h2 h3 h4
          go_enter Try.func17, Try.ntmps17
          go_wp2_with (first | (go_at_call 55; refine (p_within_any _ _ _ _).mono ?_; rintro e w' ⟨rfl, rfl⟩) | (go_at_call 54; refine (p_isNumber_any _ _).mono ?_; rintro e w' ⟨rfl, rfl⟩) | fail)
          go_ret
          exact ⟨ret_int HR.out.symm, (Below.refl _ _).alloc (Nat.le_refl _) _⟩
        · have d4 : decide (0 ≤ k ∧ k ≤ 1000000) = false := decide_eq_false h4
          have HR : Hid (X = 1) := Lib.hid (by rw [HE.out, if_pos h1, if_pos h2, if_pos h3, if_neg h4])
          clear HE h1 h2 h3 h4
          go_enter Try.func17, Try.ntmps17
          go_wp2_with (first | (go_at_call 55; refine (p_within_any _ _ _ _).mono ?_; rintro e w' ⟨rfl, rfl⟩) | (go_at_call 54; refine (p_isNumber_any _ _).mono ?_; rintro e w' ⟨rfl, rfl⟩) | fail)
          go_ret
          exact ⟨ret_int HR.out.symm, (Below.refl _ _).alloc (Nat.le_refl _) _⟩
      · have d3 : decide (2 ≤ v ∧ v ≤ 254) = false := decide_eq_false h3
        have HR : Hid (X = 1) := Lib.hid (by rw [HE.out, if_pos h1, if_pos h2, if_neg h3])
        clear HE h1 h2 h3
        go_enter Try.func17, Try.ntmps17
        go_wp2_with (first | (go_at_call 55; refine (p_within_any _ _ _ _).mono ?_; rintro e w' ⟨rfl, rfl⟩) | (go_at_call 54; refine (p_isNumber_any _ _).mono ?_; rintro e w' ⟨rfl, rfl⟩) | fail)
        go_ret
        exact ⟨ret_int HR.out.symm, (Below.refl _ _).alloc (Nat.le_refl _) _⟩
    · have d2 : (v.tmod 2 != 0) = true := by simpa using h2
      have HR : Hid (X = 1) := Lib.hid (by rw [HE.out, if_pos h1, if_neg h2])
      clear HE h1 h2
      go_enter Try.func17, Try.ntmps17
      go_wp2_with (first | (go_at_call 55; refine (p_within_any _ _ _ _).mono ?_; rintro e w' ⟨rfl, rfl⟩) | (go_at_call 54; refine (p_isNumber_any _ _).mono ?_; rintro e w' ⟨rfl, rfl⟩) | fail)
      go_ret
      exact ⟨ret_int HR.out.symm, (Below.refl _ _).alloc (Nat.le_refl _) _⟩
  · have d1 : decide (0 ≤ n ∧ n ≤ 255) = false := decide_eq_false h1
    have HR : Hid (X = 1) := Lib.hid (by rw [HE.out, if_neg h1])
    clear HE h1
    go_enter Try.func17, Try.ntmps17
    go_wp2_with (first | (go_at_call 55; refine (p_within_any _ _ _ _).mono ?_; rintro e w' ⟨rfl, rfl⟩) | (go_at_call 54; refine (p_isNumber_any _ _).mono ?_; rintro e w' ⟨rfl, rfl⟩) | fail)
    go_ret
    exact ⟨ret_int HR.out.symm, (Below.refl _ _).alloc (Nat.le_refl _) _⟩
set_option maxRecDepth 100000 in
set_option maxHeartbeats 400000 in
theorem p_hasNumber_any (c : Int) (w : World) :
    Calls Try.prog 84 #[.int .i64 c] w fun e w' => e = .returned (.bool (numK c)) ∧ w = w' := by
  have HE := Lib.hid (show numK c = (decide (c = 1) || decide (c = 4)) from rfl)
  generalize numK c = X at *
  by_cases h1 : c = 1
  · have HR : Hid (X = true) := Lib.hid (by rw [HE.out]; simp [h1])
    have d1 : (c == 1) = true := by simpa using h1
    clear HE h1
    go_enter Try.func84, Try.ntmps84
    go_wp2
    go_ret
    exact ⟨ret_bool (by rw [HR.out]), rfl⟩
  · have d1 : (c == 1) = false := by simpa using h1
    by_cases h2 : c = 4
    · have HR : Hid (X = true) := Lib.hid (by rw [HE.out]; simp [h2])
      have d2 : (c == 4) = true := by simpa using h2
      clear HE h1 h2
      go_enter Try.func84, Try.ntmps84
      go_wp2
      go_ret
      exact ⟨ret_bool (by rw [HR.out]), rfl⟩
    · have HR : Hid (X = false) := Lib.hid (by rw [HE.out]; simp [h1, h2])
      have d2 : (c == 4) = false := by simpa using h2
      clear HE h1 h2
      go_enter Try.func84, Try.ntmps84
      go_wp2
      go_ret
      exact ⟨ret_bool (by rw [HR.out]), rfl⟩
set_option maxRecDepth 100000 in
set_option maxHeartbeats 400000 in
theorem p_hasBody_any (c : Int) (w : World) :
    Calls Try.prog 85 #[.int .i64 c] w fun e w' => e = .returned (.bool (bodK c)) ∧ w = w' := by
  have HE := Lib.hid (show bodK c = (decide (c = 1) || decide (c = 2)) from rfl)
  generalize bodK c = X at *
  by_cases h1 : c = 1
  · have HR : Hid (X = true) := Lib.hid (by rw [HE.out]; simp [h1])
    have d1 : (c == 1) = true := by simpa using h1
    clear HE h1
    go_enter Try.func85, Try.ntmps85
    go_wp2
    go_ret
    exact ⟨ret_bool (by rw [HR.out]), rfl⟩
  · have d1 : (c == 1) = false := by simpa using h1
    by_cases h2 : c = 2
    · have HR : Hid (X = true) := Lib.hid (by rw [HE.out]; simp [h2])
      have d2 : (c == 2) = true := by simpa using h2
      clear HE h1 h2
      go_enter Try.func85, Try.ntmps85
      go_wp2
      go_ret
      exact ⟨ret_bool (by rw [HR.out]), rfl⟩
    · have HR : Hid (X = false) := Lib.hid (by rw [HE.out]; simp [h1, h2])
      have d2 : (c == 2) = false := by simpa using h2
      clear HE h1 h2
      go_enter Try.func85, Try.ntmps85
      go_wp2
      go_ret
      exact ⟨ret_bool (by rw [HR.out]), rfl⟩
set_option maxRecDepth 100000 in
set_option maxHeartbeats 400000 in
theorem p_checkBody_any (A : Option Addr) (n c : Nat) (w : World) :
    Calls Try.prog 69 #[.slice A n c] w fun e w' => e = .returned (.int .i64 (bodS n)) ∧ w = w' := by
  have HE := Lib.hid (show bodS n = if n = 0 then 9 else if 200 < n then 2 else 0 from rfl)
  generalize bodS n = X at *
  by_cases h1 : n = 0
  · have HR : Hid (X = 9) := Lib.hid (by rw [HE.out, if_pos h1])
    have d1 : ((n : Int) == 0) = true := beq_iff_eq.2 (by omega)
    clear HE h1
    go_enter Try.func69, Try.ntmps69
    go_wp2
    go_ret
    exact ⟨ret_int HR.out.symm, rfl⟩
  · have d1 : ((n : Int) == 0) = false := beq_eq_false_iff_ne.2 (by omega)
    by_cases h2 : 200 < n
    · have HR : Hid (X = 2) := Lib.hid (by rw [HE.out, if_neg h1, if_pos h2])
      clear HE h1
      go_enter Try.func69, Try.ntmps69
      go_wp2
      go_ret
      exact ⟨ret_int HR.out.symm, rfl⟩
    · have HR : Hid (X = 0) := Lib.hid (by rw [HE.out, if_neg h1, if_neg h2])
      clear HE h1
      go_enter Try.func69, Try.ntmps69
      go_wp2
      go_ret
      exact ⟨ret_int HR.out.symm, rfl⟩

set_option maxRecDepth 100000 in
set_option maxHeartbeats 1000000 in
theorem r_checkBoard_any (n v : Int) (L R T : Bool) (k : Int) (w : World) :
    Calls Try.prog 18 #[uplV n v L R T k] w fun e w' => e = .returned (.int .i64 (brdS n v k)) ∧ Below w.heap.size w w' := by
  have HE := Lib.hid (show brdS n v k = if 0 ≤ n ∧ n ≤ 255 then (if v.tmod 2 = 0 then (if 2 ≤ v ∧ v ≤ 254 then (if 0 ≤ k ∧ k ≤ 1000000 then 0 else 1) else 1) else 1) else 1 from rfl)
  generalize brdS n v k = X at *
  unfold uplV
  by_cases h1 : 0 ≤ n ∧ n ≤ 255
  · have d1 : decide (0 ≤ n ∧ n ≤ 255) = true := decide_eq_true h1
    by_cases h2 : v.tmod 2 = 0
    · have d2 : (v.tmod 2 != 0) = false := by simpa using h2
      by_cases h3 : 2 ≤ v ∧ v ≤ 254
      · have d3 : decide (2 ≤ v ∧ v ≤ 254) = true := decide_eq_true h3
        by_cases h4 : 0 ≤ k ∧ k ≤ 1000000
        · have d4 : decide (0 ≤ k ∧ k ≤ 1000000) = true := decide_eq_true h4
          have HR : Hid (X = 0) := Lib.hid (by rw [HE.out, if_pos h1, if_pos h2, if_pos h3, if_pos h4])
          clear HE h1 h2 h3 h4
          go_enter Try.func18, Try.ntmps18
          go_wp2_with (first | (go_at_call 56; refine (r_within_any _ _ _ _).mono ?_; rintro e w' ⟨rfl, rfl⟩) | fail)
          go_ret
          exact ⟨ret_int HR.out.symm, (Below.refl _ _).alloc (Nat.le_refl _) _⟩
        · have d4 : decide (0 ≤ k ∧ k ≤ 1000000) = false := decide_eq_false h4
          have HR : Hid (X = 1) := Lib.hid (by rw [HE.out, if_pos h1, if_pos h2, if_pos h3, if_neg h4])
          clear HE h1 h2 h3 h4
          go_enter Try.func18, Try.ntmps18
          go_wp2_with (first | (go_at_call 56; refine (r_within_any _ _ _ _).mono ?_; rintro e w' ⟨rfl, rfl⟩) | fail)
          go_ret
          exact ⟨ret_int HR.out.symm, (Below.refl _ _).alloc (Nat.le_refl _) _⟩
      · have d3 : decide (2 ≤ v ∧ v ≤ 254) = false := decide_eq_false h3
        have HR : Hid (X = 1) := Lib.hid (by rw [HE.out, if_pos h1, if_pos h2, if_neg h3])
        clear HE h1 h2 h3
        go_enter Try.func18, Try.ntmps18
        go_wp2_with (first | (go_at_call 56; refine (r_within_any _ _ _ _).mono ?_; rintro e w' ⟨rfl, rfl⟩) | fail)
        go_ret
        exact ⟨ret_int HR.out.symm, (Below.refl _ _).alloc (Nat.le_refl _) _⟩
    · have d2 : (v.tmod 2 != 0) = true := by simpa using h2
      have HR : Hid (X = 1) := Lib.hid (by rw [HE.out, if_pos h1, if_neg h2])
      clear HE h1 h2
      go_enter Try.func18, Try.ntmps18
      go_wp2_with (first | (go_at_call 56; refine (r_within_any _ _ _ _).mono ?_; rintro e w' ⟨rfl, rfl⟩) | fail)
      go_ret
      exact ⟨ret_int HR.out.symm, (Below.refl _ _).alloc (Nat.le_refl _) _⟩
  · have d1 : decide (0 ≤ n ∧ n ≤ 255) = false := decide_eq_false h1
    have HR : Hid (X = 1) := Lib.hid (by rw [HE.out, if_neg h1])
    clear HE h1
    go_enter Try.func18, Try.ntmps18
    go_wp2_with (first | (go_at_call 56; refine (r_within_any _ _ _ _).mono ?_; rintro e w' ⟨rfl, rfl⟩) | fail)
    go_ret
    exact ⟨ret_int HR.out.symm, (Below.refl _ _).alloc (Nat.le_refl _) _⟩
set_option maxRecDepth 100000 in
set_option maxHeartbeats 400000 in
theorem r_hasNumber_any (c : Int) (w : World) :
    Calls Try.prog 87 #[.int .i64 c] w fun e w' => e = .returned (.bool (numK c)) ∧ w = w' := by
  have HE := Lib.hid (show numK c = (decide (c = 1) || decide (c = 4)) from rfl)
  generalize numK c = X at *
  by_cases h1 : c = 1
  · have HR : Hid (X = true) := Lib.hid (by rw [HE.out]; simp [h1])
    have d1 : (c == 1) = true := by simpa using h1
    clear HE h1
    go_enter Try.func87, Try.ntmps87
    go_wp2
    go_ret
    exact ⟨ret_bool (by rw [HR.out]), rfl⟩
  · have d1 : (c == 1) = false := by simpa using h1
    by_cases h2 : c = 4
    · have HR : Hid (X = true) := Lib.hid (by rw [HE.out]; simp [h2])
      have d2 : (c == 4) = true := by simpa using h2
      clear HE h1 h2
      go_enter Try.func87, Try.ntmps87
      go_wp2
      go_ret
      exact ⟨ret_bool (by rw [HR.out]), rfl⟩
    · have HR : Hid (X = false) := Lib.hid (by rw [HE.out]; simp [h1, h2])
      have d2 : (c == 4) = false := by simpa using h2
      clear HE h1 h2
      go_enter Try.func87, Try.ntmps87
      go_wp2
      go_ret
      exact ⟨ret_bool (by rw [HR.out]), rfl⟩
set_option maxRecDepth 100000 in
set_option maxHeartbeats 400000 in
theorem r_hasBody_any (c : Int) (w : World) :
    Calls Try.prog 88 #[.int .i64 c] w fun e w' => e = .returned (.bool (bodK c)) ∧ w = w' := by
  have HE := Lib.hid (show bodK c = (decide (c = 1) || decide (c = 2)) from rfl)
  generalize bodK c = X at *
  by_cases h1 : c = 1
  · have HR : Hid (X = true) := Lib.hid (by rw [HE.out]; simp [h1])
    have d1 : (c == 1) = true := by simpa using h1
    clear HE h1
    go_enter Try.func88, Try.ntmps88
    go_wp2
    go_ret
    exact ⟨ret_bool (by rw [HR.out]), rfl⟩
  · have d1 : (c == 1) = false := by simpa using h1
    by_cases h2 : c = 2
    · have HR : Hid (X = true) := Lib.hid (by rw [HE.out]; simp [h2])
      have d2 : (c == 2) = true := by simpa using h2
      clear HE h1 h2
      go_enter Try.func88, Try.ntmps88
      go_wp2
      go_ret
      exact ⟨ret_bool (by rw [HR.out]), rfl⟩
    · have HR : Hid (X = false) := Lib.hid (by rw [HE.out]; simp [h1, h2])
      have d2 : (c == 2) = false := by simpa using h2
      clear HE h1 h2
      go_enter Try.func88, Try.ntmps88
      go_wp2
      go_ret
      exact ⟨ret_bool (by rw [HR.out]), rfl⟩
set_option maxRecDepth 100000 in
set_option maxHeartbeats 400000 in
theorem r_checkBody_any (A : Option Addr) (n c : Nat) (w : World) :
    Calls Try.prog 72 #[.slice A n c] w fun e w' => e = .returned (.int .i64 (bodS n)) ∧ w = w' := by
  have HE := Lib.hid (show bodS n = if n = 0 then 9 else if 200 < n then 2 else 0 from rfl)
  generalize bodS n = X at *
  by_cases h1 : n = 0
  · have HR : Hid (X = 9) := Lib.hid (by rw [HE.out, if_pos h1])
    have d1 : ((n : Int) == 0) = true := beq_iff_eq.2 (by omega)
    clear HE h1
    go_enter Try.func72, Try.ntmps72
    go_wp2
    go_ret
    exact ⟨ret_int HR.out.symm, rfl⟩
  · have d1 : ((n : Int) == 0) = false := beq_eq_false_iff_ne.2 (by omega)
    by_cases h2 : 200 < n
    · have HR : Hid (X = 2) := Lib.hid (by rw [HE.out, if_neg h1, if_pos h2])
      clear HE h1
      go_enter Try.func72, Try.ntmps72
      go_wp2
      go_ret
      exact ⟨ret_int HR.out.symm, rfl⟩
    · have HR : Hid (X = 0) := Lib.hid (by rw [HE.out, if_neg h1, if_neg h2])
      clear HE h1
      go_enter Try.func72, Try.ntmps72
      go_wp2
      go_ret
      exact ⟨ret_int HR.out.symm, rfl⟩

/-- a command as a value -/
def ordV (c m : Int) (A : Option Addr) (n k : Nat) : Value := .agg #[.int .i64 c, .int .i64 m, .slice A n k]
set_option maxRecDepth 100000 in
set_option maxHeartbeats 1000000 in
theorem p_checkOrder_any (c m : Int) (A : Option Addr) (n k : Nat) (w : World) :
    Calls Try.prog 50 #[ordV c m A n k] w fun e w' => e = .returned (.int .i64 (ordS c m n)) ∧ Below w.heap.size w w' := by
  have HE := Lib.hid (show ordS c m n = if 1 ≤ c ∧ c ≤ 5 then (if 0 ≤ m ∧ m ≤ 255 then (if m ≠ 0 ∧ numK c = false then 1 else if bodK c = true then bodS n else if 0 < n then 3 else 0) else 1) else 4 from rfl)
  have HB := Lib.hid (p_checkBody_any A n k)
  have HH := Lib.hid (p_hasBody_any c)
  have HN := Lib.hid (p_hasNumber_any c)
  generalize ordS c m n = X at *
  generalize bodS n = Y at *
  generalize bodK c = D at *
  generalize numK c = E at *
  unfold ordV
  by_cases h1 : 1 ≤ c ∧ c ≤ 5
  · have d1 : decide (1 ≤ c ∧ c ≤ 5) = true := decide_eq_true h1
    by_cases h2 : 0 ≤ m ∧ m ≤ 255
    · have d2 : decide (0 ≤ m ∧ m ≤ 255) = true := decide_eq_true h2
      have HE2 : Hid (X = if m ≠ 0 ∧ E = false then 1 else if D = true then Y else if 0 < n then 3 else 0) := Lib.hid (by rw [HE.out, if_pos h1, if_pos h2])
      clear HE h1 h2
      by_cases h3 : m = 0
      · have HR : Hid (X = if D = true then Y else if 0 < n then 3 else 0) := Lib.hid (by rw [HE2.out, if_neg (by simp [h3])])
        have d3 : (m != 0) = false := by simpa using h3
        clear HE2 h3
        by_cases h5 : 0 < n <;> cases D <;>
        ( go_enter Try.func50, Try.ntmps50
          go_wp2_with (first | (go_at_call 55; refine (p_within_any _ _ _ _).mono ?_; rintro e w' ⟨rfl, rfl⟩) | (go_at_call 54; refine (p_isNumber_any _ _).mono ?_; rintro e w' ⟨rfl, rfl⟩) | (go_at_call 84; refine (HN.out _).mono ?_; rintro e w' ⟨rfl, rfl⟩) | (go_at_call 85; refine (HH.out _).mono ?_; rintro e w' ⟨rfl, rfl⟩) | (go_at_call 69; refine (HB.out _).mono ?_; rintro e w' ⟨rfl, rfl⟩) | fail)
          go_ret
          exact ⟨ret_int (by rw [HR.out]; simp [h5]), (Below.refl _ _).alloc (Nat.le_refl _) _⟩)
      · have d3 : (m != 0) = true := by simpa using h3
        cases E
        · have HR : Hid (X = 1) := Lib.hid (by rw [HE2.out, if_pos ⟨h3, rfl⟩])
          clear HE2 h3
          go_enter Try.func50, Try.ntmps50
          go_wp2_with (first | (go_at_call 55; refine (p_within_any _ _ _ _).mono ?_; rintro e w' ⟨rfl, rfl⟩) | (go_at_call 54; refine (p_isNumber_any _ _).mono ?_; rintro e w' ⟨rfl, rfl⟩) | (go_at_call 84; refine (HN.out _).mono ?_; rintro e w' ⟨rfl, rfl⟩) | fail)
          go_ret
          exact ⟨ret_int HR.out.symm, (Below.refl _ _).alloc (Nat.le_refl _) _⟩
        · have HR : Hid (X = if D = true then Y else if 0 < n then 3 else 0) := Lib.hid (by rw [HE2.out, if_neg (by simp)])
          clear HE2 h3
          by_cases h5 : 0 < n <;> cases D <;>
          ( go_enter Try.func50, Try.ntmps50
            go_wp2_with (first | (go_at_call 55; refine (p_within_any _ _ _ _).mono ?_; rintro e w' ⟨rfl, rfl⟩) | (go_at_call 54; refine (p_isNumber_any _ _).mono ?_; rintro e w' ⟨rfl, rfl⟩) | (go_at_call 84; refine (HN.out _).mono ?_; rintro e w' ⟨rfl, rfl⟩) | (go_at_call 85; refine (HH.out _).mono ?_; rintro e w' ⟨rfl, rfl⟩) | (go_at_call 69; refine (HB.out _).mono ?_; rintro e w' ⟨rfl, rfl⟩) | fail)
            go_ret
            exact ⟨ret_int (by rw [HR.out]; simp [h5]), (Below.refl _ _).alloc (Nat.le_refl _) _⟩)
    · have d2 : decide (0 ≤ m ∧ m ≤ 255) = false := decide_eq_false h2
      have HR : Hid (X = 1) := Lib.hid (by rw [HE.out, if_pos h1, if_neg h2])
      clear HE h1 h2
      go_enter Try.func50, Try.ntmps50
      go_wp2_with (first | (go_at_call 55; refine (p_within_any _ _ _ _).mono ?_; rintro e w' ⟨rfl, rfl⟩) | (go_at_call 54; refine (p_isNumber_any _ _).mono ?_; rintro e w' ⟨rfl, rfl⟩) | fail)
      go_ret
      exact ⟨ret_int HR.out.symm, (Below.refl _ _).alloc (Nat.le_refl _) _⟩
  · have d1 : decide (1 ≤ c ∧ c ≤ 5) = false := decide_eq_false h1
    have HR : Hid (X = 4) := Lib.hid (by rw [HE.out, if_neg h1])
    clear HE h1
    go_enter Try.func50, Try.ntmps50
    go_wp2_with (first | (go_at_call 55; refine (p_within_any _ _ _ _).mono ?_; rintro e w' ⟨rfl, rfl⟩) | fail)
    go_ret
    exact ⟨ret_int HR.out.symm, (Below.refl _ _).alloc (Nat.le_refl _) _⟩
set_option maxRecDepth 100000 in
set_option maxHeartbeats 1000000 in
theorem r_checkOrder_any (c m : Int) (A : Option Addr) (n k : Nat) (w : World) :
    Calls Try.prog 52 #[ordV c m A n k] w fun e w' => e = .returned (.int .i64 (ordS c m n)) ∧ Below w.heap.size w w' := by
  have HE := Lib.hid (show ordS c m n = if 1 ≤ c ∧ c ≤ 5 then (if 0 ≤ m ∧ m ≤ 255 then (if m ≠ 0 ∧ numK c = false then 1 else if bodK c = true then bodS n else if 0 < n then 3 else 0) else 1) else 4 from rfl)
  have HB := Lib.hid (r_checkBody_any A n k)
  have HH := Lib.hid (r_hasBody_any c)
  have HN := Lib.hid (r_hasNumber_any c)
  generalize ordS c m n = X at *
  generalize bodS n = Y at *
  generalize bodK c = D at *
  generalize numK c = E at *
  unfold ordV
  by_cases h1 : 1 ≤ c ∧ c ≤ 5
  · have d1 : decide (1 ≤ c ∧ c ≤ 5) = true := decide_eq_true h1
    by_cases h2 : 0 ≤ m ∧ m ≤ 255
    · have d2 : decide (0 ≤ m ∧ m ≤ 255) = true := decide_eq_true h2
      have HE2 : Hid (X = if m ≠ 0 ∧ E = false then 1 else if D = true then Y else if 0 < n then 3 else 0) := Lib.hid (by rw [HE.out, if_pos h1, if_pos h2])
      clear HE h1 h2
      by_cases h3 : m = 0
      · have HR : Hid (X = if D = true then Y else if 0 < n then 3 else 0) := Lib.hid (by rw [HE2.out, if_neg (by simp [h3])])
        have d3 : (m != 0) = false := by simpa using h3
        clear HE2 h3
        by_cases h5 : 0 < n <;> cases D <;>
        ( go_enter Try.func52, Try.ntmps52
          go_wp2_with (first | (go_at_call 56; refine (r_within_any _ _ _ _).mono ?_; rintro e w' ⟨rfl, rfl⟩) | (go_at_call 87; refine (HN.out _).mono ?_; rintro e w' ⟨rfl, rfl⟩) | (go_at_call 88; refine (HH.out _).mono ?_; rintro e w' ⟨rfl, rfl⟩) | (go_at_call 72; refine (HB.out _).mono ?_; rintro e w' ⟨rfl, rfl⟩) | fail)
          go_ret
          exact ⟨ret_int (by rw [HR.out]; simp [h5]), (Below.refl _ _).alloc (Nat.le_refl _) _⟩)
      · have d3 : (m != 0) = true := by simpa using h3
        cases E
        · have HR : Hid (X = 1) := Lib.hid (by rw [HE2.out, if_pos ⟨h3, rfl⟩])
          clear HE2 h3
          go_enter Try.func52, Try.ntmps52
          go_wp2_with (first | (go_at_call 56; refine (r_within_any _ _ _ _).mono ?_; rintro e w' ⟨rfl, rfl⟩) | (go_at_call 87; refine (HN.out _).mono ?_; rintro e w' ⟨rfl, rfl⟩) | fail)
          go_ret
          exact ⟨ret_int HR.out.symm, (Below.refl _ _).alloc (Nat.le_refl _) _⟩
        · have HR : Hid (X = if D = true then Y else if 0 < n then 3 else 0) := Lib.hid (by rw [HE2.out, if_neg (by simp)])
          clear HE2 h3
          by_cases h5 : 0 < n <;> cases D <;>
          ( go_enter Try.func52, Try.ntmps52
            go_wp2_with (first | (go_at_call 56; refine (r_within_any _ _ _ _).mono ?_; rintro e w' ⟨rfl, rfl⟩) | (go_at_call 87; refine (HN.out _).mono ?_; rintro e w' ⟨rfl, rfl⟩) | (go_at_call 88; refine (HH.out _).mono ?_; rintro e w' ⟨rfl, rfl⟩) | (go_at_call 72; refine (HB.out _).mono ?_; rintro e w' ⟨rfl, rfl⟩) | fail)
            go_ret
            exact ⟨ret_int (by rw [HR.out]; simp [h5]), (Below.refl _ _).alloc (Nat.le_refl _) _⟩)
    · have d2 : decide (0 ≤ m ∧ m ≤ 255) = false := decide_eq_false h2
      have HR : Hid (X = 1) := Lib.hid (by rw [HE.out, if_pos h1, if_neg h2])
      clear HE h1 h2
      go_enter Try.func52, Try.ntmps52
      go_wp2_with (first | (go_at_call 56; refine (r_within_any _ _ _ _).mono ?_; rintro e w' ⟨rfl, rfl⟩) | fail)
      go_ret
      exact ⟨ret_int HR.out.symm, (Below.refl _ _).alloc (Nat.le_refl _) _⟩
  · have d1 : decide (1 ≤ c ∧ c ≤ 5) = false := decide_eq_false h1
    have HR : Hid (X = 4) := Lib.hid (by rw [HE.out, if_neg h1])
    clear HE h1
    go_enter Try.func52, Try.ntmps52
    go_wp2_with (first | (go_at_call 56; refine (r_within_any _ _ _ _).mono ?_; rintro e w' ⟨rfl, rfl⟩) | fail)
    go_ret
    exact ⟨ret_int HR.out.symm, (Below.refl _ _).alloc (Nat.le_refl _) _⟩
end Go.Proofs.Yteikggieekhfkaa
