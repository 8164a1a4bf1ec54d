/- the walks of the program's Coded, Kind and Decoded. -/
import Derived.Test.YtidddoldkedicaaCoded
namespace Go.Proofs.Ytidddoldkedicaa
open Go.RowKit

set_option maxRecDepth 100000 in
set_option maxHeartbeats 400000 in
theorem within_any (n a b : Int) (w : World) :
    Calls Try.prog 49 #[.int .i64 n, .int .i64 a, .int .i64 b] w fun e w' => e = .returned (.bool (decide (a ≤ n ∧ n ≤ b))) ∧ w = w' := by
  by_cases h1 : a ≤ n
  · by_cases h2 : n ≤ b
    · have hd := Lib.hid (show decide (a ≤ n ∧ n ≤ b) = true by simp [h1, h2])
      go_enter Try.func49, Try.ntmps49
      go_wp2
      go_ret
      exact ⟨ret_bool (by have := hd.out; simp_all), rfl⟩
    · have hd := Lib.hid (show decide (a ≤ n ∧ n ≤ b) = false by simp [h2])
      go_enter Try.func49, Try.ntmps49
      go_wp2
      go_ret
      exact ⟨ret_bool (by have := hd.out; simp_all), rfl⟩
  · have hd := Lib.hid (show decide (a ≤ n ∧ n ≤ b) = false by simp [h1])
    go_enter Try.func49, Try.ntmps49
    go_wp2
    go_ret
    exact ⟨ret_bool (by have := hd.out; simp_all), rfl⟩
set_option maxRecDepth 100000 in
set_option maxHeartbeats 400000 in
theorem rwithin_any (n a b : Int) (w : World) :
    Calls Try.prog 51 #[.int .i64 n, .int .i64 a, .int .i64 b] w fun e w' => e = .returned (.bool (decide (a ≤ n ∧ n ≤ b))) ∧ w = w' := by
  by_cases h1 : a ≤ n
  · by_cases h2 : n ≤ b
    · have hd := Lib.hid (show decide (a ≤ n ∧ n ≤ b) = true by simp [h1, h2])
      go_enter Try.func51, Try.ntmps51
      go_wp2
      go_ret
      exact ⟨ret_bool (by have := hd.out; simp_all), rfl⟩
    · have hd := Lib.hid (show decide (a ≤ n ∧ n ≤ b) = false by simp [h2])
      go_enter Try.func51, Try.ntmps51
      go_wp2
      go_ret
      exact ⟨ret_bool (by have := hd.out; simp_all), rfl⟩
  · have hd := Lib.hid (show decide (a ≤ n ∧ n ≤ b) = false by simp [h1])
    go_enter Try.func51, Try.ntmps51
    go_wp2
    go_ret
    exact ⟨ret_bool (by have := hd.out; simp_all), rfl⟩

/-- the numbers of faults -/
def decN (c : Nat) : Nat × Nat × Nat := if (kindN c).1 = 3 then (0, 0, 15) else if (kindN c).1 = 2 then (gather (c ^^^ 2 ^ ((kindN c).2 - 1)), 1, 0) else (gather c, 0, 0)
theorem kind_bit (c : Nat) (h : (kindN c).1 = 2) : 1 ≤ (kindN c).2 ∧ (kindN c).2 ≤ 22 := by
  have hm := mark_lt c 21 (by omega)
  unfold kindN at *
  generalize markTo c 21 = m at *
  by_cases h1 : oddTo c 22 = true
  · simp only [h1, if_true] at *
    by_cases h2 : m = 0
    · simp [h2]
    · by_cases h3 : m < 22
      · simp [h2, h3]; omega
      · simp [h2, h3] at h
  · simp only [h1] at *
    by_cases h2 : m = 0
    · simp [h2] at h
    · simp [h2] at h
theorem kind_three (c : Nat) : (kindN c).1 = 1 ∨ (kindN c).1 = 2 ∨ (kindN c).1 = 3 := by
  unfold kindN
  split
  · split
    · simp
    · split <;> simp
  · split <;> simp
def codS (z : Int) : Int × Int := if 0 ≤ z ∧ z ≤ 65535 then ((codeN z.toNat : Nat), 0) else (0, 1)
def kindS (z : Int) : Int × Int × Int := if 0 ≤ z ∧ z ≤ 4194303 then (((kindN z.toNat).1 : Nat), ((kindN z.toNat).2 : Nat), 0) else (0, 0, 1)
def decS (z : Int) : Int × Int × Int := if 0 ≤ z ∧ z ≤ 4194303 then (((decN z.toNat).1 : Nat), ((decN z.toNat).2.1 : Nat), ((decN z.toNat).2.2 : Nat)) else (0, 0, 1)
/-- two, three results -/
def two (p : Int × Int) : Value := .tuple #[.int .i64 p.1, .int .i64 p.2]
def three' (p : Int × Int × Int) : Value := .tuple #[.int .i64 p.1, .int .i64 p.2.1, .int .i64 p.2.2]

set_option maxRecDepth 100000 in
set_option maxHeartbeats 400000 in
theorem kindOf_any (c : Nat) (hc : c < 4194304) (w : World) :
    Calls Try.prog 53 #[.int .i64 (c : Int)] w fun e w' => e = .returned (.tuple #[.int .i64 ((kindN c).1 : Int), .int .i64 ((kindN c).2 : Int)]) ∧ w = w' := by
  have HM := Lib.hid (mark_any c hc)
  have HO := Lib.hid (odd_any c hc)
  have HK := Lib.hid (show kindN c = if oddTo c 22 = true then (if markTo c 21 = 0 then (2, 22) else if markTo c 21 < 22 then (2, markTo c 21) else (3, 0)) else if markTo c 21 = 0 then (1, 0) else (3, 0) from rfl)
  generalize kindN c = K at *
  generalize markTo c 21 = m at *
  cases ho : oddTo c 22
  · rw [ho] at HO HK
    by_cases hm : m = 0
    · subst hm
      have HK2 : Hid (K = (1, 0)) := Lib.hid (by simpa using HK.out)
      clear HK ho
      go_enter Try.func53, Try.ntmps53
      go_wp2_with (first | (go_at_call 75; refine (HM.out _).mono ?_; rintro e w' ⟨rfl, rfl⟩) | (go_at_call 76; refine (HO.out _).mono ?_; rintro e w' ⟨rfl, rfl⟩) | fail)
      go_ret2
      rw [HK2.out]
      exact ⟨rfl, rfl⟩
    · have HK2 : Hid (K = (3, 0)) := Lib.hid (by have := HK.out; rw [if_neg (by simp), if_neg hm] at this; exact this)
      have hm1 : ((m : Int) != 0) = true := by simp; omega
      clear HK ho
      go_enter Try.func53, Try.ntmps53
      go_wp2_with (first | (go_at_call 75; refine (HM.out _).mono ?_; rintro e w' ⟨rfl, rfl⟩) | (go_at_call 76; refine (HO.out _).mono ?_; rintro e w' ⟨rfl, rfl⟩) | fail)
      go_ret2
      rw [HK2.out]
      exact ⟨rfl, rfl⟩
  · rw [ho] at HO HK
    by_cases hm : m = 0
    · subst hm
      have HK2 : Hid (K = (2, 22)) := Lib.hid (by simpa using HK.out)
      clear HK ho
      go_enter Try.func53, Try.ntmps53
      go_wp2_with (first | (go_at_call 75; refine (HM.out _).mono ?_; rintro e w' ⟨rfl, rfl⟩) | (go_at_call 76; refine (HO.out _).mono ?_; rintro e w' ⟨rfl, rfl⟩) | fail)
      go_ret2
      rw [HK2.out]
      exact ⟨rfl, rfl⟩
    · have hm1 : ((m : Int) == 0) = false := by simp; omega
      by_cases hm2 : m < 22
      · have HK2 : Hid (K = (2, m)) := Lib.hid (by have := HK.out; rw [if_pos rfl, if_neg hm, if_pos hm2] at this; exact this)
        clear HK ho
        go_enter Try.func53, Try.ntmps53
        go_wp2_with (first | (go_at_call 75; refine (HM.out _).mono ?_; rintro e w' ⟨rfl, rfl⟩) | (go_at_call 76; refine (HO.out _).mono ?_; rintro e w' ⟨rfl, rfl⟩) | fail)
        go_ret2
        rw [HK2.out]
        exact ⟨rfl, rfl⟩
      · have HK2 : Hid (K = (3, 0)) := Lib.hid (by have := HK.out; rw [if_pos rfl, if_neg hm, if_neg hm2] at this; exact this)
        clear HK ho
        go_enter Try.func53, Try.ntmps53
        go_wp2_with (first | (go_at_call 75; refine (HM.out _).mono ?_; rintro e w' ⟨rfl, rfl⟩) | (go_at_call 76; refine (HO.out _).mono ?_; rintro e w' ⟨rfl, rfl⟩) | fail)
        go_ret2
        rw [HK2.out]
        exact ⟨rfl, rfl⟩

set_option maxRecDepth 100000 in
set_option maxHeartbeats 400000 in
theorem Coded_any (z : Int) (w : World) :
    Calls Try.prog 16 #[.int .i64 z] w fun e w' => e = .returned (two (codS z)) ∧ w = w' := by
  by_cases h : 0 ≤ z ∧ z ≤ 65535
  · obtain ⟨n, rfl⟩ : ∃ n : Nat, z = (n : Int) := ⟨z.toNat, by omega⟩
    have hn : n < 65536 := by omega
    have HR := Lib.hid (show codS (n : Int) = (((codeN n : Nat) : Int), (0 : Int)) by unfold codS; rw [if_pos h]; rfl)
    have HC := Lib.hid (coded_any n hn)
    have hd : decide ((0 : Int) ≤ (n : Int) ∧ (n : Int) ≤ 65535) = true := by simp; omega
    go_enter Try.func16, Try.ntmps16
    go_wp2_with (first | (go_at_call 49; refine (within_any _ _ _ _).mono ?_; rintro e w' ⟨rfl, rfl⟩) | (go_at_call 50; refine (HC.out _).mono ?_; rintro e w' ⟨rfl, rfl⟩) | fail)
    go_ret2
    rw [HR.out]
    exact ⟨rfl, rfl⟩
  · have HR := Lib.hid (show codS z = (0, 1) by unfold codS; rw [if_neg h])
    have hd : decide ((0 : Int) ≤ z ∧ z ≤ 65535) = false := by simp; omega
    go_enter Try.func16, Try.ntmps16
    go_wp2_with (first | (go_at_call 49; refine (within_any _ _ _ _).mono ?_; rintro e w' ⟨rfl, rfl⟩) | fail)
    go_ret2
    rw [HR.out]
    exact ⟨rfl, rfl⟩
set_option maxRecDepth 100000 in
set_option maxHeartbeats 400000 in
theorem Kind_any (z : Int) (w : World) :
    Calls Try.prog 20 #[.int .i64 z] w fun e w' => e = .returned (three' (kindS z)) ∧ w = w' := by
  by_cases h : 0 ≤ z ∧ z ≤ 4194303
  · obtain ⟨n, rfl⟩ : ∃ n : Nat, z = (n : Int) := ⟨z.toNat, by omega⟩
    have hn : n < 4194304 := by omega
    have HR := Lib.hid (show kindS (n : Int) = ((((kindN n).1 : Nat) : Int), (((kindN n).2 : Nat) : Int), (0 : Int)) by unfold kindS; rw [if_pos h]; rfl)
    have HC := Lib.hid (kindOf_any n hn)
    have hd : decide ((0 : Int) ≤ (n : Int) ∧ (n : Int) ≤ 4194303) = true := by simp; omega
    generalize kindN n = K at *
    go_enter Try.func20, Try.ntmps20
    go_wp2_with (first | (go_at_call 49; refine (within_any _ _ _ _).mono ?_; rintro e w' ⟨rfl, rfl⟩) | (go_at_call 53; refine (HC.out _).mono ?_; rintro e w' ⟨rfl, rfl⟩) | fail)
    refine bodyPost_ret (v := .tuple #[.int .i64 (K.1 : Int), .int .i64 (K.2 : Int), .int .i64 0]) (by simp [results, Try.results20, go_sem]) rfl ⟨?_, rfl⟩
    rw [HR.out]
    rfl
  · have HR := Lib.hid (show kindS z = (0, 0, 1) by unfold kindS; rw [if_neg h])
    have hd : decide ((0 : Int) ≤ z ∧ z ≤ 4194303) = false := by simp; omega
    go_enter Try.func20, Try.ntmps20
    go_wp2_with (first | (go_at_call 49; refine (within_any _ _ _ _).mono ?_; rintro e w' ⟨rfl, rfl⟩) | fail)
    refine bodyPost_ret (v := .tuple #[.int .i64 0, .int .i64 0, .int .i64 1]) (by simp [results, Try.results20, go_sem]) rfl ⟨?_, rfl⟩
    rw [HR.out]
    rfl
set_option maxRecDepth 100000 in
set_option maxHeartbeats 400000 in
theorem Decoded_any (z : Int) (w : World) :
    Calls Try.prog 18 #[.int .i64 z] w fun e w' => e = .returned (three' (decS z)) ∧ w = w' := by
  by_cases h : 0 ≤ z ∧ z ≤ 4194303
  · obtain ⟨n, rfl⟩ : ∃ n : Nat, z = (n : Int) := ⟨z.toNat, by omega⟩
    have hn : n < 4194304 := by omega
    have HR := Lib.hid (show decS (n : Int) = ((((decN n).1 : Nat) : Int), (((decN n).2.1 : Nat) : Int), (((decN n).2.2 : Nat) : Int)) by unfold decS; rw [if_pos h]; rfl)
    have HC := Lib.hid (kindOf_any n hn)
    have hd : decide ((0 : Int) ≤ (n : Int) ∧ (n : Int) ≤ 4194303) = true := by simp; omega
    have hk := kind_three n
    have hb := kind_bit n
    have HD := Lib.hid (show decN n = if (kindN n).1 = 3 then (0, 0, 15) else if (kindN n).1 = 2 then (gather (n ^^^ 2 ^ ((kindN n).2 - 1)), 1, 0) else (gather n, 0, 0) from rfl)
    rw [HD.out] at HR
    clear HD
    generalize kindN n = K at *
    obtain ⟨k, b⟩ := K
    simp only at *
    rcases hk with rfl | rfl | rfl
    · clear hb
      have HG := Lib.hid (wordOf_any n hn)
      go_enter Try.func18, Try.ntmps18
      go_wp2_with (first | (go_at_call 49; refine (within_any _ _ _ _).mono ?_; rintro e w' ⟨rfl, rfl⟩) | (go_at_call 53; refine (HC.out _).mono ?_; rintro e w' ⟨rfl, rfl⟩) | (go_at_call 54; refine (HG.out _).mono ?_; rintro e w' ⟨rfl, rfl⟩) | fail)
      refine bodyPost_ret (v := .tuple #[.int .i64 ((gather n : Nat) : Int), .int .i64 0, .int .i64 0]) (by simp [results, Try.results18, go_sem]) rfl ⟨?_, rfl⟩
      rw [HR.out]
      rfl
    · obtain ⟨hb1, hb2⟩ := hb rfl
      clear hb
      have HF := Lib.hid (flipped_any n (b - 1) hn (by omega) (b : Int) (Lib.hid (by omega)))
      have hl := flip_lt n (b - 1) (by omega) hn
      simp only [show ¬ (2 : Nat) = 3 by omega, if_false, if_true] at HR
      generalize n ^^^ 2 ^ (b - 1) = q at *
      have HG := Lib.hid (wordOf_any q hl)
      go_enter Try.func18, Try.ntmps18
      go_wp2_with (first | (go_at_call 49; refine (within_any _ _ _ _).mono ?_; rintro e w' ⟨rfl, rfl⟩) | (go_at_call 53; refine (HC.out _).mono ?_; rintro e w' ⟨rfl, rfl⟩) | (go_at_call 55; refine (HF.out _).mono ?_; rintro e w' ⟨rfl, rfl⟩) | (go_at_call 54; refine (HG.out _).mono ?_; rintro e w' ⟨rfl, rfl⟩) | fail)
      refine bodyPost_ret (v := .tuple #[.int .i64 ((gather q : Nat) : Int), .int .i64 1, .int .i64 0]) (by simp [results, Try.results18, go_sem]) rfl ⟨?_, rfl⟩
      rw [HR.out]
      rfl
    · clear hb
      go_enter Try.func18, Try.ntmps18
      go_wp2_with (first | (go_at_call 49; refine (within_any _ _ _ _).mono ?_; rintro e w' ⟨rfl, rfl⟩) | (go_at_call 53; refine (HC.out _).mono ?_; rintro e w' ⟨rfl, rfl⟩) | fail)
      refine bodyPost_ret (v := .tuple #[.int .i64 0, .int .i64 0, .int .i64 15]) (by simp [results, Try.results18, go_sem]) rfl ⟨?_, rfl⟩
      rw [HR.out]
      rfl
  · have HR := Lib.hid (show decS z = (0, 0, 1) by unfold decS; rw [if_neg h])
    have hd : decide ((0 : Int) ≤ z ∧ z ≤ 4194303) = false := by simp; omega
    go_enter Try.func18, Try.ntmps18
    go_wp2_with (first | (go_at_call 49; refine (within_any _ _ _ _).mono ?_; rintro e w' ⟨rfl, rfl⟩) | fail)
    refine bodyPost_ret (v := .tuple #[.int .i64 0, .int .i64 0, .int .i64 1]) (by simp [results, Try.results18, go_sem]) rfl ⟨?_, rfl⟩
    rw [HR.out]
    rfl
end Go.Proofs.Ytidddoldkedicaa
