/- the walks of the program's CheckFlash. -/
import Derived.Test.YthcijelebjgfkaaFlashW
import Derived.Deep.RegionLaw
namespace Go.Proofs.Ythcijelebjgfkaa
open Go.RowKit

set_option maxHeartbeats 400000 in
theorem isPageSize_any (s : Int) (w : World) : Calls Try.prog 41 #[.int .i64 s] w fun e w' => e = .returned (.bool (decide (64 ≤ s ∧ s ≤ 1024))) ∧ w = w' := by
  go_enter Try.func41, Try.ntmps41
  go_wp2_with (first | (go_at_call 42; refine (swithin_any _ _ _ _).mono ?_; rintro e w' ⟨rfl, rfl⟩) | fail)
  go_ret
  exact ⟨ret_bool (by simp), rfl⟩
set_option maxRecDepth 100000 in
set_option maxHeartbeats 1000000 in
theorem checkShape_any (b p s : Int) (D V X : Option Addr) (n n' n'' c c' c'' : Nat) (w : World) :
    Calls Try.prog 31 #[.agg #[.int .i64 b, .int .i64 p, .int .i64 s, .slice D n c, .slice V n' c', .slice X n'' c'']] w fun e w' => e = .returned (.int .i64 (shapeS b p s)) ∧ Below w.heap.size w w' := by
  have hcs := shape_cases b p s
  generalize shapeS b p s = R at *
  rcases hcs with ⟨h1, rfl⟩ | ⟨h1, h2, rfl⟩ | ⟨h1, h2, h3, rfl⟩ | ⟨h1, h2, h3, hR⟩
  · have d1 : decide (1 ≤ b ∧ b ≤ 64) = false := by simp; omega
    clear h1
    go_enter Try.func31, Try.ntmps31
    go_wp2_with (first | (go_at_call 42; refine (swithin_any _ _ _ _).mono ?_; rintro e w' ⟨rfl, rfl⟩) | fail)
    go_ret
    exact ⟨rfl, boxF _ _⟩
  · have d1 : decide (1 ≤ b ∧ b ≤ 64) = true := by simp only [h1, decide_true, and_self]
    have d2 : decide (1 ≤ p ∧ p ≤ 64) = false := by simp; omega
    clear h1 h2
    go_enter Try.func31, Try.ntmps31
    go_wp2_with (first | (go_at_call 42; refine (swithin_any _ _ _ _).mono ?_; rintro e w' ⟨rfl, rfl⟩) | fail)
    go_ret
    exact ⟨rfl, boxF _ _⟩
  · have d1 : decide (1 ≤ b ∧ b ≤ 64) = true := by simp only [h1, decide_true, and_self]
    have d2 : decide (1 ≤ p ∧ p ≤ 64) = true := by simp only [h2, decide_true, and_self]
    have d3 : decide (64 ≤ s ∧ s ≤ 1024) = false := by simp; omega
    clear h1 h2 h3
    go_enter Try.func31, Try.ntmps31
    go_wp2_with (first | (go_at_call 42; refine (swithin_any _ _ _ _).mono ?_; rintro e w' ⟨rfl, rfl⟩) | (go_at_call 41; refine (isPageSize_any _ _).mono ?_; rintro e w' ⟨rfl, rfl⟩) | fail)
    go_ret
    exact ⟨rfl, boxF _ _⟩
  · have d1 : decide (1 ≤ b ∧ b ≤ 64) = true := by simp only [h1, decide_true, and_self]
    have d2 : decide (1 ≤ p ∧ p ≤ 64) = true := by simp only [h2, decide_true, and_self]
    have d3 : decide (64 ≤ s ∧ s ≤ 1024) = true := by simp only [h3, decide_true, and_self]
    have HD := Lib.hid (fun w => dataSize_any b p s D V X n n' n'' c c' c'' w h1 h2 h3)
    have HR := Lib.hid hR
    clear h1 h2 h3 hR
    generalize b * p * s = M at *
    by_cases h4 : 262144 < M
    · have d4 : decide (262144 < M) = true := decide_eq_true h4
      rw [if_pos h4] at HR
      clear h4
      go_enter Try.func31, Try.ntmps31
      go_wp2_with (first | (go_at_call 42; refine (swithin_any _ _ _ _).mono ?_; rintro e w' ⟨rfl, rfl⟩) | (go_at_call 41; refine (isPageSize_any _ _).mono ?_; rintro e w' ⟨rfl, rfl⟩) | (go_at_call 34; refine (HD.out _).mono ?_; rintro e w1 ⟨rfl, hb1⟩) | fail)
      go_ret
      exact ⟨ret_int HR.out.symm, (boxF _ _).trans (hb1.mono (by simp))⟩
    · have d4 : decide (262144 < M) = false := decide_eq_false h4
      rw [if_neg h4] at HR
      clear h4
      go_enter Try.func31, Try.ntmps31
      go_wp2_with (first | (go_at_call 42; refine (swithin_any _ _ _ _).mono ?_; rintro e w' ⟨rfl, rfl⟩) | (go_at_call 41; refine (isPageSize_any _ _).mono ?_; rintro e w' ⟨rfl, rfl⟩) | (go_at_call 34; refine (HD.out _).mono ?_; rintro e w1 ⟨rfl, hb1⟩) | fail)
      go_ret
      exact ⟨ret_int HR.out.symm, (boxF _ _).trans (hb1.mono (by simp))⟩
theorem bad_step (b u : Int) (x : List Int) (k : Nat) (hk : k < x.length) : badF b u (x.drop k) = if 0 ≤ x[k] ∧ x[k] ≤ b - 1 then (if x[k] ≤ u then 8 else badF b x[k] (x.drop (k + 1))) else 1 := by
  rw [List.drop_eq_getElem_cons hk]
  rfl
set_option maxRecDepth 100000 in
set_option maxHeartbeats 1000000 in
theorem checkBad_any (b p s : Int) (D V X : Option Addr) (n n' c c' c'' : Nat) (x : List Int) (B : Nat) (w : World) (hB : B ≤ w.heap.size) (hb : 1 ≤ b ∧ b ≤ 64) (hx : x.length ≤ 9223372036854775807) (h : IR w B X x) :
    Calls Try.prog 32 #[.agg #[.int .i64 b, .int .i64 p, .int .i64 s, .slice D n c, .slice V n' c', .slice X x.length c'']] w fun e w' => e = .returned (.int .i64 (badF b (-1) x)) ∧ Below w.heap.size w w' := by
  obtain ⟨R, hR⟩ : ∃ R, R = badF b (-1) x := ⟨_, rfl⟩
  rw [← hR]
  obtain ⟨hb1, hb2⟩ := hb
  have g1 : IR (w.alloc (.cells #[.int .i64 b, .int .i64 p, .int .i64 s, .slice D n c, .slice V n' c', .slice X x.length c''] 32)) w.heap.size X x := (h.lift hB).below (boxF _ _)
  have hst : badF b (-1) (x.drop 0) = R := by rw [List.drop_zero]; exact hR.symm
  clear hR h
  go_enter Try.func32, Try.ntmps32
  go_wp2_with fail
  go_loop [3, 5, 9] (fun u _ i => ∃ (k : Nat) (z : Int), k ≤ x.length ∧ i = .int .i64 (k : Int) ∧ u = .int .i64 z ∧ badF b z (x.drop k) = R) (fun _ _ i => x.length - (intOf i).toNat)
  case atStart => exact ⟨0, -1, Nat.zero_le _, rfl, rfl, hst⟩
  case round =>
    obtain ⟨k, z, hk, rfl, rfl, hall⟩ := hrel
    by_cases hlt : k < x.length
    · obtain ⟨ad, hA, hbk, hc⟩ := g1.get k hlt
      subst hA
      have hk0 : (0 : Int) ≤ (k : Int) := Int.natCast_nonneg _
      have hk1 : (k : Int) < (x.length : Int) := by omega
      have HS := bad_step b z x k hlt
      rw [hall] at HS
      have HS' := Lib.hid HS
      clear HS hall
      generalize x[k] = y at *
      by_cases hy : 0 ≤ y ∧ y ≤ b - 1
      · have d1 : decide (0 ≤ y ∧ y ≤ b - 1) = true := by simp only [hy, decide_true, and_self]
        rw [if_pos hy] at HS'
        by_cases hz : y ≤ z
        · have d2 : decide (y ≤ z) = true := decide_eq_true hz
          rw [if_pos hz] at HS'
          clear hy hz
          go_wp2_with (first | (go_at_call 42; refine (swithin_any _ _ _ _).mono ?_; rintro e w' ⟨rfl, rfl⟩) | fail)
          go_ret
          exact ⟨ret_int HS'.out.symm, boxF _ _⟩
        · have d2 : decide (y ≤ z) = false := decide_eq_false hz
          rw [if_neg hz] at HS'
          clear hy hz
          go_wp2_with (first | (go_at_call 42; refine (swithin_any _ _ _ _).mono ?_; rintro e w' ⟨rfl, rfl⟩) | fail)
          go_round
          case rel => exact ⟨k + 1, y, by omega, by go_num, rfl, HS'.out.symm⟩
          case measure => simp [intOf]; omega
      · have d1 : decide (0 ≤ y ∧ y ≤ b - 1) = false := by simp; omega
        rw [if_neg hy] at HS'
        clear hy
        go_wp2_with (first | (go_at_call 42; refine (swithin_any _ _ _ _).mono ?_; rintro e w' ⟨rfl, rfl⟩) | fail)
        go_ret
        exact ⟨ret_int HS'.out.symm, boxF _ _⟩
    · have HN : Hid (R = 0) := Lib.hid (by rw [List.drop_eq_nil_of_le (by omega)] at hall; exact hall.symm)
      clear hall
      go_wp2_with fail
      go_ret
      exact ⟨ret_int HN.out.symm, boxF _ _⟩
theorem flash_cases (b p s : Int) (n : Nat) (v x : List Int) : (shapeS b p s ≠ 0 ∧ flashS b p s n v x = shapeS b p s) ∨
    (shapeS b p s = 0 ∧ ((1 ≤ b ∧ b ≤ 64) ∧ (1 ≤ p ∧ p ≤ 64) ∧ (64 ≤ s ∧ s ≤ 1024)) ∧ (((n : Int) ≠ b * p * s ∧ flashS b p s n v x = 3) ∨ ((n : Int) = b * p * s ∧ (v.length : Int) ≠ b ∧ flashS b p s n v x = 3) ∨
      ((n : Int) = b * p * s ∧ (v.length : Int) = b ∧ flashS b p s n v x = if v.all wornB = true then badF b (-1) x else 1))) := by
  unfold flashS
  by_cases h1 : shapeS b p s = 0
  · obtain ⟨a1, a2, a3, a4⟩ := shape_ok h1
    refine .inr ⟨h1, ⟨a1, a2, a3⟩, ?_⟩
    rw [if_pos h1]
    by_cases h2 : (n : Int) = b * p * s
    · by_cases h3 : (v.length : Int) = b
      · exact .inr (.inr ⟨h2, h3, by rw [if_pos ⟨h2, h3⟩]⟩)
      · exact .inr (.inl ⟨h2, h3, by rw [if_neg (fun q => h3 q.2)]⟩)
    · exact .inl ⟨h2, by rw [if_neg (fun q => h2 q.1)]⟩
  · exact .inl ⟨h1, by rw [if_neg h1]⟩
theorem all_bad {v : List Int} {k : Nat} (hk : k < v.length) (h : wornB v[k] = false) : ¬ v.all wornB = true := by
  intro q
  have := List.all_eq_true.1 q v[k] (List.getElem_mem hk)
  rw [h] at this
  cases this
theorem all_take {v : List Int} {k : Nat} (hk : k < v.length) (h : (v.take k).all wornB = true) (h' : wornB v[k] = true) : (v.take (k + 1)).all wornB = true := by
  rw [List.take_succ_eq_append_getElem hk, List.all_append, h]
  simp [h']
end Go.Proofs.Ythcijelebjgfkaa
