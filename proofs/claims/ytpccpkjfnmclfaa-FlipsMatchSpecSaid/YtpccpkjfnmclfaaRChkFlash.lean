/- the walks of the reference's CheckFlash. -/
import Derived.Test.YtpccpkjfnmclfaaChkFlash
import Derived.Deep.QuietTactic
import Derived.BigQuiet
namespace Go.Proofs.Ytpccpkjfnmclfaa
open Go.RowKit

set_option maxRecDepth 100000 in
set_option maxHeartbeats 1000000 in
theorem rcheckSizes_any (b p s : Int) (D V X : Option Addr) (n n' n'' c c' c'' : Nat) (w : World) :
    Calls Try.prog 91 #[.agg #[.int .i64 b, .int .i64 p, .int .i64 s, .slice D n c, .slice V n' c', .slice X n'' c'']] w fun e w' => e = .returned (.int .i64 (shapeS b p s)) ∧ Below w.heap.size w w' := by
  have hcs := shape_cases b p s
  generalize shapeS b p s = R at *
  rcases hcs with ⟨h1, rfl⟩ | ⟨h1, h2, rfl⟩ | ⟨h1, h2, h3, rfl⟩ | ⟨h1, h2, h3, hR⟩
  · have d1 : decide (1 ≤ b ∧ b ≤ 64) = false := by simp; omega
    clear h1
    go_enter Try.func91, Try.ntmps91
    go_wp2_with (first | (go_at_call 58; refine (fwithin_any _ _ _ _).mono ?_; rintro e w' ⟨rfl, rfl⟩) | fail)
    go_ret
    exact ⟨rfl, boxF _ _⟩
  · have d1 : decide (1 ≤ b ∧ b ≤ 64) = true := by simp only [h1, decide_true, and_self]
    have d2 : decide (1 ≤ p ∧ p ≤ 64) = false := by simp; omega
    clear h1 h2
    go_enter Try.func91, Try.ntmps91
    go_wp2_with (first | (go_at_call 58; refine (fwithin_any _ _ _ _).mono ?_; rintro e w' ⟨rfl, rfl⟩) | fail)
    go_ret
    exact ⟨rfl, boxF _ _⟩
  · have d1 : decide (1 ≤ b ∧ b ≤ 64) = true := by simp only [h1, decide_true, and_self]
    have d2 : decide (1 ≤ p ∧ p ≤ 64) = true := by simp only [h2, decide_true, and_self]
    have d3 : decide (64 ≤ s ∧ s ≤ 1024) = false := by simp; omega
    clear h1 h2 h3
    go_enter Try.func91, Try.ntmps91
    go_wp2_with (first | (go_at_call 58; refine (fwithin_any _ _ _ _).mono ?_; rintro e w' ⟨rfl, rfl⟩) | fail)
    go_ret
    exact ⟨rfl, boxF _ _⟩
  · have d1 : decide (1 ≤ b ∧ b ≤ 64) = true := by simp only [h1, decide_true, and_self]
    have d2 : decide (1 ≤ p ∧ p ≤ 64) = true := by simp only [h2, decide_true, and_self]
    have d3 : decide (64 ≤ s ∧ s ≤ 1024) = true := by simp only [h3, decide_true, and_self]
    have HR := Lib.hid hR
    have m2 := mul_bd h1 h2
    have m3 := mul_bd3 h1 h2 h3
    have HG1 : Hid (wrap64 (b * p) = b * p) := Lib.hid (IntWalk.wrap64_in _ ⟨by omega, by omega⟩)
    have HG2 : Hid (wrap64 (b * p * s) = b * p * s) := Lib.hid (IntWalk.wrap64_in _ ⟨by omega, by omega⟩)
    clear h1 h2 h3 hR m2 m3
    go_enter Try.func91, Try.ntmps91
    by_cases h4 : 262144 < b * p * s
    · have d4 : decide (262144 < wrap64 (wrap64 (b * p) * s)) = true := by rw [HG1.out, HG2.out]; exact decide_eq_true h4
      rw [if_pos h4] at HR
      clear h4
      go_wp2_with (first | (go_at_call 58; refine (fwithin_any _ _ _ _).mono ?_; rintro e w' ⟨rfl, rfl⟩) | fail)
      go_ret
      exact ⟨ret_int HR.out.symm, boxF _ _⟩
    · have d4 : decide (262144 < wrap64 (wrap64 (b * p) * s)) = false := by rw [HG1.out, HG2.out]; exact decide_eq_false h4
      rw [if_neg h4] at HR
      clear h4
      go_wp2_with (first | (go_at_call 58; refine (fwithin_any _ _ _ _).mono ?_; rintro e w' ⟨rfl, rfl⟩) | fail)
      go_ret
      exact ⟨ret_int HR.out.symm, boxF _ _⟩
theorem fwithin_q (n a b : Int) (w : World) : Calls Try.prog 58 #[.int .i64 n, .int .i64 a, .int .i64 b] w fun e w' => e = .returned (.bool (decide (a ≤ n ∧ n ≤ b))) ∧ w' = w :=
  (fwithin_any n a b w).mono fun _ _ ⟨h1, h2⟩ => ⟨h1, h2.symm⟩
/-- the bad block before the k-th -/
def prevZ (x : List Int) (k : Nat) : Int := if k = 0 then -1 else x.getD (k - 1) 0
set_option maxRecDepth 100000 in
set_option maxHeartbeats 4000000 in
theorem rcheckFlash_any (b p s : Int) (D V X : Option Addr) (n c c' c'' : Nat) (v x : List Int) (B : Nat) (w : World) (hB : B ≤ w.heap.size) (hv : v.length ≤ 9223372036854775807) (hx : x.length ≤ 9223372036854775807) (h' : IR w B V v) (h'' : IR w B X x) :
    Calls Try.prog 57 #[.agg #[.int .i64 b, .int .i64 p, .int .i64 s, .slice D n c, .slice V v.length c', .slice X x.length c'']] w fun e w' => e = .returned (.int .i64 (flashS b p s n v x)) ∧ Below w.heap.size w w' := by
  have hcs := flash_cases b p s n v x
  have HC := Lib.hid (fun w1 => rcheckSizes_any b p s D V X n v.length x.length c c' c'' w1)
  generalize flashS b p s n v x = R at *
  generalize shapeS b p s = K at *
  obtain ⟨w0, hw0⟩ : ∃ w0, w.alloc (.cells #[.int .i64 b, .int .i64 p, .int .i64 s, .slice D n c, .slice V v.length c', .slice X x.length c''] 45) = w0 := ⟨_, rfl⟩
  have b0 : Below w.heap.size w w0 := by rw [← hw0]; exact boxF _ _
  have z0 : w0.heap.size = w.heap.size + 1 := by rw [← hw0]; simp
  have h0 : HeldF w0 w.heap.size b p s (.slice D n c) (.slice V v.length c') (.slice X x.length c'') := by rw [← hw0]; exact HeldF.new _ _ _ _ _ _ _
  have HW0 := Lib.hid hw0
  clear hw0
  obtain ⟨p0, p1, p2, p3, p4, p5⟩ := h0.cells
  have HSS := Lib.hid (fun (w' : World) (hb : Below w0.heap.size w0 w') => (h0.below hb (by omega)).cells)
  have Hv := Lib.hid (fun (w' : World) (hb : Below w0.heap.size w0 w') => (h'.below ((b0.trans (hb.mono (by omega))).mono hB)))
  have Hx := Lib.hid (fun (w' : World) (hb : Below w0.heap.size w0 w') => (h''.below ((b0.trans (hb.mono (by omega))).mono hB)))
  clear h' h'' h0
  rcases hcs with ⟨hK, rfl⟩ | ⟨rfl, ⟨h1, h2, h3⟩, hcs⟩
  · have hne : (R != 0) = true := by simpa using hK
    go_enter Try.func57, Try.ntmps57
    go_upto_region 1 with fail
    rw [HW0.out]
    go_wp2_with fail
    refine (HC.out _).mono ?_
    rintro e' w1 ⟨rfl, hb1⟩
    go_wp2_with fail
    go_ret
    exact ⟨rfl, b0.trans (hb1.mono (by omega))⟩
  · have m2 := mul_bd h1 h2
    have m3 := mul_bd3 h1 h2 h3
    have HG1 : Hid (wrap64 (b * p) = b * p) := Lib.hid (IntWalk.wrap64_in _ ⟨by omega, by omega⟩)
    have HG2 : Hid (wrap64 (b * p * s) = b * p * s) := Lib.hid (IntWalk.wrap64_in _ ⟨by omega, by omega⟩)
    have HGG : Hid (wrap64 (wrap64 (b * p) * s) = b * p * s) := Lib.hid (by rw [HG1.out, HG2.out])
    clear m2 m3 h2 h3
    rcases hcs with ⟨hm, rfl⟩ | ⟨hm, hvl, rfl⟩ | ⟨hm, hvl, hR⟩
    · have t1 : ((n : Int) != wrap64 (wrap64 (b * p) * s)) = true := by rw [HGG.out]; simpa using hm
      clear hm h1
      go_enter Try.func57, Try.ntmps57
      go_upto_region 1 with fail
      rw [HW0.out]
      go_wp2_with fail
      refine (HC.out _).mono ?_
      rintro e' w1 ⟨rfl, hb1⟩
      obtain ⟨q0, q1, q2, q3, q4, q5⟩ := HSS.out w1 hb1
      clear p0 p1 p2 p3 p4 p5 HW0
      go_wp2_with fail
      go_ret
      exact ⟨rfl, b0.trans (hb1.mono (by omega))⟩
    · have t1 : ((n : Int) != wrap64 (wrap64 (b * p) * s)) = false := by rw [HGG.out]; simpa using hm
      have t2 : ((v.length : Int) != b) = true := by simpa using hvl
      clear hm hvl h1
      go_enter Try.func57, Try.ntmps57
      go_upto_region 1 with fail
      rw [HW0.out]
      go_wp2_with fail
      refine (HC.out _).mono ?_
      rintro e' w1 ⟨rfl, hb1⟩
      obtain ⟨q0, q1, q2, q3, q4, q5⟩ := HSS.out w1 hb1
      clear p0 p1 p2 p3 p4 p5 HW0
      go_wp2_with fail
      go_ret
      exact ⟨rfl, b0.trans (hb1.mono (by omega))⟩
    · have t1 : ((n : Int) != wrap64 (wrap64 (b * p) * s)) = false := by rw [HGG.out]; simpa using hm
      have t2 : ((v.length : Int) != b) = false := by simpa using hvl
      have HR := Lib.hid hR
      obtain ⟨hb1', hb2'⟩ := h1
      clear hm hvl hR
      go_enter Try.func57, Try.ntmps57
      go_upto_region 1 with fail
      rw [HW0.out]
      go_wp2_with fail
      refine (HC.out _).mono ?_
      rintro e' w1 ⟨rfl, hb1⟩
      obtain ⟨q0, q1, q2, q3, q4, q5⟩ := HSS.out w1 hb1
      clear p0 p1 p2 p3 p4 p5 HW0
      have g1 := Hv.out w1 hb1
      have hb5 := b0.trans (hb1.mono (by omega))
      go_upto_region 7 with fail
      go_loop [4] (fun i => ∃ k : Nat, k ≤ v.length ∧ i = .int .i64 (k : Int) ∧ (v.take k).all wornB = true) (fun i => v.length - (intOf i).toNat)
      case atStart => exact ⟨0, Nat.zero_le _, rfl, rfl⟩
      case round =>
        obtain ⟨k, hk, rfl, hall⟩ := hrel
        by_cases hlt : k < v.length
        · obtain ⟨ad, hA, hbk, hc⟩ := g1.get k hlt
          have hk0 : (0 : Int) ≤ (k : Int) := Int.natCast_nonneg _
          have hk1 : (k : Int) < (v.length : Int) := by omega
          have HT := Lib.hid (all_take hlt hall)
          have HF := Lib.hid (fun q => all_bad hlt q)
          have HWB := Lib.hid (show wornB v[k] = decide (0 ≤ v[k] ∧ v[k] ≤ 1000000) from rfl)
          clear hall
          subst hA
          generalize v[k] = y at *
          by_cases hy : 0 ≤ y ∧ y ≤ 1000000
          · have d1 : decide (0 ≤ y ∧ y ≤ 1000000) = true := by simp only [hy, decide_true, and_self]
            have HN := Lib.hid (HT.out (by rw [HWB.out]; exact d1))
            clear hy
            go_wp2_with (first | (go_at_call 58; refine (fwithin_any _ _ _ _).mono ?_; rintro e w' ⟨rfl, rfl⟩) | fail)
            go_round
            case rel => exact ⟨k + 1, by omega, by go_num, HN.out⟩
            case measure => simp [intOf]; omega
          · have d1 : decide (0 ≤ y ∧ y ≤ 1000000) = false := by simp; omega
            have HN : Hid (R = 1) := Lib.hid (by rw [HR.out, if_neg (HF.out (by rw [HWB.out]; exact d1))])
            clear hy
            go_wp2_with (first | (go_at_call 58; refine (fwithin_any _ _ _ _).mono ?_; rintro e w' ⟨rfl, rfl⟩) | fail)
            go_ret
            exact ⟨ret_int HN.out.symm, hb5⟩
        · have HN : Hid (R = badF b (-1) x) := Lib.hid (by rw [HR.out, if_pos (by rw [List.take_of_length_le (by omega)] at hall; exact hall)])
          have hst : badF b (prevZ x 0) (x.drop 0) = R := by rw [List.drop_zero]; exact HN.out.symm
          clear hall HN g1
          go_upto_region 12 with fail
          clear q0 q1 q2 q3 q4 q5
          go_loopw [5] (fun i wr => ∃ k : Nat, k ≤ x.length ∧ i = .int .i64 (k : Int) ∧ badF b (prevZ x k) (x.drop k) = R ∧ Below w0.heap.size w0 wr) (fun i _ => x.length - (intOf i).toNat)
          case atStart => exact ⟨0, Nat.zero_le _, rfl, hst, hb1⟩
          case round =>
            obtain ⟨k, hk, rfl, hall, hb⟩ := hrel
            have hbw := b0.trans (hb.mono (by omega))
            by_cases hlt2 : k < x.length
            · obtain ⟨ad, hA, hbk, hc⟩ := (Hx.out wr hb).get k hlt2
              obtain ⟨q0, q1, q2, q3, q4, q5⟩ := HSS.out wr hb
              have HS := bad_step b (prevZ x k) x k hlt2
              rw [hall] at HS
              have HS' := Lib.hid HS
              have HPN : Hid (prevZ x (k + 1) = x[k]) := Lib.hid (by simp [prevZ, List.getD, hlt2])
              clear HS hall
              subst hA
              have hm1 : IntKind.i64.wrap (b - 1) = b - 1 := IntWalk.i64_in _ ⟨by omega, by omega⟩
              by_cases hk0 : k = 0
              · subst hk0
                have HP0 : Hid (prevZ x 0 = -1) := Lib.hid rfl
                have hc1 : wr.cell? ad = some (.int .i64 x[0]) := by rw [addr_zero] at hc; exact hc
                have hk1 : (0 : Int) < (x.length : Int) := by omega
                generalize x[0] = y at *
                by_cases hy : 0 ≤ y ∧ y ≤ b - 1
                · have d1 : decide (0 ≤ y ∧ y ≤ b - 1) = true := by simp only [hy, decide_true, and_self]
                  rw [if_pos hy, HP0.out, if_neg (by omega)] at HS'
                  clear hy
                  go_wp2_with fail
                  go_quiet ((go_at_call 58; exact Calls.quiet_of_same (fwithin_q _ _ _ _)))
                  go_wp2_with fail
                  go_quiet (fail)
                  go_wp2_with fail
                  refine ⟨⟨1, by omega, by go_num, by rw [HPN.out]; exact HS'.out.symm, below_draws hb _⟩, by simp [intOf]; omega⟩
                · have d1 : decide (0 ≤ y ∧ y ≤ b - 1) = false := by simp; omega
                  rw [if_neg hy] at HS'
                  clear hy
                  go_wp2_with fail
                  go_quiet ((go_at_call 58; exact Calls.quiet_of_same (fwithin_q _ _ _ _)))
                  go_wp2_with fail
                  go_ret
                  first | exact ⟨ret_int HS'.out.symm, below_draws hbw _⟩ | exact ⟨ret_int HS'.out.symm, below_draws (below_draws hbw _) _⟩
              · obtain ⟨J, hJ⟩ : ∃ J, J + 1 = k := ⟨k - 1, by omega⟩
                have HP0 : Hid (prevZ x k = x[J]) := Lib.hid (by subst hJ; simp [prevZ, List.getD, show J < x.length by omega])
                obtain ⟨ad', hA', -, hc0⟩ := (Hx.out wr hb).get J (by omega)
                injection hA' with hA'
                subst hA'
                have hk1 : (0 : Int) ≤ (k : Int) := Int.natCast_nonneg _
                have hk2 : (k : Int) < (x.length : Int) := by omega
                have hk3 : decide ((0 : Int) < (k : Int)) = true := decide_eq_true (by omega)
                have hk4 : decide (0 < k) = true := decide_eq_true (by omega)
                have hJ0 : (0 : Int) ≤ (J : Int) := Int.natCast_nonneg _
                have hJ2 : (J : Int) < (x.length : Int) := by omega
                have hJ4 : (k : Int) - 1 = (J : Int) := by omega
                have hJ3 : IntKind.i64.wrap ((k : Int) - 1) = (J : Int) := by rw [hJ4]; exact IntWalk.i64_in _ ⟨by omega, by omega⟩
                have hJ5 : IntKind.i64.wrap (J : Int) = (J : Int) := IntWalk.i64_in _ ⟨by omega, by omega⟩
                generalize x[k] = y at *
                generalize x[J] = y0 at *
                clear hJ
                by_cases hy : 0 ≤ y ∧ y ≤ b - 1
                · have d1 : decide (0 ≤ y ∧ y ≤ b - 1) = true := by simp only [hy, decide_true, and_self]
                  rw [if_pos hy, HP0.out] at HS'
                  by_cases hz : y ≤ y0
                  · have d2 : decide (y ≤ y0) = true := decide_eq_true hz
                    rw [if_pos hz] at HS'
                    clear hy hz
                    go_wp2_with fail
                    go_quiet ((go_at_call 58; exact Calls.quiet_of_same (fwithin_q _ _ _ _)))
                    go_wp2_with fail
                    go_quiet (fail)
                    go_wp2_with fail
                    go_ret
                    first | exact ⟨ret_int HS'.out.symm, below_draws hbw _⟩ | exact ⟨ret_int HS'.out.symm, below_draws (below_draws hbw _) _⟩
                  · have d2 : decide (y ≤ y0) = false := decide_eq_false hz
                    rw [if_neg hz] at HS'
                    clear hy hz
                    go_wp2_with fail
                    go_quiet ((go_at_call 58; exact Calls.quiet_of_same (fwithin_q _ _ _ _)))
                    go_wp2_with fail
                    go_quiet (fail)
                    go_wp2_with fail
                    refine ⟨⟨k + 1, by omega, by go_num, by rw [HPN.out]; exact HS'.out.symm, below_draws hb _⟩, by simp [intOf]; omega⟩
                · have d1 : decide (0 ≤ y ∧ y ≤ b - 1) = false := by simp; omega
                  rw [if_neg hy] at HS'
                  clear hy
                  go_wp2_with fail
                  go_quiet ((go_at_call 58; exact Calls.quiet_of_same (fwithin_q _ _ _ _)))
                  go_wp2_with fail
                  go_ret
                  first | exact ⟨ret_int HS'.out.symm, below_draws hbw _⟩ | exact ⟨ret_int HS'.out.symm, below_draws (below_draws hbw _) _⟩
            · have HN : Hid (R = 0) := Lib.hid (by rw [List.drop_eq_nil_of_le (by omega)] at hall; exact hall.symm)
              obtain ⟨q0, q1, q2, q3, q4, q5⟩ := HSS.out wr hb
              clear hall
              go_wp2_with fail
              go_ret
              exact ⟨ret_int HN.out.symm, hbw⟩
end Go.Proofs.Ytpccpkjfnmclfaa
