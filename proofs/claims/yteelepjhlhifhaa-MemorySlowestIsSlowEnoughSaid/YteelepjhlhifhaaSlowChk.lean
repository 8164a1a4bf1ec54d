/- the walks of checkSlowest and of readAs. -/
import Derived.Test.YteelepjhlhifhaaSlowMath
import Derived.Test.YteelepjhlhifhaaRScrub
namespace Go.Proofs.Yteelepjhlhifhaa
open Go.RowKit

theorem chkS_cases (l l' : List Int) (m : Int) (f : List Flp) (u q : Int) :
    (chkF l l' f ≠ 0 ∧ chkS l l' m f u q = chkF l l' f) ∨ (chkF l l' f = 0 ∧ ¬ (1 ≤ m ∧ m ≤ 5000) ∧ chkS l l' m f u q = 1) ∨
    (chkF l l' f = 0 ∧ (1 ≤ m ∧ m ≤ 5000) ∧ ¬ (0 ≤ u ∧ u ≤ 1000000000000) ∧ chkS l l' m f u q = 1) ∨
    (chkF l l' f = 0 ∧ ∃ M U : Nat, m = (M : Int) ∧ u = (U : Int) ∧ (1 ≤ M ∧ M ≤ 5000) ∧ U ≤ 1000000000000 ∧ chkS l l' m f u q = if 20000 < U * M then 2 else if 1 ≤ q ∧ q ≤ 1000000000000 then 0 else 1) := by
  unfold chkS
  by_cases h0 : chkF l l' f = 0
  · by_cases h2 : 1 ≤ m ∧ m ≤ 5000
    · by_cases h3 : 0 ≤ u ∧ u ≤ 1000000000000
      · refine .inr (.inr (.inr ⟨h0, m.toNat, u.toNat, by omega, by omega, by omega, by omega, ?_⟩))
        rw [if_pos h0, if_pos ⟨h2, h3⟩]
        have hm : m = (m.toNat : Int) := by omega
        have hu : u = (u.toNat : Int) := by omega
        generalize m.toNat = M at *
        generalize u.toNat = U at *
        subst hm hu
        have ec : ((U : Int) * (M : Int)) = ((U * M : Nat) : Int) := by simp
        rw [ec]
        by_cases h4 : 20000 < U * M
        · rw [if_pos h4, if_pos (by omega)]
        · rw [if_neg h4, if_neg (by omega)]
      · exact .inr (.inr (.inl ⟨h0, h2, h3, by rw [if_pos h0, if_neg (fun q => h3 q.2)]⟩))
    · exact .inr (.inl ⟨h0, h2, by rw [if_pos h0, if_neg (fun q => h2 q.1)]⟩)
  · exact .inl ⟨h0, by rw [if_neg h0]⟩
theorem slow_bits (U M : Nat) (hM : M ≤ 5000) (hU : U ≤ 1000000000000) : wrap64 ((U : Int) * (M : Int)) = ((U * M : Nat) : Int) := by
  rw [← Int.natCast_mul]
  have hw : U * M ≤ 1000000000000 * 5000 := Nat.mul_le_mul hU hM
  exact wi64 _ (by omega)
set_option maxRecDepth 100000 in
set_option maxHeartbeats 2000000 in
theorem checkSlowest_any (A A' Af : Option Addr) (c c' cf : Nat) (l l' : List Int) (m : Int) (f : List Flp) (u q : Int) (B : Nat) (w : World) (hB : B ≤ w.heap.size) (hl : l.length ≤ 9223372036854775807) (hl' : l'.length ≤ 9223372036854775807) (hfl : f.length ≤ 9223372036854775807) (h : IR w B A l) (h' : IR w B A' l') (hf : FR w B Af f) :
    Calls Try.prog 77 #[bankV A A' l.length l'.length c c', .int .i64 m, .slice Af f.length cf, .int .i64 u, .int .i64 q] w fun e' w' => e' = .returned (.int .i64 (chkS l l' m f u q)) ∧ Below w.heap.size w w' := by
  have HC := Lib.hid (fun (w1 : World) (hb : Below w.heap.size w w1) => checkFlips_any A A' Af c c' cf l l' f B w1 (Nat.le_trans hB hb.size) hl hl' hfl (h.below (hb.mono hB)) (h'.below (hb.mono hB)) (hf.below (hb.mono hB)))
  have hcs := chkS_cases l l' m f u q
  generalize chkS l l' m f u q = R at *
  generalize chkF l l' f = K at *
  unfold bankV at *
  have hb0 : Below w.heap.size w (w.alloc (.cells #[.slice A l.length c, .slice A' l'.length c'] 52)) := box_below _ _
  have HCC := Lib.hid (HC.out _ hb0)
  have hz : (w.alloc (.cells #[.slice A l.length c, .slice A' l'.length c'] 52)).heap.size = w.heap.size + 1 := by simp
  have HGO : Hid (∀ w1, Below (w.alloc (.cells #[.slice A l.length c, .slice A' l'.length c'] 52)).heap.size (w.alloc (.cells #[.slice A l.length c, .slice A' l'.length c'] 52)) w1 → Below w.heap.size w w1) := Lib.hid fun w1 hb1 =>
    hb0.trans (hb1.mono (by omega))
  clear HC h h' hf hz
  rcases hcs with ⟨hK, rfl⟩ | ⟨rfl, h1, rfl⟩ | ⟨rfl, h1, h2, rfl⟩ | ⟨rfl, M, U, rfl, rfl, h2, h3, hR⟩
  · have hne : (R != 0) = true := by simpa using hK
    go_enter Try.func77, Try.ntmps77
    go_wp2_with fail
    refine HCC.out.mono ?_
    rintro e' w1 ⟨rfl, hb1⟩
    go_wp2_with fail
    go_ret
    exact ⟨rfl, HGO.out w1 hb1⟩
  · have g1 : decide (1 ≤ m ∧ m ≤ 5000) = false := by simp; omega
    go_enter Try.func77, Try.ntmps77
    go_wp2_with fail
    refine HCC.out.mono ?_
    rintro e' w1 ⟨rfl, hb1⟩
    clear h1
    go_wp2_with (first | (go_at_call 67; refine (within_any _ _ _ _).mono ?_; rintro e w' ⟨rfl, rfl⟩) | fail)
    go_ret
    exact ⟨rfl, HGO.out _ hb1⟩
  · have g1 : decide (1 ≤ m ∧ m ≤ 5000) = true := by simp only [h1, decide_true, and_self]
    have g2 : decide (0 ≤ u ∧ u ≤ 1000000000000) = false := by simp; omega
    go_enter Try.func77, Try.ntmps77
    go_wp2_with fail
    refine HCC.out.mono ?_
    rintro e' w1 ⟨rfl, hb1⟩
    clear h1 h2
    go_wp2_with (first | (go_at_call 67; refine (within_any _ _ _ _).mono ?_; rintro e w' ⟨rfl, rfl⟩) | fail)
    go_ret
    exact ⟨rfl, HGO.out _ hb1⟩
  · have g1 : decide ((1 : Int) ≤ (M : Int) ∧ (M : Int) ≤ 5000) = true := by simp; omega
    have g2 : decide ((0 : Int) ≤ (U : Int) ∧ (U : Int) ≤ 1000000000000) = true := by simp; omega
    have HG := Lib.hid (slow_bits U M h2.2 h3)
    have HR := Lib.hid hR
    obtain ⟨hM1, hM2⟩ := h2
    have hUi : (U : Int) ≤ 1000000000000 := by omega
    have hMi : (1 : Int) ≤ (M : Int) := by omega
    have hMj : (M : Int) ≤ 5000 := by omega
    clear hR
    go_enter Try.func77, Try.ntmps77
    go_wp2_with fail
    refine HCC.out.mono ?_
    rintro e' w1 ⟨rfl, hb1⟩
    go_upto_region 7 with (first | (go_at_call 67; refine (within_any _ _ _ _).mono ?_; rintro e w' ⟨rfl, rfl⟩) | fail)
    clear g1 g2
    have hd1 : Below w.heap.size w w1 := HGO.out _ hb1
    by_cases h4 : 20000 < U * M
    · have HR2 : Hid (R = 2) := Lib.hid (by have := HR.out; rw [if_pos h4] at this; exact this)
      have h4' : decide ((20000 : Int) < wrap64 ((U : Int) * (M : Int))) = true := by rw [HG.out, decide_eq_true_iff]; omega
      clear h4
      go_wp2_with fail
      go_ret
      exact ⟨ret_int HR2.out.symm, hd1⟩
    · have h4' : decide ((20000 : Int) < wrap64 ((U : Int) * (M : Int))) = false := by rw [HG.out, decide_eq_false_iff_not]; omega
      rw [if_neg h4] at HR
      clear h4
      by_cases h5 : 1 ≤ q ∧ q ≤ 1000000000000
      · have HR2 : Hid (R = 0) := Lib.hid (by have := HR.out; rw [if_pos h5] at this; exact this)
        have g5 : decide (1 ≤ q ∧ q ≤ 1000000000000) = true := by simp only [h5, decide_true, and_self]
        clear h5
        go_wp2_with (first | (go_at_call 67; refine (within_any _ _ _ _).mono ?_; rintro e w' ⟨rfl, rfl⟩) | fail)
        go_ret
        exact ⟨ret_int HR2.out.symm, hd1⟩
      · have HR2 : Hid (R = 1) := Lib.hid (by have := HR.out; rw [if_neg h5] at this; exact this)
        have g5 : decide (1 ≤ q ∧ q ≤ 1000000000000) = false := by simp; omega
        clear h5
        go_wp2_with (first | (go_at_call 67; refine (within_any _ _ _ _).mono ?_; rintro e w' ⟨rfl, rfl⟩) | fail)
        go_ret
        exact ⟨ret_int HR2.out.symm, hd1⟩
end Go.Proofs.Yteelepjhlhifhaa
