/- the walks of checkRounds and of the reference's ask. -/
import Derived.Test.YteelepjhlhifhaaRFlips
namespace Go.Proofs.Yteelepjhlhifhaa
open Go.RowKit

theorem boxes2_held (x1 y1 x2 y2 : Value) (w w0 : World) (hw : (w.alloc (.cells #[x1, y1] 52)).alloc (.cells #[x2, y2] 68) = w0) :
    Below w.heap.size w w0 ∧ w0.heap.size = w.heap.size + 2 ∧ HeldB w0 w.heap.size x1 y1 ∧ w0.heap[w.heap.size + 1]? = some (.cells #[x2, y2] 68 (0, 0)) := by
  subst hw
  have h1 := HeldB.new w x1 y1
  have h2 := heap_alloc_new (w.alloc (.cells #[x1, y1] 52)) (.cells #[x2, y2] 68)
  rw [World.size_alloc] at h2
  exact ⟨((Below.refl _ _).alloc (Nat.le_refl _) _).alloc (by simp) _, by simp, h1.below ((Below.refl _ _).alloc (by simp) _) (Nat.lt_succ_self _), h2⟩
theorem rcells {w0 w : World} {X : Nat} {e m : Value} (h : w.heap[X]? = w0.heap[X]?) (h0 : w0.heap[X]? = some (.cells #[e, m] 68 (0, 0))) : w.cell? ⟨X, 0, none⟩ = some e ∧ w.cell? ⟨X, 1, none⟩ = some m := by
  rw [h0] at h
  exact ⟨by simp [World.cell?, h], by simp [World.cell?, h]⟩
/-- what may be wrong with rounds whose flips are right, of numbers -/
theorem chkR_cases (l l' : List Int) (e m : Int) (f : List Flp) (u : Int) :
    (chkF l l' f ≠ 0 ∧ chkR l l' e m f u = chkF l l' f) ∨ (chkF l l' f = 0 ∧ ¬ (1 ≤ e ∧ e ≤ 1000000000000) ∧ chkR l l' e m f u = 1) ∨ (chkF l l' f = 0 ∧ (1 ≤ e ∧ e ≤ 1000000000000) ∧ ¬ (1 ≤ m ∧ m ≤ 5000) ∧ chkR l l' e m f u = 1) ∨
    (chkF l l' f = 0 ∧ (1 ≤ e ∧ e ≤ 1000000000000) ∧ (1 ≤ m ∧ m ≤ 5000) ∧ ¬ (0 ≤ u ∧ u ≤ 1000000000000) ∧ chkR l l' e m f u = 1) ∨
    (chkF l l' f = 0 ∧ ∃ E M U : Nat, e = (E : Int) ∧ m = (M : Int) ∧ u = (U : Int) ∧ (1 ≤ E ∧ E ≤ 1000000000000) ∧ (1 ≤ M ∧ M ≤ 5000) ∧ U ≤ 1000000000000 ∧ chkR l l' e m f u = if 1000000 < U / E * M then 2 else 0) := by
  unfold chkR
  by_cases h0 : chkF l l' f = 0
  · by_cases h1 : 1 ≤ e ∧ e ≤ 1000000000000
    · by_cases h2 : 1 ≤ m ∧ m ≤ 5000
      · by_cases h3 : 0 ≤ u ∧ u ≤ 1000000000000
        · refine .inr (.inr (.inr (.inr ⟨h0, e.toNat, m.toNat, u.toNat, by omega, by omega, by omega, by omega, by omega, by omega, ?_⟩)))
          rw [if_pos h0, if_pos ⟨h1, h2, h3⟩]
          have he : e = (e.toNat : Int) := by omega
          have hm : m = (m.toNat : Int) := by omega
          have hu : u = (u.toNat : Int) := by omega
          generalize e.toNat = E at *
          generalize m.toNat = M at *
          generalize u.toNat = U at *
          subst he hm hu
          have ec : ((U : Int) / (E : Int) * (M : Int)) = ((U / E * M : Nat) : Int) := by simp
          rw [ec]
          by_cases h4 : 1000000 < U / E * M
          · rw [if_pos h4, if_pos (by omega)]
          · rw [if_neg h4, if_neg (by omega)]
        · exact .inr (.inr (.inr (.inl ⟨h0, h1, h2, h3, by rw [if_pos h0, if_neg (fun q => h3 q.2.2)]⟩)))
      · exact .inr (.inr (.inl ⟨h0, h1, h2, by rw [if_pos h0, if_neg (fun q => h2 q.2.1)]⟩))
    · exact .inr (.inl ⟨h0, h1, by rw [if_pos h0, if_neg (fun q => h1 q.1)]⟩)
  · exact .inl ⟨h0, by rw [if_neg h0]⟩
theorem work_bits (U E M : Nat) (hM : M ≤ 5000) (hU : U ≤ 1000000000000) : decide ((1000000 : Int) < wrap64 (wrap64 ((U : Int) / (E : Int)) * (M : Int))) = decide (1000000 < U / E * M) := by
  have hq : U / E ≤ 1000000000000 := Nat.le_trans (Nat.div_le_self _ _) hU
  rw [← Int.natCast_ediv, wi64 _ (by omega)]
  generalize U / E = Q at *
  have hw : Q * M ≤ 1000000000000 * 5000 := Nat.mul_le_mul hq hM
  rw [← Int.natCast_mul, wi64 _ (by omega)]
  generalize Q * M = W at *
  by_cases h : 1000000 < W
  · rw [decide_eq_true h]; simp; omega
  · rw [decide_eq_false h]; simp; omega
theorem ask_bits (U E M : Nat) (hM0 : 1 ≤ M) (hU : U ≤ 1000000000000) : decide ((1000000 : Int) / (M : Int) < wrap64 ((U : Int) / (E : Int))) = decide (1000000 < U / E * M) := by
  have hq : U / E ≤ 1000000000000 := Nat.le_trans (Nat.div_le_self _ _) hU
  have e1 : ((1000000 : Int) / (M : Int)) = ((1000000 / M : Nat) : Int) := by simp
  rw [e1, ← Int.natCast_ediv U E, wi64 _ (by omega)]
  have key : 1000000 / M < U / E ↔ 1000000 < U / E * M := Nat.div_lt_iff_lt_mul (by omega)
  by_cases h : 1000000 < U / E * M
  · have := key.2 h
    rw [decide_eq_true h]; simp; omega
  · have := fun q => h (key.1 q)
    rw [decide_eq_false h]; simp; omega
set_option maxRecDepth 100000 in
set_option maxHeartbeats 2000000 in
theorem checkRounds_any (A A' Af : Option Addr) (c c' cf : Nat) (l l' : List Int) (e m : Int) (f : List Flp) (u : Int) (B : Nat) (w : World) (hB : B ≤ w.heap.size) (hl : l.length ≤ 9223372036854775807) (hl' : l'.length ≤ 9223372036854775807) (hfl : f.length ≤ 9223372036854775807) (h : IR w B A l) (h' : IR w B A' l') (hf : FR w B Af f) :
    Calls Try.prog 102 #[bankV A A' l.length l'.length c c', .agg #[.int .i64 e, .int .i64 m], .slice Af f.length cf, .int .i64 u] w fun e' w' => e' = .returned (.int .i64 (chkR l l' e m f u)) ∧ Below w.heap.size w w' := by
  have HC := Lib.hid (fun (w1 : World) (hb : Below w.heap.size w w1) => checkFlips_any A A' Af c c' cf l l' f B w1 (Nat.le_trans hB hb.size) hl hl' hfl (h.below (hb.mono hB)) (h'.below (hb.mono hB)) (hf.below (hb.mono hB)))
  have hcs := chkR_cases l l' e m f u
  generalize chkR l l' e m f u = R at *
  generalize chkF l l' f = K at *
  unfold bankV at *
  obtain ⟨w0, hw0⟩ : ∃ w0, (w.alloc (.cells #[.slice A l.length c, .slice A' l'.length c'] 52)).alloc (.cells #[.int .i64 e, .int .i64 m] 68) = w0 := ⟨_, rfl⟩
  obtain ⟨hb0, z0, h0, hx0⟩ := boxes2_held _ _ _ _ w w0 hw0
  obtain ⟨p1, p2⟩ := h0.cells
  have HCC := Lib.hid (HC.out _ hb0)
  have HW0 := Lib.hid hw0
  clear HC h h' hf hw0
  have HGO : Hid (∀ w1, Below w0.heap.size w0 w1 → Below w.heap.size w w1 ∧ w1.cell? ⟨w.heap.size + 1, 0, none⟩ = some (.int .i64 e) ∧ w1.cell? ⟨w.heap.size + 1, 1, none⟩ = some (.int .i64 m)) := Lib.hid fun w1 hb1 =>
    ⟨hb0.trans (hb1.mono (by omega)), rcells (hb1.block (w.heap.size + 1) (by omega)) hx0⟩
  rcases hcs with ⟨hK, rfl⟩ | ⟨rfl, h1, rfl⟩ | ⟨rfl, h1, h2, rfl⟩ | ⟨rfl, h1, h2, h3, rfl⟩ | ⟨rfl, E, M, U, rfl, rfl, rfl, h1, h2, h3, hR⟩
  · have hne : (R != 0) = true := by simpa using hK
    go_enter Try.func102, Try.ntmps102
    go_upto_region 1 with fail
    rw [HW0.out]
    go_wp2_with fail
    refine HCC.out.mono ?_
    rintro e' w1 ⟨rfl, hb1⟩
    go_wp2_with fail
    go_ret
    exact ⟨rfl, (HGO.out w1 hb1).1⟩
  · have g1 : decide (1 ≤ e ∧ e ≤ 1000000000000) = false := by simp; omega
    go_enter Try.func102, Try.ntmps102
    go_upto_region 1 with fail
    rw [HW0.out]
    go_wp2_with fail
    refine HCC.out.mono ?_
    rintro e' w1 ⟨rfl, hb1⟩
    obtain ⟨bx, r1, r2⟩ := HGO.out w1 hb1
    clear h1
    go_wp2_with (first | (go_at_call 67; refine (within_any _ _ _ _).mono ?_; rintro e w' ⟨rfl, rfl⟩) | fail)
    go_ret
    exact ⟨rfl, bx⟩
  · have g1 : decide (1 ≤ e ∧ e ≤ 1000000000000) = true := by simp only [h1, decide_true, and_self]
    have g2 : decide (1 ≤ m ∧ m ≤ 5000) = false := by simp; omega
    go_enter Try.func102, Try.ntmps102
    go_upto_region 1 with fail
    rw [HW0.out]
    go_wp2_with fail
    refine HCC.out.mono ?_
    rintro e' w1 ⟨rfl, hb1⟩
    obtain ⟨bx, r1, r2⟩ := HGO.out w1 hb1
    clear h1 h2
    go_wp2_with (first | (go_at_call 67; refine (within_any _ _ _ _).mono ?_; rintro e w' ⟨rfl, rfl⟩) | fail)
    go_ret
    exact ⟨rfl, bx⟩
  · have g1 : decide (1 ≤ e ∧ e ≤ 1000000000000) = true := by simp only [h1, decide_true, and_self]
    have g2 : decide (1 ≤ m ∧ m ≤ 5000) = true := by simp only [h2, decide_true, and_self]
    have g3 : decide (0 ≤ u ∧ u ≤ 1000000000000) = false := by simp; omega
    go_enter Try.func102, Try.ntmps102
    go_upto_region 1 with fail
    rw [HW0.out]
    go_wp2_with fail
    refine HCC.out.mono ?_
    rintro e' w1 ⟨rfl, hb1⟩
    obtain ⟨bx, r1, r2⟩ := HGO.out w1 hb1
    clear h1 h2 h3
    go_wp2_with (first | (go_at_call 67; refine (within_any _ _ _ _).mono ?_; rintro e w' ⟨rfl, rfl⟩) | fail)
    go_ret
    exact ⟨rfl, bx⟩
  · have g1 : decide ((1 : Int) ≤ (E : Int) ∧ (E : Int) ≤ 1000000000000) = true := by simp; omega
    have g2 : decide ((1 : Int) ≤ (M : Int) ∧ (M : Int) ≤ 5000) = true := by simp; omega
    have g3 : decide ((0 : Int) ≤ (U : Int) ∧ (U : Int) ≤ 1000000000000) = true := by simp; omega
    have hUi : (U : Int) ≤ 1000000000000 := by omega
    have HG := Lib.hid (work_bits U E M h2.2 h3)
    have HR := Lib.hid hR
    have hE0 : ((E : Int) == 0) = false := beq_eq_false_iff_ne.2 (by omega)
    obtain ⟨hE1, hE2⟩ := h1
    obtain ⟨hM1, hM2⟩ := h2
    have hEi : (1 : Int) ≤ (E : Int) := by omega
    have hEj : (E : Int) ≤ 1000000000000 := by omega
    have hMi : (1 : Int) ≤ (M : Int) := by omega
    have hMj : (M : Int) ≤ 5000 := by omega
    have hEne : ¬ (E : Int) = 0 := by omega
    clear hR
    go_enter Try.func102, Try.ntmps102
    go_upto_region 1 with fail
    rw [HW0.out]
    go_wp2_with fail
    refine HCC.out.mono ?_
    rintro e' w1 ⟨rfl, hb1⟩
    obtain ⟨bx, r1, r2⟩ := HGO.out w1 hb1
    go_upto_region 8 with (first | (go_at_call 67; refine (within_any _ _ _ _).mono ?_; rintro e w' ⟨rfl, rfl⟩) | fail)
    clear g1 g2 g3
    go_quiet (fail)
    all_goals
      simp only [HG.out]
      clear HG
      by_cases h4 : 1000000 < U / E * M
      · have HR2 : Hid (R = 2) := Lib.hid (by have := HR.out; rw [if_pos h4] at this; exact this)
        rw [decide_eq_true h4]
        clear h4
        go_wp2_with fail
        go_ret
        exact ⟨ret_int HR2.out.symm, below_draws bx _⟩
      · have HR2 : Hid (R = 0) := Lib.hid (by have := HR.out; rw [if_neg h4] at this; exact this)
        rw [decide_eq_false h4]
        clear h4
        go_wp2_with fail
        go_ret
        exact ⟨ret_int HR2.out.symm, below_draws bx _⟩
end Go.Proofs.Yteelepjhlhifhaa
