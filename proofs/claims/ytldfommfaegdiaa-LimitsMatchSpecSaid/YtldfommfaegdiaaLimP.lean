/- the program's checkLimit, stateOf, StateOf. -/
import Derived.Test.YtldfommfaegdiaaLimRow
import Derived.Test.YtldfommfaegdiaaRName
import Derived.Test.YtldfommfaegdiaaMinMax
import Derived.Deep.DeepCutAuto
import Derived.Deep.RegionHeld3
namespace Go.Proofs.Ytldfommfaegdiaa
open Go.RowKit

attribute [local go_sem] setCell_draws alloc_draws
set_option maxHeartbeats 400000 in
theorem isValue_any (n : Int) (w : World) :
    Calls Try.prog 25 #[.int .i64 n] w fun e w' => e = .returned (.bool (valD n)) ∧ w = w' := by
  have H := Lib.hid (within_any n (-1000000000) 1000000000)
  unfold valD
  generalize decide (-1000000000 ≤ n ∧ n ≤ 1000000000) = r at *
  go_enter Try.func25, Try.ntmps25
  go_wp2_with fail
  refine (H.out _).mono ?_
  rintro e w1 ⟨rfl, rfl⟩
  go_wp2_with fail
  go_ret
  exact ⟨rfl, rfl⟩
set_option maxHeartbeats 1000000 in
theorem stateOf_any (x : Lim) (v : Int) (w : World) :
    Calls Try.prog 26 #[limV x.p x.ll x.lo x.hi x.hh x.ct x.cl x.bk, .int .i64 v] w fun e w' => e = .returned (.int .i64 (stS x v)) ∧ Below w.heap.size w w' := by
  have H1 := Lib.hid (within_any v x.ll x.hh)
  have H2 := Lib.hid (within_any v x.lo x.hi)
  have HS := Lib.hid (show stS x v = if decide (x.ll ≤ v ∧ v ≤ x.hh) = false then 2 else if decide (x.lo ≤ v ∧ v ≤ x.hi) = false then 1 else 0 from rfl)
  generalize stS x v = r at *
  generalize decide (x.ll ≤ v ∧ v ≤ x.hh) = b1 at *
  generalize decide (x.lo ≤ v ∧ v ≤ x.hi) = b2 at *
  obtain ⟨p, ll, lo, hi, hh, ct, cl, bk⟩ := x
  unfold limV
  simp only at H1 H2 ⊢
  go_enter Try.func26, Try.ntmps26
  go_wp2_with fail
  refine (H1.out _).mono ?_
  rintro e w1 ⟨rfl, rfl⟩
  cases b1
  · have HR : Hid (r = 2) := Lib.hid (by rw [HS.out, if_pos rfl])
    go_wp2_with fail
    go_ret
    exact ⟨ret_int HR.out.symm, (Below.refl _ _).alloc (Nat.le_refl _) _⟩
  · go_wp2_with fail
    refine (H2.out _).mono ?_
    rintro e w2 ⟨rfl, rfl⟩
    cases b2
    · have HR : Hid (r = 1) := Lib.hid (by rw [HS.out, if_neg (by simp), if_pos rfl])
      go_wp2_with fail
      go_ret
      exact ⟨ret_int HR.out.symm, (Below.refl _ _).alloc (Nat.le_refl _) _⟩
    · have HR : Hid (r = 0) := Lib.hid (by rw [HS.out, if_neg (by simp), if_neg (by simp)])
      go_wp2_with fail
      go_ret
      exact ⟨ret_int HR.out.symm, (Below.refl _ _).alloc (Nat.le_refl _) _⟩
theorem vals4 (a b c d : Int) : (valD (minL [a, b, c, d]) && valD (maxL [a, b, c, d])) = ((valD a && valD b) && (valD c && valD d)) := by
  have e1 : minL [a, b, c, d] = min (min (min a b) c) d := rfl
  have e2 : maxL [a, b, c, d] = max (max (max a b) c) d := rfl
  rw [e1, e2, Bool.eq_iff_iff]
  unfold valD
  simp only [Bool.and_eq_true, decide_eq_true_eq]
  omega
theorem ord4 {a b c d : Int} {r : Bool} (h : r = true ↔ ∀ i (h : i + 1 < [a, b, c, d].length), [a, b, c, d][i] ≤ [a, b, c, d][i + 1]) : r = decide (a ≤ b ∧ b ≤ c ∧ c ≤ d) := by
  rw [Bool.eq_iff_iff, h, decide_eq_true_eq]
  constructor
  · intro h
    exact ⟨h 0 (by simp), h 1 (by simp), h 2 (by simp)⟩
  · rintro ⟨h1, h2, h3⟩ i hi
    match i, hi with
    | 0, _ => exact h1
    | 1, _ => exact h2
    | 2, _ => exact h3
set_option maxRecDepth 100000 in
set_option maxHeartbeats 4000000 in
theorem checkLimit_any (x : Lim) (hp : x.p.size ≤ 9223372036854775807) (w : World) :
    Calls Try.prog 24 #[limV x.p x.ll x.lo x.hi x.hh x.ct x.cl x.bk] w fun e w' => e = .returned (.int .i64 (limF x)) ∧ Below w.heap.size w w' := by
  have HF := Lib.hid (show limF x = if isN x.p.data.toList = false then 5 else if x.vals = false then 1 else if x.ord = false then 8 else if x.cnt = false then 1 else 0 from rfl)
  have HN := Lib.hid (fun w => isName_any x.p w hp)
  have HV := Lib.hid (vals4 x.ll x.lo x.hi x.hh)
  have HVX := Lib.hid (show x.vals = ((valD x.ll && valD x.lo) && (valD x.hi && valD x.hh)) from rfl)
  have HOX := Lib.hid (show x.ord = decide (x.ll ≤ x.lo ∧ x.lo ≤ x.hi ∧ x.hi ≤ x.hh) from rfl)
  have HCX := Lib.hid (show x.cnt = ((decide (1 ≤ x.ct ∧ x.ct ≤ 100) && decide (1 ≤ x.cl ∧ x.cl ≤ 100)) && decide (0 ≤ x.bk ∧ x.bk ≤ 1000000000)) from rfl)
  have HI1 := Lib.hid (isValue_any (minL [x.ll, x.lo, x.hi, x.hh]))
  have HI2 := Lib.hid (isValue_any (maxL [x.ll, x.lo, x.hi, x.hh]))
  have HC1 := Lib.hid (within_any x.ct 1 100)
  have HC2 := Lib.hid (within_any x.cl 1 100)
  have HC3 := Lib.hid (within_any x.bk 0 1000000000)
  obtain ⟨W, hW⟩ : ∃ W, W = (w.alloc (.cells (limC x.p x.ll x.lo x.hi x.hh x.ct x.cl x.bk) 25)).alloc (.cells #[.int .i64 x.ll, .int .i64 x.lo, .int .i64 x.hi, .int .i64 x.hh] 3) := ⟨_, rfl⟩
  have hbW : Below w.heap.size w W := by rw [hW]; exact ((Below.refl _ _).alloc (Nat.le_refl _) _).alloc (by simp) _
  have hzW : W.heap.size = w.heap.size + 2 := by rw [hW]; simp
  have hrow : IR W (w.heap.size + 2) (some ⟨w.heap.size + 1, 0, none⟩) [x.ll, x.lo, x.hi, x.hh] := by
    have := Cells.fresh (w.alloc (.cells (limC x.p x.ll x.lo x.hi x.hh x.ct x.cl x.bk) 25)) ([x.ll, x.lo, x.hi, x.hh].map iv) 3 (0, 0) #[.int .i64 x.ll, .int .i64 x.lo, .int .i64 x.hi, .int .i64 x.hh] rfl
    rw [hW]
    simpa [IR] using this
  have b0 : W.cell? ⟨w.heap.size, 0, none⟩ = some (.string x.p) := by rw [hW]; simp [limC]
  have b5 : W.cell? ⟨w.heap.size, 5, none⟩ = some (.int .i64 x.ct) := by rw [hW]; simp [limC]
  have b6 : W.cell? ⟨w.heap.size, 6, none⟩ = some (.int .i64 x.cl) := by rw [hW]; simp [limC]
  have b7 : W.cell? ⟨w.heap.size, 7, none⟩ = some (.int .i64 x.bk) := by rw [hW]; simp [limC]
  unfold limC at hW
  have HW := Lib.hid hW
  clear hW hp
  generalize limF x = r at *
  generalize isN x.p.data.toList = bN at *
  generalize x.vals = bV at *
  generalize x.ord = bO at *
  generalize x.cnt = bC at *
  obtain ⟨p, ll, lo, hi, hh, ct, cl, bk⟩ := x
  unfold limV
  simp only at HN HV HVX HOX HCX HI1 HI2 HC1 HC2 HC3 HW hrow b0 b5 b6 b7 ⊢
  have HM1 := Lib.hid (fun (w' : World) (hb : Below W.heap.size W w') => min_any (some ⟨w.heap.size + 1, 0, none⟩) 4 [ll, lo, hi, hh] _ w' (by simp) (by simp) (hrow.below (hb.mono (by omega))))
  have HM2 := Lib.hid (fun (w' : World) (hb : Below W.heap.size W w') => max_any (some ⟨w.heap.size + 1, 0, none⟩) 4 [ll, lo, hi, hh] _ w' (by simp) (by simp) (hrow.below (hb.mono (by omega))))
  have HM3 := Lib.hid (fun (w' : World) (hb : Below W.heap.size W w') => sorted_any (some ⟨w.heap.size + 1, 0, none⟩) 4 [ll, lo, hi, hh] _ w' (by simp) (by simp) (hrow.below (hb.mono (by omega))))
  unfold SortedPost SrtE at HM3
  simp only [List.length_cons, List.length_nil, Nat.zero_add, Nat.reduceAdd] at HM1 HM2 HM3
  generalize minL [ll, lo, hi, hh] = mn at *
  generalize maxL [ll, lo, hi, hh] = mx at *
  generalize valD mn = v1 at *
  generalize valD mx = v2 at *
  have HBW := Lib.hid hbW
  clear hrow hbW
  go_enter Try.func24, Try.ntmps24
  go_upto_region 2 with fail
  rw [← HW.out]
  go_wp2_with fail
  refine (HN.out _).mono ?_
  rintro e w2 ⟨rfl, hb2⟩
  have c5 := (Below.at_ hb2 w.heap.size (by omega) 5).trans b5
  have c6 := (Below.at_ hb2 w.heap.size (by omega) 6).trans b6
  have c7 := (Below.at_ hb2 w.heap.size (by omega) 7).trans b7
  have hbw2 := HBW.out.trans (hb2.mono (by omega))
  clear b0 b5 b6 b7
  cases bN
  · have HR : Hid (r = 5) := Lib.hid (by rw [HF.out, if_pos rfl])
    go_wp2_with fail
    go_ret
    exact ⟨ret_int HR.out.symm, hbw2⟩
  · have HVE := Lib.hid (HV.out.trans HVX.out.symm)
    go_wp2_with fail
    refine (HM1.out _ hb2).mono ?_
    rintro e w3 ⟨rfl, rfl⟩
    go_wp2_with fail
    refine (HI1.out _).mono ?_
    rintro e w3 ⟨rfl, rfl⟩
    cases v1
    · have HR : Hid (r = 1) := Lib.hid (by have := HVE.out; rw [HF.out, if_neg (by simp), if_pos (by rw [← this]; rfl)])
      go_wp2_with fail
      go_ret
      exact ⟨ret_int HR.out.symm, hbw2⟩
    · go_wp2_with fail
      refine (HM2.out _ hb2).mono ?_
      rintro e w3 ⟨rfl, rfl⟩
      go_wp2_with fail
      refine (HI2.out _).mono ?_
      rintro e w3 ⟨rfl, rfl⟩
      cases v2
      · have HR : Hid (r = 1) := Lib.hid (by have := HVE.out; rw [HF.out, if_neg (by simp), if_pos (by rw [← this]; rfl)])
        go_wp2_with fail
        go_ret
        exact ⟨ret_int HR.out.symm, hbw2⟩
      · have HVT : Hid (bV = true) := Lib.hid (by rw [← HVE.out]; rfl)
        go_wp2_with fail
        refine (HM3.out _ hb2).mono ?_
        rintro e w3 ⟨⟨b, rfl, hb⟩, d, rfl⟩
        have HBE := Lib.hid ((ord4 hb).trans HOX.out.symm)
        clear hb
        cases b
        · have HR : Hid (r = 8) := Lib.hid (by rw [HF.out, if_neg (by simp), if_neg (by rw [HVT.out]; simp), if_pos HBE.out.symm])
          go_wp2_with fail
          go_ret
          exact ⟨ret_int HR.out.symm, below_draws hbw2 _⟩
        · have HRC : Hid (r = if bC = false then 1 else 0) := Lib.hid (by rw [HF.out, if_neg (by simp), if_neg (by rw [HVT.out]; simp), if_neg (by rw [← HBE.out]; simp)])
          generalize decide (1 ≤ ct ∧ ct ≤ 100) = q1 at *
          generalize decide (1 ≤ cl ∧ cl ≤ 100) = q2 at *
          generalize decide (0 ≤ bk ∧ bk ≤ 1000000000) = q3 at *
          go_wp2_with fail
          refine (HC1.out _).mono ?_
          rintro e w3 ⟨rfl, rfl⟩
          cases q1
          · have HR : Hid (r = 1) := Lib.hid (by rw [HRC.out, if_pos (by rw [HCX.out]; rfl)])
            go_wp2_with fail
            go_ret
            exact ⟨ret_int HR.out.symm, below_draws hbw2 _⟩
          · go_wp2_with fail
            refine (HC2.out _).mono ?_
            rintro e w3 ⟨rfl, rfl⟩
            cases q2
            · have HR : Hid (r = 1) := Lib.hid (by rw [HRC.out, if_pos (by rw [HCX.out]; rfl)])
              go_wp2_with fail
              go_ret
              exact ⟨ret_int HR.out.symm, below_draws hbw2 _⟩
            · go_wp2_with fail
              refine (HC3.out _).mono ?_
              rintro e w3 ⟨rfl, rfl⟩
              cases q3
              · have HR : Hid (r = 1) := Lib.hid (by rw [HRC.out, if_pos (by rw [HCX.out]; rfl)])
                go_wp2_with fail
                go_ret
                exact ⟨ret_int HR.out.symm, below_draws hbw2 _⟩
              · have HR : Hid (r = 0) := Lib.hid (by rw [HRC.out, if_neg (by rw [HCX.out]; simp)])
                go_wp2_with fail
                go_ret
                exact ⟨ret_int HR.out.symm, below_draws hbw2 _⟩
end Go.Proofs.Ytldfommfaegdiaa
