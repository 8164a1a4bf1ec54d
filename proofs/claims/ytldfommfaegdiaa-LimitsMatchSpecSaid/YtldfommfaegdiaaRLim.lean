/- the reference's CheckLimits, StateOf. -/
import Derived.Test.YtldfommfaegdiaaSamsP
namespace Go.Proofs.Ytldfommfaegdiaa
open Go.RowKit

attribute [local go_sem] setCell_draws alloc_draws
set_option maxHeartbeats 400000 in
theorem rvalue_any (n : Int) (w : World) :
    Calls Try.prog 27 #[.int .i64 n] w fun e w' => e = .returned (.bool (valD n)) ∧ w = w' := by
  have H := Lib.hid (rwithin_any n (-1000000000) 1000000000)
  unfold valD
  generalize decide (-1000000000 ≤ n ∧ n ≤ 1000000000) = r at *
  go_enter Try.func27, Try.ntmps27
  go_wp2_with fail
  refine (H.out _).mono ?_
  rintro e w1 ⟨rfl, rfl⟩
  go_wp2_with fail
  go_ret
  exact ⟨rfl, rfl⟩
set_option maxHeartbeats 1000000 in
theorem rstateOf_any (x : Lim) (v : Int) (w : World) :
    Calls Try.prog 28 #[limV x.p x.ll x.lo x.hi x.hh x.ct x.cl x.bk, .int .i64 v] w fun e w' => e = .returned (.int .i64 (stS x v)) ∧ Below w.heap.size w w' := by
  have HS := Lib.hid (show stS x v = if decide (x.ll ≤ v ∧ v ≤ x.hh) = false then 2 else if decide (x.lo ≤ v ∧ v ≤ x.hi) = false then 1 else 0 from rfl)
  generalize stS x v = r at *
  obtain ⟨p, ll, lo, hi, hh, ct, cl, bk⟩ := x
  unfold limV
  simp only at HS ⊢
  by_cases h1 : v < ll
  · have HR : Hid (r = 2) := Lib.hid (by rw [HS.out, if_pos (decide_eq_false (by omega))])
    have d1 : decide (v < ll) = true := decide_eq_true h1
    go_enter Try.func28, Try.ntmps28
    go_wp2_with fail
    go_ret
    exact ⟨ret_int HR.out.symm, (Below.refl _ _).alloc (Nat.le_refl _) _⟩
  · have d1 : decide (v < ll) = false := decide_eq_false h1
    by_cases h2 : hh < v
    · have HR : Hid (r = 2) := Lib.hid (by rw [HS.out, if_pos (decide_eq_false (by omega))])
      have d2 : decide (hh < v) = true := decide_eq_true h2
      go_enter Try.func28, Try.ntmps28
      go_wp2_with fail
      go_ret
      exact ⟨ret_int HR.out.symm, (Below.refl _ _).alloc (Nat.le_refl _) _⟩
    · have d2 : decide (hh < v) = false := decide_eq_false h2
      by_cases h3 : v < lo
      · have HR : Hid (r = 1) := Lib.hid (by rw [HS.out, if_neg (by rw [decide_eq_true (by omega)]; simp), if_pos (decide_eq_false (by omega))])
        have d3 : decide (v < lo) = true := decide_eq_true h3
        go_enter Try.func28, Try.ntmps28
        go_wp2_with fail
        go_ret
        exact ⟨ret_int HR.out.symm, (Below.refl _ _).alloc (Nat.le_refl _) _⟩
      · have d3 : decide (v < lo) = false := decide_eq_false h3
        by_cases h4 : hi < v
        · have HR : Hid (r = 1) := Lib.hid (by rw [HS.out, if_neg (by rw [decide_eq_true (by omega)]; simp), if_pos (decide_eq_false (by omega))])
          have d4 : decide (hi < v) = true := decide_eq_true h4
          go_enter Try.func28, Try.ntmps28
          go_wp2_with fail
          go_ret
          exact ⟨ret_int HR.out.symm, (Below.refl _ _).alloc (Nat.le_refl _) _⟩
        · have d4 : decide (hi < v) = false := decide_eq_false h4
          have HR : Hid (r = 0) := Lib.hid (by rw [HS.out, if_neg (by rw [decide_eq_true (by omega)]; simp), if_neg (by rw [decide_eq_true (by omega)]; simp)])
          go_enter Try.func28, Try.ntmps28
          go_wp2_with fail
          go_ret
          exact ⟨ret_int HR.out.symm, (Below.refl _ _).alloc (Nat.le_refl _) _⟩
set_option maxRecDepth 100000 in
set_option maxHeartbeats 4000000 in
theorem r_CheckLimits_any (A : Option Addr) (l : List Lim) (c B : Nat) (w : World) (hB : B ≤ w.heap.size) (hll : l.length ≤ 9223372036854775807) (hps : ∀ x ∈ l, x.p.size ≤ 9223372036854775807) (h : SR Lim.cells w B A l) :
    Calls Try.prog 12 #[.slice A l.length c] w fun e w' => e = .returned (.int .i64 (limsF l)) ∧ Below w.heap.size w w' := by
  have HF := Lib.hid (show limsF l = if 200 < l.length then 2 else chkG limF (fun q x => leN x.p q.p) none l from rfl)
  have HPS := Lib.hid hps
  clear hps
  by_cases h5 : 200 < l.length
  · have i5 : (200 : Int) < (l.length : Int) := by omega
    have hf : limsF l = 2 := by rw [HF.out, if_pos h5]
    rw [hf]
    clear hf HF
    go_enter Try.func12, Try.ntmps12
    go_wp2_with fail
    go_ret
    exact ⟨rfl, Below.refl _ _⟩
  · have i5 : (l.length : Int) ≤ 200 := by omega
    have hf : limsF l = chkG limF (fun q x => leN x.p q.p) none l := by rw [HF.out, if_neg h5]
    rw [hf]
    obtain ⟨G, hG⟩ : ∃ G, G = chkG limF (fun q x => leN x.p q.p) none l := ⟨_, rfl⟩
    rw [← hG]
    have HG := Lib.hid hG
    have H := Lib.hid h
    clear hf HF hG h
    go_enter Try.func12, Try.ntmps12
    go_wp2_with fail
    go_loopw [3, 4] (fun i _ wr => LimAt l w i wr) (fun i _ _ => l.length - (intOf i).toNat)
    case atStart => exact ⟨0, Nat.zero_le _, rfl, rfl, Below.refl _ _⟩
    case round =>
      obtain ⟨k, hk, rfl, hE, hbr⟩ := hrel
      have hzr := hbr.size
      by_cases hlt : k < l.length
      · obtain ⟨ad, hA, hbk, a0, a1, a2, a3, a4, a5, a6, a7⟩ := lims_get (H.out.below (hbr.mono hB)) k hlt
        have hi0 : (0 : Int) ≤ (k : Int) := by omega
        have hi1 : (k : Int) < (l.length : Int) := by omega
        have HN := Lib.hid (fun w => risName_any l[k].p w (HPS.out _ (List.getElem_mem hlt)))
        have HFX := Lib.hid (show limF l[k] = if isN l[k].p.data.toList = false then 5 else if l[k].vals = false then 1 else if l[k].ord = false then 8 else if l[k].cnt = false then 1 else 0 from rfl)
        have HVX := Lib.hid (show l[k].vals = ((valD l[k].ll && valD l[k].lo) && (valD l[k].hi && valD l[k].hh)) from rfl)
        have HOX := Lib.hid (show l[k].ord = decide (l[k].ll ≤ l[k].lo ∧ l[k].lo ≤ l[k].hi ∧ l[k].hi ≤ l[k].hh) from rfl)
        have HCX := Lib.hid (show l[k].cnt = ((decide (1 ≤ l[k].ct ∧ l[k].ct ≤ 100) && decide (1 ≤ l[k].cl ∧ l[k].cl ≤ 100)) && decide (0 ≤ l[k].bk ∧ l[k].bk ≤ 1000000000)) from rfl)
        have HI1 := Lib.hid (rvalue_any l[k].ll)
        have HI2 := Lib.hid (rvalue_any l[k].lo)
        have HI3 := Lib.hid (rvalue_any l[k].hi)
        have HI4 := Lib.hid (rvalue_any l[k].hh)
        have HC1 := Lib.hid (rwithin_any l[k].ct 1 100)
        have HC2 := Lib.hid (rwithin_any l[k].cl 1 100)
        have HC3 := Lib.hid (rwithin_any l[k].bk 0 1000000000)
        have HPV : Hid (∀ J, k = J + 1 → ∃ q : Lim, l[J]? = some q ∧ ∀ w', Below wr.heap.size wr w' → w'.cell? (ad.add (J * 8)) = some (.string q.p)) := Lib.hid (fun J hJ => by
          refine ⟨l[J]'(by omega), List.getElem?_eq_getElem _, fun w' hb' => ?_⟩
          obtain ⟨ad', hA', -, d0, -⟩ := lims_get (H.out.below ((hbr.trans (hb'.mono hzr)).mono hB)) J (by omega)
          rw [hA] at hA'
          obtain rfl : ad = ad' := by injection hA'
          exact d0)
        have HOWN : Hid (limF l[k] ≠ 0 → G = limF l[k]) := Lib.hid (fun hh => by rw [HG.out, hE]; exact chk_own _ _ l k hlt hh)
        have HZ : Hid (limF l[k] = 0 → k = 0 → chkG limF (fun q x => leN x.p q.p) none l = chkG limF (fun q x => leN x.p q.p) (prevO l (k + 1)) (l.drop (k + 1))) := Lib.hid (fun hh hk0 => by subst hk0; rw [hE]; exact chk_zero _ _ l hlt hh)
        have HBD : Hid (∀ J q, k = J + 1 → l[J]? = some q → limF l[k] = 0 → leN l[k].p q.p = true → G = 8) := Lib.hid (fun J q hJ hq hh hb => by
          subst hJ
          have hJl : J < l.length := by omega
          rw [List.getElem?_eq_getElem hJl] at hq
          obtain rfl := Option.some.inj hq
          rw [HG.out, hE]
          exact chk_bad _ _ l J hlt hh hb)
        have HGD : Hid (∀ J q, k = J + 1 → l[J]? = some q → limF l[k] = 0 → leN l[k].p q.p = false → chkG limF (fun q x => leN x.p q.p) none l = chkG limF (fun q x => leN x.p q.p) (prevO l (k + 1)) (l.drop (k + 1))) := Lib.hid (fun J q hJ hq hh hb => by
          subst hJ
          have hJl : J < l.length := by omega
          rw [List.getElem?_eq_getElem hJl] at hq
          obtain rfl := Option.some.inj hq
          rw [hE]
          exact chk_good _ _ l J hlt hh hb)
        subst hA
        clear hE
        generalize limF l[k] = F at *
        generalize isN l[k].p.data.toList = bN at *
        generalize l[k].vals = bV at *
        generalize l[k].ord = bO at *
        generalize l[k].cnt = bC at *
        generalize l[k] = x at *
        obtain ⟨p, ll, lo, hi, hh, ct, cl, bk⟩ := x
        simp only at a0 a1 a2 a3 a4 a5 a6 a7 HBD HGD HN HVX HOX HCX HI1 HI2 HI3 HI4 HC1 HC2 HC3
        obtain ⟨W, hW⟩ : ∃ W, W = wr.alloc (.cells (limC p ll lo hi hh ct cl bk) 25) := ⟨_, rfl⟩
        have hbW : Below wr.heap.size wr W := by rw [hW]; exact (Below.refl _ _).alloc (Nat.le_refl _) _
        have hzW : W.heap.size = wr.heap.size + 1 := by rw [hW]; simp
        have b0 : W.cell? ⟨wr.heap.size, 0, none⟩ = some (.string p) := by rw [hW]; simp [limC]
        have b1 : W.cell? ⟨wr.heap.size, 1, none⟩ = some (.int .i64 ll) := by rw [hW]; simp [limC]
        have b2 : W.cell? ⟨wr.heap.size, 2, none⟩ = some (.int .i64 lo) := by rw [hW]; simp [limC]
        have b3 : W.cell? ⟨wr.heap.size, 3, none⟩ = some (.int .i64 hi) := by rw [hW]; simp [limC]
        have b4 : W.cell? ⟨wr.heap.size, 4, none⟩ = some (.int .i64 hh) := by rw [hW]; simp [limC]
        have b5 : W.cell? ⟨wr.heap.size, 5, none⟩ = some (.int .i64 ct) := by rw [hW]; simp [limC]
        have b6 : W.cell? ⟨wr.heap.size, 6, none⟩ = some (.int .i64 cl) := by rw [hW]; simp [limC]
        have b7 : W.cell? ⟨wr.heap.size, 7, none⟩ = some (.int .i64 bk) := by rw [hW]; simp [limC]
        unfold limC at hW
        have HW := Lib.hid hW
        clear hW
        go_upto_region 7 with fail
        rw [← HW.out]
        clear a0 a1 a2 a3 a4 a5 a6 a7
        have hbr2 := hbW
        have hbw2 := hbr.trans (hbr2.mono hzr)
        clear hbW HW hzW
        go_wp2_with fail
        refine (HN.out _).mono ?_
        rintro e w2 ⟨rfl, rfl⟩
        cases bN
        · have HF1 : Hid (F = 5) := Lib.hid (by rw [HFX.out, if_pos rfl])
          have HE2 : Hid (G = 5) := Lib.hid (by rw [HOWN.out (by rw [HF1.out]; simp), HF1.out])
          go_wp2_with fail
          go_ret
          exact ⟨ret_int HE2.out.symm, hbw2⟩
        · generalize valD ll = x1 at *
          generalize valD lo = x2 at *
          generalize valD hi = x3 at *
          generalize valD hh = x4 at *
          generalize decide (1 ≤ ct ∧ ct ≤ 100) = q1 at *
          generalize decide (1 ≤ cl ∧ cl ≤ 100) = q2 at *
          generalize decide (0 ≤ bk ∧ bk ≤ 1000000000) = q3 at *
          go_wp2_with fail
          refine (HI1.out _).mono ?_
          rintro e w2 ⟨rfl, rfl⟩
          cases x1
          · have HF1 : Hid (F = 1) := Lib.hid (by rw [HFX.out, if_neg (by simp), if_pos (by rw [HVX.out]; rfl)])
            have HE2 : Hid (G = 1) := Lib.hid (by rw [HOWN.out (by rw [HF1.out]; simp), HF1.out])
            go_wp2_with fail
            go_ret
            exact ⟨ret_int HE2.out.symm, hbw2⟩
          · skip
            go_wp2_with fail
            refine (HI2.out _).mono ?_
            rintro e w2 ⟨rfl, rfl⟩
            cases x2
            · have HF1 : Hid (F = 1) := Lib.hid (by rw [HFX.out, if_neg (by simp), if_pos (by rw [HVX.out]; simp)])
              have HE2 : Hid (G = 1) := Lib.hid (by rw [HOWN.out (by rw [HF1.out]; simp), HF1.out])
              go_wp2_with fail
              go_ret
              exact ⟨ret_int HE2.out.symm, hbw2⟩
            · skip
              go_wp2_with fail
              refine (HI3.out _).mono ?_
              rintro e w2 ⟨rfl, rfl⟩
              cases x3
              · have HF1 : Hid (F = 1) := Lib.hid (by rw [HFX.out, if_neg (by simp), if_pos (by rw [HVX.out]; simp)])
                have HE2 : Hid (G = 1) := Lib.hid (by rw [HOWN.out (by rw [HF1.out]; simp), HF1.out])
                go_wp2_with fail
                go_ret
                exact ⟨ret_int HE2.out.symm, hbw2⟩
              · skip
                go_wp2_with fail
                refine (HI4.out _).mono ?_
                rintro e w2 ⟨rfl, rfl⟩
                cases x4
                · have HF1 : Hid (F = 1) := Lib.hid (by rw [HFX.out, if_neg (by simp), if_pos (by rw [HVX.out]; simp)])
                  have HE2 : Hid (G = 1) := Lib.hid (by rw [HOWN.out (by rw [HF1.out]; simp), HF1.out])
                  go_wp2_with fail
                  go_ret
                  exact ⟨ret_int HE2.out.symm, hbw2⟩
                · skip
                  have HVT : Hid (bV = true) := Lib.hid (by rw [HVX.out]; rfl)
                  by_cases o1 : lo < ll
                  · have do1 : decide (lo < ll) = true := decide_eq_true o1
                    have HF1 : Hid (F = 8) := Lib.hid (by rw [HFX.out, if_neg (by simp), if_neg (by rw [HVT.out]; simp), if_pos (by rw [HOX.out]; exact decide_eq_false (by omega))])
                    have HE2 : Hid (G = 8) := Lib.hid (by rw [HOWN.out (by rw [HF1.out]; simp), HF1.out])
                    go_wp2_with fail
                    go_ret
                    exact ⟨ret_int HE2.out.symm, hbw2⟩
                  · have do1 : decide (lo < ll) = false := decide_eq_false o1
                    by_cases o2 : hi < lo
                    · have do2 : decide (hi < lo) = true := decide_eq_true o2
                      have HF1 : Hid (F = 8) := Lib.hid (by rw [HFX.out, if_neg (by simp), if_neg (by rw [HVT.out]; simp), if_pos (by rw [HOX.out]; exact decide_eq_false (by omega))])
                      have HE2 : Hid (G = 8) := Lib.hid (by rw [HOWN.out (by rw [HF1.out]; simp), HF1.out])
                      go_wp2_with fail
                      go_ret
                      exact ⟨ret_int HE2.out.symm, hbw2⟩
                    · have do2 : decide (hi < lo) = false := decide_eq_false o2
                      by_cases o3 : hh < hi
                      · have do3 : decide (hh < hi) = true := decide_eq_true o3
                        have HF1 : Hid (F = 8) := Lib.hid (by rw [HFX.out, if_neg (by simp), if_neg (by rw [HVT.out]; simp), if_pos (by rw [HOX.out]; exact decide_eq_false (by omega))])
                        have HE2 : Hid (G = 8) := Lib.hid (by rw [HOWN.out (by rw [HF1.out]; simp), HF1.out])
                        go_wp2_with fail
                        go_ret
                        exact ⟨ret_int HE2.out.symm, hbw2⟩
                      · have do3 : decide (hh < hi) = false := decide_eq_false o3
                        have HOT : Hid (bO = true) := Lib.hid (by rw [HOX.out]; exact decide_eq_true (by omega))
                        have HRC : Hid (F = if bC = false then 1 else 0) := Lib.hid (by rw [HFX.out, if_neg (by simp), if_neg (by rw [HVT.out]; simp), if_neg (by rw [HOT.out]; simp)])
                        go_wp2_with fail
                        refine (HC1.out _).mono ?_
                        rintro e w2 ⟨rfl, rfl⟩
                        cases q1
                        · have HF1 : Hid (F = 1) := Lib.hid (by rw [HRC.out, if_pos (by rw [HCX.out]; rfl)])
                          have HE2 : Hid (G = 1) := Lib.hid (by rw [HOWN.out (by rw [HF1.out]; simp), HF1.out])
                          go_wp2_with fail
                          go_ret
                          exact ⟨ret_int HE2.out.symm, hbw2⟩
                        · skip
                          go_wp2_with fail
                          refine (HC2.out _).mono ?_
                          rintro e w2 ⟨rfl, rfl⟩
                          cases q2
                          · have HF1 : Hid (F = 1) := Lib.hid (by rw [HRC.out, if_pos (by rw [HCX.out]; simp)])
                            have HE2 : Hid (G = 1) := Lib.hid (by rw [HOWN.out (by rw [HF1.out]; simp), HF1.out])
                            go_wp2_with fail
                            go_ret
                            exact ⟨ret_int HE2.out.symm, hbw2⟩
                          · skip
                            go_wp2_with fail
                            refine (HC3.out _).mono ?_
                            rintro e w2 ⟨rfl, rfl⟩
                            cases q3
                            · have HF1 : Hid (F = 1) := Lib.hid (by rw [HRC.out, if_pos (by rw [HCX.out]; simp)])
                              have HE2 : Hid (G = 1) := Lib.hid (by rw [HOWN.out (by rw [HF1.out]; simp), HF1.out])
                              go_wp2_with fail
                              go_ret
                              exact ⟨ret_int HE2.out.symm, hbw2⟩
                            · skip
                              have HF0 : Hid (F = 0) := Lib.hid (by rw [HRC.out, if_neg (by rw [HCX.out]; simp)])
                              clear b1 b2 b3 b4 b5 b6 b7 do1 do2 do3 o1 o2 o3
                              rcases Nat.eq_zero_or_pos k with hk0 | hk0
                              · have HE2 := Lib.hid (HZ.out HF0.out hk0)
                                have z0 : ¬ (0 : Int) < (k : Int) := by omega
                                have z1 : decide (0 < k) = false := by simp; omega
                                have z2 : decide ((0 : Int) < (k : Int)) = false := by simp; omega
                                clear hk0
                                go_wp2_with fail
                                go_quiet (fail)
                                go_wp2_with fail
                                go_roundw
                                case rel => exact ⟨k + 1, by omega, by go_num, HE2.out, below_draws hbw2 _⟩
                                case measure => simp [intOf]; omega
                              · obtain ⟨J, hJ⟩ : ∃ J, k = J + 1 := ⟨k - 1, by omega⟩
                                obtain ⟨q, hq, hqc⟩ := HPV.out J hJ
                                have d0 := hqc W hbr2
                                have HB1 := Lib.hid (HBD.out J q hJ hq HF0.out)
                                have HB2 := Lib.hid (HGD.out J q hJ hq HF0.out)
                                have z0 : (0 : Int) < (k : Int) := by omega
                                have z1 : decide (0 < k) = true := by simp; omega
                                have z2 : decide ((0 : Int) < (k : Int)) = true := by simp; omega
                                have e1 : (k : Int) - 1 = (J : Int) := by omega
                                have e2 : IntKind.i64.wrap (J : Int) = (J : Int) := IntWalk.i64_in _ (by omega)
                                have e3 : IntKind.i64.wrap ((k : Int) - 1) = (J : Int) := by rw [e1]; exact e2
                                have e4 : (0 : Int) ≤ (J : Int) := by omega
                                have e5 : (J : Int) < (l.length : Int) := by omega
                                clear hk0 hJ hq hqc HPV HBD HGD HZ HOWN
                                unfold leN at HB1 HB2
                                obtain ⟨qp, q1, q2, q3, q4, q5, q6, q7⟩ := q
                                simp only at d0 HB1 HB2
                                by_cases hle : (Op.bytesLess p.toList qp.toList || p.toList == qp.toList) = true
                                · have HE2 := Lib.hid (HB1.out hle)
                                  clear HB1 HB2
                                  go_wp2_with fail
                                  go_quiet (fail)
                                  go_wp2_with fail
                                  go_ret
                                  exact ⟨ret_int HE2.out.symm, below_draws hbw2 _⟩
                                · have hle2 : (Op.bytesLess p.toList qp.toList || p.toList == qp.toList) = false := by simpa using hle
                                  have HE2 := Lib.hid (HB2.out hle2)
                                  clear HB1 HB2 hle
                                  go_wp2_with fail
                                  go_quiet (fail)
                                  go_wp2_with fail
                                  go_roundw
                                  case rel => exact ⟨k + 1, by omega, by go_num, HE2.out, below_draws hbw2 _⟩
                                  case measure => simp [intOf]; omega
      · obtain rfl : k = l.length := by omega
        have HE2 : Hid (G = 0) := Lib.hid (by rw [HG.out, hE]; exact chk_end _ _ l)
        clear hE
        go_wp2_with fail
        go_ret
        exact ⟨ret_int HE2.out.symm, hbr⟩
end Go.Proofs.Ytldfommfaegdiaa
