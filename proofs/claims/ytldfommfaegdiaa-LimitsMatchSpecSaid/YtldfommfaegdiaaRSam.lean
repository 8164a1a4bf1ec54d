/- the reference's CheckSamples and StateOf. -/
import Derived.Test.YtldfommfaegdiaaRLim
namespace Go.Proofs.Ytldfommfaegdiaa
open Go.RowKit

attribute [local go_sem] setCell_draws alloc_draws
set_option maxRecDepth 100000 in
set_option maxHeartbeats 4000000 in
theorem r_CheckSamples_any (A : Option Addr) (l : List Sam) (c B : Nat) (w : World) (hB : B ≤ w.heap.size) (hll : l.length ≤ 9223372036854775807) (hps : ∀ x ∈ l, x.p.size ≤ 9223372036854775807) (h : SR Sam.cells w B A l) :
    Calls Try.prog 14 #[.slice A l.length c] w fun e w' => e = .returned (.int .i64 (samsF l)) ∧ Below w.heap.size w w' := by
  have HF := Lib.hid (show samsF l = if 5000 < l.length then 2 else chkG samF samBad none l from rfl)
  have HPS := Lib.hid hps
  clear hps
  by_cases h5 : 5000 < l.length
  · have i5 : (5000 : Int) < (l.length : Int) := by omega
    have hf : samsF l = 2 := by rw [HF.out, if_pos h5]
    rw [hf]
    clear hf HF
    go_enter Try.func14, Try.ntmps14
    go_wp2_with fail
    go_ret
    exact ⟨rfl, Below.refl _ _⟩
  · have i5 : (l.length : Int) ≤ 5000 := by omega
    have hf : samsF l = chkG samF samBad none l := by rw [HF.out, if_neg h5]
    rw [hf]
    obtain ⟨G, hG⟩ : ∃ G, G = chkG samF samBad none l := ⟨_, rfl⟩
    rw [← hG]
    have HG := Lib.hid hG
    have H := Lib.hid h
    clear hf HF hG h
    go_enter Try.func14, Try.ntmps14
    go_wp2_with fail
    go_loopw [3, 4] (fun i _ wr => SamAt l w i wr) (fun i _ _ => l.length - (intOf i).toNat)
    case atStart => exact ⟨0, Nat.zero_le _, rfl, rfl, Below.refl _ _⟩
    case round =>
      obtain ⟨k, hk, rfl, hE, hbr⟩ := hrel
      have hzr := hbr.size
      by_cases hlt : k < l.length
      · obtain ⟨ad, hA, hbk, a0, a1, a2⟩ := sams_get (H.out.below (hbr.mono hB)) k hlt
        have hi0 : (0 : Int) ≤ (k : Int) := by omega
        have hi1 : (k : Int) < (l.length : Int) := by omega
        have HPV : Hid (∀ J, k = J + 1 → ∃ q : Sam, l[J]? = some q ∧ ∀ w', Below wr.heap.size wr w' → w'.cell? (ad.add (J * 3)) = some (.int .i64 q.t) ∧ w'.cell? ⟨(ad.add (J * 3)).block, (ad.add (J * 3)).off + 1, none⟩ = some (.string q.p) ∧ w'.cell? ⟨(ad.add (J * 3)).block, (ad.add (J * 3)).off + 2, none⟩ = some (.int .i64 q.v)) := Lib.hid (fun J hJ => by
          refine ⟨l[J]'(by omega), List.getElem?_eq_getElem _, fun w' hb' => ?_⟩
          obtain ⟨ad', hA', -, d0, d1, d2⟩ := sams_get (H.out.below ((hbr.trans (hb'.mono hzr)).mono hB)) J (by omega)
          rw [hA] at hA'
          obtain rfl : ad = ad' := by injection hA'
          exact ⟨d0, d1, d2⟩)
        have HFX := Lib.hid (show samF l[k] = if decide (0 ≤ l[k].t ∧ l[k].t ≤ 1000000000000) = false then 1 else if isN l[k].p.data.toList = false then 5 else if valD l[k].v = false then 1 else 0 from rfl)
        have HOWN : Hid (samF l[k] ≠ 0 → G = samF l[k]) := Lib.hid (fun hh => by rw [HG.out, hE]; exact chk_own _ _ l k hlt hh)
        have HZ : Hid (samF l[k] = 0 → k = 0 → chkG samF samBad none l = chkG samF samBad (prevO l (k + 1)) (l.drop (k + 1))) := Lib.hid (fun hh hk0 => by subst hk0; rw [hE]; exact chk_zero _ _ l hlt hh)
        have HBD : Hid (∀ J q, k = J + 1 → l[J]? = some q → samF l[k] = 0 → samBad q l[k] = true → G = 8) := Lib.hid (fun J q hJ hq hh hb => by
          subst hJ
          have hJl : J < l.length := by omega
          rw [List.getElem?_eq_getElem hJl] at hq
          obtain rfl := Option.some.inj hq
          rw [HG.out, hE]
          exact chk_bad _ _ l J hlt hh hb)
        have HGD : Hid (∀ J q, k = J + 1 → l[J]? = some q → samF l[k] = 0 → samBad q l[k] = false → chkG samF samBad none l = chkG samF samBad (prevO l (k + 1)) (l.drop (k + 1))) := Lib.hid (fun J q hJ hq hh hb => by
          subst hJ
          have hJl : J < l.length := by omega
          rw [List.getElem?_eq_getElem hJl] at hq
          obtain rfl := Option.some.inj hq
          rw [hE]
          exact chk_good _ _ l J hlt hh hb)
        have HT := Lib.hid (rwithin_any l[k].t 0 1000000000000)
        have HN := Lib.hid (fun w => risName_any l[k].p w (HPS.out _ (List.getElem_mem hlt)))
        have HV := Lib.hid (rvalue_any l[k].v)
        subst hA
        clear hE
        generalize samF l[k] = F at *
        generalize isN l[k].p.data.toList = bN at *
        generalize valD l[k].v = bV at *
        generalize decide (0 ≤ l[k].t ∧ l[k].t ≤ 1000000000000) = bT at *
        generalize l[k] = x at *
        obtain ⟨t, p, v⟩ := x
        simp only at a0 a1 a2 HBD HGD HT HN HV
        obtain ⟨W, hW⟩ : ∃ W, W = wr.alloc (.cells #[.int .i64 t, .string p, .int .i64 v] 47) := ⟨_, rfl⟩
        have hbW : Below wr.heap.size wr W := by rw [hW]; exact (Below.refl _ _).alloc (Nat.le_refl _) _
        have hzW : W.heap.size = wr.heap.size + 1 := by rw [hW]; simp
        have b0 : W.cell? ⟨wr.heap.size, 0, none⟩ = some (.int .i64 t) := by rw [hW]; simp
        have b1 : W.cell? ⟨wr.heap.size, 1, none⟩ = some (.string p) := by rw [hW]; simp
        have b2 : W.cell? ⟨wr.heap.size, 2, none⟩ = some (.int .i64 v) := by rw [hW]; simp
        have HW := Lib.hid hW
        clear hW
        go_upto_region 7 with fail
        rw [← HW.out]
        clear a0 a1 a2
        have hbw1 := hbr.trans (hbW.mono hzr)
        go_wp2_with fail
        refine (HT.out _).mono ?_
        rintro e w2 ⟨rfl, rfl⟩
        cases bT
        · have HF1 : Hid (F = 1) := Lib.hid (by rw [HFX.out, if_pos rfl])
          have HE2 : Hid (G = 1) := Lib.hid (by rw [HOWN.out (by rw [HF1.out]; simp), HF1.out])
          go_wp2_with fail
          go_ret
          exact ⟨ret_int HE2.out.symm, hbw1⟩
        · go_wp2_with fail
          refine (HN.out _).mono ?_
          rintro e w2 ⟨rfl, rfl⟩
          have hbr2 := hbW
          have hbw2 := hbw1
          clear hbW HW hzW hbw1
          cases bN
          · have HF1 : Hid (F = 5) := Lib.hid (by rw [HFX.out, if_neg (by simp), if_pos rfl])
            have HE2 : Hid (G = 5) := Lib.hid (by rw [HOWN.out (by rw [HF1.out]; simp), HF1.out])
            go_wp2_with fail
            go_ret
            exact ⟨ret_int HE2.out.symm, hbw2⟩
          · go_wp2_with fail
            refine (HV.out _).mono ?_
            rintro e w3 ⟨rfl, rfl⟩
            cases bV
            · have HF1 : Hid (F = 1) := Lib.hid (by rw [HFX.out, if_neg (by simp), if_neg (by simp), if_pos rfl])
              have HE2 : Hid (G = 1) := Lib.hid (by rw [HOWN.out (by rw [HF1.out]; simp), HF1.out])
              go_wp2_with fail
              go_ret
              exact ⟨ret_int HE2.out.symm, hbw2⟩
            · have HF1 : Hid (F = 0) := Lib.hid (by rw [HFX.out, if_neg (by simp), if_neg (by simp), if_neg (by simp)])
              rcases Nat.eq_zero_or_pos k with hk0 | hk0
              · have HE2 := Lib.hid (HZ.out HF1.out hk0)
                have z0 : ¬ (0 : Int) < (k : Int) := by omega
                have z1 : decide (0 < k) = false := by simp; omega
                have z2 : decide ((0 : Int) < (k : Int)) = false := by simp; omega
                clear hk0
                go_wp2_with fail
                go_quiet (fail)
                go_wp2_with fail
                go_roundw
                case rel => exact ⟨k + 1, by omega, by go_num, HE2.out, below_draws hbw2 _⟩
                case measure => simp [intOf]; omega
              · obtain ⟨J, hJ⟩ : ∃ J, k = J + 1 := ⟨k - 1, by omega⟩
                obtain ⟨q, hq, hqc⟩ := HPV.out J hJ
                obtain ⟨d0, d1, d2⟩ := hqc W hbr2
                have HB1 := Lib.hid (HBD.out J q hJ hq HF1.out)
                have HB2 := Lib.hid (HGD.out J q hJ hq HF1.out)
                have z0 : (0 : Int) < (k : Int) := by omega
                have z1 : decide (0 < k) = true := by simp; omega
                have z2 : decide ((0 : Int) < (k : Int)) = true := by simp; omega
                have e1 : (k : Int) - 1 = (J : Int) := by omega
                have e2 : IntKind.i64.wrap (J : Int) = (J : Int) := IntWalk.i64_in _ (by omega)
                have e3 : IntKind.i64.wrap ((k : Int) - 1) = (J : Int) := by rw [e1]; exact e2
                have e4 : (0 : Int) ≤ (J : Int) := by omega
                have e5 : (J : Int) < (l.length : Int) := by omega
                clear hk0 hJ hq hqc HPV HBD HGD HZ HOWN
                obtain ⟨qt, qp, qv⟩ := q
                simp only at d0 d1 d2
                unfold samBad leN at HB1 HB2
                simp only at HB1 HB2
                clear d2 b2
                by_cases o1 : t < qt
                · have HE2 := Lib.hid (HB1.out (by rw [decide_eq_true o1]; rfl))
                  have do1 : decide (t < qt) = true := decide_eq_true o1
                  clear HB1 HB2
                  go_wp2_with fail
                  go_quiet (fail)
                  go_wp2_with fail
                  go_ret
                  exact ⟨ret_int HE2.out.symm, below_draws hbw2 _⟩
                · have do1 : decide (t < qt) = false := decide_eq_false o1
                  by_cases o2 : t = qt
                  · have do2 : (t == qt) = true := beq_iff_eq.2 o2
                    by_cases hle : (Op.bytesLess p.toList qp.toList || p.toList == qp.toList) = true
                    · have HE2 := Lib.hid (HB1.out (by rw [do2, hle]; simp))
                      clear HB1 HB2 o2
                      go_wp2_with fail
                      go_quiet (fail)
                      go_wp2_with fail
                      go_ret
                      exact ⟨ret_int HE2.out.symm, below_draws hbw2 _⟩
                    · have hle2 : (Op.bytesLess p.toList qp.toList || p.toList == qp.toList) = false := by simpa using hle
                      have HE2 := Lib.hid (HB2.out (by rw [do1, hle2]; simp))
                      clear HB1 HB2 o2 hle
                      go_wp2_with fail
                      go_quiet (fail)
                      go_wp2_with fail
                      go_roundw
                      case rel => exact ⟨k + 1, by omega, by go_num, HE2.out, below_draws hbw2 _⟩
                      case measure => simp [intOf]; omega
                  · have do2 : (t == qt) = false := beq_eq_false_iff_ne.2 o2
                    have HE2 := Lib.hid (HB2.out (by rw [do1, do2]; simp))
                    clear HB1 HB2 o2
                    go_wp2_with fail
                    go_quiet (fail)
                    go_wp2_with fail
                    go_roundw
                    case rel => exact ⟨k + 1, by omega, by go_num, HE2.out, below_draws hbw2 _⟩
                    case measure => simp [intOf]; omega
      · obtain rfl : k = l.length := by omega
        have HE2 : Hid (G = 0) := Lib.hid (by rw [HG.out, hE]; exact chk_end _ _ l)
        clear hE
        go_wp2_with fail
        go_ret
        exact ⟨ret_int HE2.out.symm, hbr⟩
end Go.Proofs.Ytldfommfaegdiaa
