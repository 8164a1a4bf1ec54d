/- the program's StateOf and CheckLimits. -/
import Derived.Test.YtldfommfaegdiaaLimP
namespace Go.Proofs.Ytldfommfaegdiaa
open Go.RowKit

theorem ret_two {a b a' b' : Int} (h1 : a = a') (h2 : b = b') : Ending.returned (.tuple #[.int .i64 a, .int .i64 b]) = .returned (.tuple #[.int .i64 a', .int .i64 b']) := by rw [h1, h2]
attribute [local go_sem] setCell_draws alloc_draws
set_option maxRecDepth 100000 in
set_option maxHeartbeats 1000000 in
theorem p_StateOf_any (x : Lim) (v : Int) (hp : x.p.size ≤ 9223372036854775807) (w : World) :
    Calls Try.prog 9 #[limV x.p x.ll x.lo x.hi x.hh x.ct x.cl x.bk, .int .i64 v] w fun e w' => e = .returned (.tuple #[.int .i64 (sofR x v), .int .i64 (sofF x v)]) ∧ Below w.heap.size w w' := by
  have HC := Lib.hid (checkLimit_any x hp)
  have HV := Lib.hid (isValue_any v)
  have HS := Lib.hid (stateOf_any x v)
  have HF := Lib.hid (show sofF x v = if limF x ≠ 0 then limF x else if valD v = false then 1 else 0 from rfl)
  have HR := Lib.hid (show sofR x v = if sofF x v = 0 then stS x v else 0 from rfl)
  generalize sofR x v = r at *
  generalize sofF x v = f at *
  generalize stS x v = s at *
  generalize limF x = F at *
  generalize valD v = b at *
  obtain ⟨p, ll, lo, hi, hh, ct, cl, bk⟩ := x
  obtain ⟨W, hW⟩ : ∃ W, W = w.alloc (.cells (limC p ll lo hi hh ct cl bk) 25) := ⟨_, rfl⟩
  have hbW : Below w.heap.size w W := by rw [hW]; exact (Below.refl _ _).alloc (Nat.le_refl _) _
  have hzW : W.heap.size = w.heap.size + 1 := by rw [hW]; simp
  have b0 : W.cell? ⟨w.heap.size, 0, none⟩ = some (.string p) := by rw [hW]; simp [limC]
  have b1 : W.cell? ⟨w.heap.size, 1, none⟩ = some (.int .i64 ll) := by rw [hW]; simp [limC]
  have b2 : W.cell? ⟨w.heap.size, 2, none⟩ = some (.int .i64 lo) := by rw [hW]; simp [limC]
  have b3 : W.cell? ⟨w.heap.size, 3, none⟩ = some (.int .i64 hi) := by rw [hW]; simp [limC]
  have b4 : W.cell? ⟨w.heap.size, 4, none⟩ = some (.int .i64 hh) := by rw [hW]; simp [limC]
  have b5 : W.cell? ⟨w.heap.size, 5, none⟩ = some (.int .i64 ct) := by rw [hW]; simp [limC]
  have b6 : W.cell? ⟨w.heap.size, 6, none⟩ = some (.int .i64 cl) := by rw [hW]; simp [limC]
  have b7 : W.cell? ⟨w.heap.size, 7, none⟩ = some (.int .i64 bk) := by rw [hW]; simp [limC]
  unfold limC at hW
  have HW := Lib.hid hW
  clear hW hp
  unfold limV at HC HS ⊢
  simp only at HC HS ⊢
  go_enter Try.func9, Try.ntmps9
  go_upto_region 1 with fail
  rw [← HW.out]
  go_wp2_with fail
  refine (HC.out _).mono ?_
  rintro e w2 ⟨rfl, hb2⟩
  have hlt : w.heap.size < W.heap.size := by omega
  have c0 := (Below.at_ hb2 w.heap.size hlt 0).trans b0
  have c1 := (Below.at_ hb2 w.heap.size hlt 1).trans b1
  have c2 := (Below.at_ hb2 w.heap.size hlt 2).trans b2
  have c3 := (Below.at_ hb2 w.heap.size hlt 3).trans b3
  have c4 := (Below.at_ hb2 w.heap.size hlt 4).trans b4
  have c5 := (Below.at_ hb2 w.heap.size hlt 5).trans b5
  have c6 := (Below.at_ hb2 w.heap.size hlt 6).trans b6
  have c7 := (Below.at_ hb2 w.heap.size hlt 7).trans b7
  have hbw2 := hbW.trans (hb2.mono (by omega))
  clear b0 b1 b2 b3 b4 b5 b6 b7 hbW hzW hlt hb2
  by_cases hF : F = 0
  · subst hF
    cases b
    · have HR2 : Hid (f = 1 ∧ r = 0) := Lib.hid (by have h1 : f = 1 := by rw [HF.out, if_neg (by simp), if_pos rfl]
                                                    exact ⟨h1, by rw [HR.out, if_neg (by omega)]⟩)
      go_wp2_with fail
      refine (HV.out _).mono ?_
      rintro e w3 ⟨rfl, rfl⟩
      go_wp2_with fail
      go_ret2
      exact ⟨ret_two HR2.out.2.symm HR2.out.1.symm, hbw2⟩
    · have HR2 : Hid (f = 0 ∧ r = s) := Lib.hid (by have h1 : f = 0 := by rw [HF.out, if_neg (by simp), if_neg (by simp)]
                                                    exact ⟨h1, by rw [HR.out, if_pos h1]⟩)
      go_wp2_with fail
      refine (HV.out _).mono ?_
      rintro e w3 ⟨rfl, rfl⟩
      go_wp2_with fail
      refine (HS.out _).mono ?_
      rintro e w3 ⟨rfl, hb3⟩
      go_wp2_with fail
      go_ret2
      exact ⟨ret_two HR2.out.2.symm HR2.out.1.symm, hbw2.trans (hb3.mono hbw2.size)⟩
  · have HR2 : Hid (f = F ∧ r = 0) := Lib.hid (by have h1 : f = F := by rw [HF.out, if_pos hF]
                                                  exact ⟨h1, by rw [HR.out, if_neg (by omega)]⟩)
    have dF : (F != 0) = true := by simpa using hF
    clear hF
    go_wp2_with fail
    go_ret2
    exact ⟨ret_two HR2.out.2.symm HR2.out.1.symm, hbw2⟩
/-- the head of the loops over limits -/
def LimAt (l : List Lim) (w : World) (i : Value) (wr : World) : Prop :=
  ∃ k : Nat, k ≤ l.length ∧ i = .int .i64 k ∧ chkG limF (fun q x => leN x.p q.p) none l = chkG limF (fun q x => leN x.p q.p) (prevO l k) (l.drop k) ∧ Below w.heap.size w wr
set_option maxRecDepth 100000 in
set_option maxHeartbeats 4000000 in
theorem p_CheckLimits_any (A : Option Addr) (l : List Lim) (c B : Nat) (w : World) (hB : B ≤ w.heap.size) (hll : l.length ≤ 9223372036854775807) (hps : ∀ x ∈ l, x.p.size ≤ 9223372036854775807) (h : SR Lim.cells w B A l) :
    Calls Try.prog 11 #[.slice A l.length c] w fun e w' => e = .returned (.int .i64 (limsF l)) ∧ Below w.heap.size w w' := by
  have HF := Lib.hid (show limsF l = if 200 < l.length then 2 else chkG limF (fun q x => leN x.p q.p) none l from rfl)
  have HPS := Lib.hid hps
  clear hps
  by_cases h5 : 200 < l.length
  · have i5 : (200 : Int) < (l.length : Int) := by omega
    have hf : limsF l = 2 := by rw [HF.out, if_pos h5]
    rw [hf]
    clear hf HF
    go_enter Try.func11, Try.ntmps11
    go_wp2_with fail
    go_ret
    exact ⟨rfl, Below.refl _ _⟩
  · have i5 : (l.length : Int) ≤ 200 := by omega
    have hf : limsF l = chkG limF (fun q x => leN x.p q.p) none l := by rw [HF.out, if_neg h5]
    rw [hf]
    obtain ⟨G, hG⟩ : ∃ G, G = chkG limF (fun q x => leN x.p q.p) none l := ⟨_, rfl⟩
    rw [← hG]
    have HG := Lib.hid hG
    have H := Lib.hid h
    clear hf HF hG h
    go_enter Try.func11, Try.ntmps11
    go_wp2_with fail
    go_loopw [11] (fun i wr => LimAt l w i wr) (fun i _ => l.length - (intOf i).toNat)
    case atStart => exact ⟨0, Nat.zero_le _, rfl, rfl, Below.refl _ _⟩
    case round =>
      obtain ⟨k, hk, rfl, hE, hbr⟩ := hrel
      have hzr := hbr.size
      by_cases hlt : k < l.length
      · obtain ⟨ad, hA, hbk, a0, a1, a2, a3, a4, a5, a6, a7⟩ := lims_get (H.out.below (hbr.mono hB)) k hlt
        have hi0 : (0 : Int) ≤ (k : Int) := by omega
        have hi1 : (k : Int) < (l.length : Int) := by omega
        have HC := Lib.hid (checkLimit_any l[k] (HPS.out _ (List.getElem_mem hlt)))
        have HPV : Hid (∀ J, k = J + 1 → ∃ q : Lim, l[J]? = some q ∧ ∀ w', Below wr.heap.size wr w' → w'.cell? (ad.add (J * 8)) = some (.string q.p)) := Lib.hid (fun J hJ => by
          refine ⟨l[J]'(by omega), List.getElem?_eq_getElem _, fun w' hb' => ?_⟩
          obtain ⟨ad', hA', -, d0, -⟩ := lims_get (H.out.below ((hbr.trans (hb'.mono hzr)).mono hB)) J (by omega)
          rw [hA] at hA'
          obtain rfl : ad = ad' := by injection hA'
          exact d0)
        have HOWN : Hid (limF l[k] ≠ 0 → G = limF l[k]) := Lib.hid (fun hh => by rw [HG.out, hE]; exact chk_own _ _ l k hlt hh)
        have HZ : Hid (limF l[k] = 0 → k = 0 → chkG limF (fun q x => leN x.p q.p) none l = chkG limF (fun q x => leN x.p q.p) (prevO l (k + 1)) (l.drop (k + 1))) := Lib.hid (fun hh hk0 => by subst hk0; rw [hE]; exact chk_zero _ _ l hlt hh)
        have HBD : Hid (∀ J q, k = J + 1 → l[J]? = some q → limF l[k] = 0 → leN l[k].p q.p = true → G = 8) := Lib.hid (fun J q hJ hq hh hb => by
          subst hJ
          have hJl : J < l.length := by omega
          rw [List.getElem?_eq_getElem hJl] at hq
          obtain rfl := Option.some.inj hq
          rw [HG.out, hE]
          exact chk_bad _ _ l J hlt hh hb)
        have HGD : Hid (∀ J q, k = J + 1 → l[J]? = some q → limF l[k] = 0 → leN l[k].p q.p = false → chkG limF (fun q x => leN x.p q.p) none l = chkG limF (fun q x => leN x.p q.p) (prevO l (k + 1)) (l.drop (k + 1))) := Lib.hid (fun J q hJ hq hh hb => by
          subst hJ
          have hJl : J < l.length := by omega
          rw [List.getElem?_eq_getElem hJl] at hq
          obtain rfl := Option.some.inj hq
          rw [hE]
          exact chk_good _ _ l J hlt hh hb)
        subst hA
        clear hE
        generalize limF l[k] = F at *
        generalize l[k] = x at *
        obtain ⟨p, ll, lo, hi, hh, ct, cl, bk⟩ := x
        simp only at a0 a1 a2 a3 a4 a5 a6 a7 HBD HGD
        unfold limV at HC
        obtain ⟨W, hW⟩ : ∃ W, W = wr.alloc (.cells (limC p ll lo hi hh ct cl bk) 25) := ⟨_, rfl⟩
        have hbW : Below wr.heap.size wr W := by rw [hW]; exact (Below.refl _ _).alloc (Nat.le_refl _) _
        have hzW : W.heap.size = wr.heap.size + 1 := by rw [hW]; simp
        have b0 : W.cell? ⟨wr.heap.size, 0, none⟩ = some (.string p) := by rw [hW]; simp [limC]
        have b1 : W.cell? ⟨wr.heap.size, 1, none⟩ = some (.int .i64 ll) := by rw [hW]; simp [limC]
        have b2 : W.cell? ⟨wr.heap.size, 2, none⟩ = some (.int .i64 lo) := by rw [hW]; simp [limC]
        have b3 : W.cell? ⟨wr.heap.size, 3, none⟩ = some (.int .i64 hi) := by rw [hW]; simp [limC]
        have b4 : W.cell? ⟨wr.heap.size, 4, none⟩ = some (.int .i64 hh) := by rw [hW]; simp [limC]
        have b5 : W.cell? ⟨wr.heap.size, 5, none⟩ = some (.int .i64 ct) := by rw [hW]; simp [limC]
        have b6 : W.cell? ⟨wr.heap.size, 6, none⟩ = some (.int .i64 cl) := by rw [hW]; simp [limC]
        have b7 : W.cell? ⟨wr.heap.size, 7, none⟩ = some (.int .i64 bk) := by rw [hW]; simp [limC]
        unfold limC at hW
        have HW := Lib.hid hW
        clear hW
        go_upto_region 6 with fail
        rw [← HW.out]
        clear a0 a1 a2 a3 a4 a5 a6 a7
        go_wp2_with fail
        refine (HC.out _).mono ?_
        rintro e w2 ⟨rfl, hb2⟩
        have c0 := (Below.at_ hb2 wr.heap.size (by omega) 0).trans b0
        have hbr2 := hbW.trans (hb2.mono (by omega))
        have hbw2 := hbr.trans (hbr2.mono hzr)
        clear b0 b1 b2 b3 b4 b5 b6 b7 hbW hb2 HW hzW HC
        by_cases hF : F = 0
        · subst hF
          rcases Nat.eq_zero_or_pos k with hk0 | hk0
          · have HE2 := Lib.hid (HZ.out rfl hk0)
            have z0 : ¬ (0 : Int) < (k : Int) := by omega
            have z1 : decide (0 < k) = false := by simp; omega
            have z2 : decide ((0 : Int) < (k : Int)) = false := by simp; omega
            clear hk0
            go_wp2_with fail
            go_quiet (fail)
            go_wp2_with fail
            go_roundw
            case rel => exact ⟨k + 1, by omega, by go_num, HE2.out, below_draws hbw2 _⟩
            case measure => simp [intOf]; omega
          · obtain ⟨J, hJ⟩ : ∃ J, k = J + 1 := ⟨k - 1, by omega⟩
            obtain ⟨q, hq, hqc⟩ := HPV.out J hJ
            have d0 := hqc w2 hbr2
            have HB1 := Lib.hid (HBD.out J q hJ hq rfl)
            have HB2 := Lib.hid (HGD.out J q hJ hq rfl)
            have z0 : (0 : Int) < (k : Int) := by omega
            have z1 : decide (0 < k) = true := by simp; omega
            have z2 : decide ((0 : Int) < (k : Int)) = true := by simp; omega
            have e1 : (k : Int) - 1 = (J : Int) := by omega
            have e2 : IntKind.i64.wrap (J : Int) = (J : Int) := IntWalk.i64_in _ (by omega)
            have e3 : IntKind.i64.wrap ((k : Int) - 1) = (J : Int) := by rw [e1]; exact e2
            have e4 : (0 : Int) ≤ (J : Int) := by omega
            have e5 : (J : Int) < (l.length : Int) := by omega
            clear hk0 hJ hq hqc HPV HBD HGD HZ HOWN
            unfold leN at HB1 HB2
            obtain ⟨qp, q1, q2, q3, q4, q5, q6, q7⟩ := q
            simp only at d0 HB1 HB2
            by_cases hle : (Op.bytesLess p.toList qp.toList || p.toList == qp.toList) = true
            · have HE2 := Lib.hid (HB1.out hle)
              clear HB1 HB2
              go_wp2_with fail
              go_quiet (fail)
              go_wp2_with fail
              go_ret
              exact ⟨ret_int HE2.out.symm, below_draws hbw2 _⟩
            · have hle2 : (Op.bytesLess p.toList qp.toList || p.toList == qp.toList) = false := by simpa using hle
              have HE2 := Lib.hid (HB2.out hle2)
              clear HB1 HB2 hle
              go_wp2_with fail
              go_quiet (fail)
              go_wp2_with fail
              go_roundw
              case rel => exact ⟨k + 1, by omega, by go_num, HE2.out, below_draws hbw2 _⟩
              case measure => simp [intOf]; omega
        · have HE2 := Lib.hid (HOWN.out hF)
          have dF : (F != 0) = true := by simpa using hF
          clear hF
          go_wp2_with fail
          go_ret
          exact ⟨ret_int HE2.out.symm, hbw2⟩
      · obtain rfl : k = l.length := by omega
        have HE2 : Hid (G = 0) := Lib.hid (by rw [HG.out, hE]; exact chk_end _ _ l)
        clear hE
        go_wp2_with fail
        go_ret
        exact ⟨ret_int HE2.out.symm, hbr⟩
end Go.Proofs.Ytldfommfaegdiaa
