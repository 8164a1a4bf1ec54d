/- Thinned marks are some of the marks, with the first and the last one, and their line is near at each mark: the law MarksThinStayNear answers true for every input. No condition. -/
import Derived.Test.YtpccpkjfnmclfaaThinLaw
import Derived.Test.YtpccpkjfnmclfaaAwake
import Derived.Test.YtpccpkjfnmclfaaCloseM
import Derived.Test.YtpccpkjfnmclfaaClosed
import Derived.Deep.QuietTactic
import Derived.BigQuiet
namespace Go.Proofs.Ytpccpkjfnmclfaa
open Go.ChangeShapes Go.WideShapes Go.ChangeAt Go.RowKit

set_option maxRecDepth 100000 in
set_option maxHeartbeats 4000000 in
theorem lawThin_any (A : Option Addr) (c : Nat) (l : List Mk) (most k : Int) (w : World) (hl : l.length ≤ 9223372036854775807) (hlc : l.length ≤ c) (hmb : -9223372036854775808 ≤ most ∧ most ≤ 9223372036854775807) (hA : MR w w.heap.size A l) :
    Calls Try.prog 6 #[.slice A l.length c, .int .i64 most, .int .i64 k] w fun e w' => e = .returned (.bool true) ∧ Below w.heap.size w w' := by
  have HT := Lib.hid (thin_any A c l most w hl hlc hA)
  have HAW := Lib.hid awake_any
  unfold ThinPost at HT
  by_cases hF : thinF l most = 0
  · obtain ⟨f0, f1, f2, f3, f4, f5, f6⟩ := thinR_facts hF
    obtain ⟨-, hm0, hm1⟩ := thinF_ok hF
    have HTM := Lib.hid (fun h2 k hk t F => @thinR_time l most hF h2 k hk t F)
    rw [hF] at HT
    generalize thinR l most = X at *
    have HA := Lib.hid hA
    have HMEM := Lib.hid f2
    clear hF hA f2 f5 f6
    go_enter Try.func6, Try.ntmps6
    go_wp2_with fail
    refine HT.out.mono ?_
    rintro e w1 ⟨v1, rfl, ho1, hb1⟩
    obtain ⟨A1, c1, rfl, hlc1, hr1⟩ := ho1.form
    have hz1 := hb1.size
    have hA1 := HA.out.below hb1
    obtain ⟨ad, hadd, -, c0, cc1, cc2⟩ := hA1.get 0 (by omega)
    obtain ⟨ad2, hadd2, -, d0, d1, d2⟩ := hr1.get 0 f0
    obtain ⟨ad3, hadd3, -, e0, e1, e2⟩ := hA1.get (l.length - 1) (by omega)
    obtain ⟨ad4, hadd4, -, g0, g1, g2⟩ := hr1.get (X.length - 1) (by omega)
    subst hadd hadd2
    obtain rfl : ad = ad3 := by injection hadd3
    obtain rfl : ad2 = ad4 := by injection hadd4
    rw [Nat.zero_mul, addr_zero] at c0 cc1 cc2 d0 d1 d2
    rw [List.getElem?_eq_getElem f0, List.getElem?_eq_getElem (by omega)] at f3
    rw [List.getElem?_eq_getElem (by omega), List.getElem?_eq_getElem (by omega)] at f4
    have f3' := Option.some.inj f3
    have f4' := Option.some.inj f4
    rw [f3'] at d0 d1 d2
    rw [f4'] at g0 g1 g2
    have hfi := fun w => eqMk l[0] l[0] w
    have hla := fun w => eqMk (l[l.length - 1]'(by omega)) (l[l.length - 1]'(by omega)) w
    rw [mkB_self] at hfi hla
    clear f3 f4 f3' f4' hadd3 hadd4 HT
    generalize l[0] = y at *
    generalize l[l.length - 1]'(by omega) = z at *
    obtain ⟨yt, yz, yo⟩ := y
    obtain ⟨zt, zz, zo⟩ := z
    unfold mv at hfi hla
    simp only at c0 cc1 cc2 d0 d1 d2 e0 e1 e2 g0 g1 g2 hfi hla
    obtain ⟨XL, hXL⟩ : ∃ XL, X.length = XL := ⟨_, rfl⟩
    obtain ⟨LL, hLL⟩ : ∃ LL, l.length = LL := ⟨_, rfl⟩
    have HXL := Lib.hid hXL
    have HLL := Lib.hid hLL
    rw [hXL] at g0 g1 g2 f0 f1 hlc1 ⊢
    rw [hLL] at e0 e1 e2 f1 hl hlc ⊢
    obtain ⟨N, hN⟩ : ∃ N, XL = N + 1 := ⟨XL - 1, by omega⟩
    obtain ⟨L, hL⟩ : ∃ L, LL = L + 1 := ⟨LL - 1, by omega⟩
    rw [show XL - 1 = N by omega] at g0 g1 g2
    rw [show LL - 1 = L by omega] at e0 e1 e2
    have HN := Lib.hid hN
    have HL := Lib.hid hL
    have n0 : ((XL : Int) == 0) = false := by simp; omega
    have n00 : (XL == 0) = false := by simp; omega
    have n1 : (XL : Int) - 1 = (N : Int) := by omega
    have n2 : IntKind.i64.wrap (N : Int) = (N : Int) := IntWalk.i64_in _ (by omega)
    have n3 : (0 : Int) ≤ (N : Int) := by omega
    have n4 : (N : Int) < (XL : Int) := by omega
    have n5 : (0 : Int) < (XL : Int) := by omega
    have n6 : 0 < XL := by omega
    have l1 : (LL : Int) - 1 = (L : Int) := by omega
    have l2 : IntKind.i64.wrap (L : Int) = (L : Int) := IntWalk.i64_in _ (by omega)
    have l3 : (0 : Int) ≤ (L : Int) := by omega
    have l4 : (L : Int) < (LL : Int) := by omega
    have l5 : (0 : Int) < (LL : Int) := by omega
    have l6 : 0 < LL := by omega
    have HA1 := Lib.hid hA1
    have HR1 := Lib.hid hr1
    clear hN hL hXL hLL hA1 hr1
    go_wp2_with fail
    go_quiet (fail)
    go_wp2_with fail
    clear c0 cc1 cc2 d0 d1 d2 e0 e1 e2 g0 g1 g2 hfi hla n0 n00 n1 n2 n3 n4 l1 l2 l3 l4
    have HCT : Hid (∀ (j : Nat) (hj : j < X.length) (w' : World), Below w1.heap.size w1 w' → Calls Try.prog 20 #[.slice (some ad) LL c, mv X[j]] w' fun e w'' => e = .returned (.bool true) ∧ Below w'.heap.size w' w'') := Lib.hid fun j hj w' hb => by
      have := contains_yes (some ad) c l X[j] w' (by rw [HLL.out]; exact hl) (HMEM.out _ (List.getElem_mem hj)) ((HA1.out.below (hb.mono hz1)).lift (by have := hb.size; omega))
      rw [HLL.out] at this
      exact this
    have HTO : Hid (∀ (n : Int) (w' : World), Below w1.heap.size w1 w' → Calls Try.prog 21 #[.slice (some ad2) XL c1, .int .i64 n] w' (TimeOfPost X n w')) := Lib.hid fun n w' hb => by
      have := timeOf_any (some ad2) c1 X n w' (by rw [HXL.out]; omega) ((HR1.out.below hb).lift hb.size)
      rw [HXL.out] at this
      exact this
    unfold TimeOfPost at HTO
    go_loopw [9] (fun i wr => ∃ j : Nat, j ≤ XL ∧ i = .int .i64 j ∧ Below w1.heap.size w1 wr) (fun i _ => XL - (intOf i).toNat)
    case atStart => exact ⟨0, Nat.zero_le _, rfl, below_draws (Below.refl _ _) _⟩
    case round =>
      obtain ⟨j, hj, rfl, hbr⟩ := hrel
      have hzr := hbr.size
      by_cases hlt : j < XL
      · obtain ⟨ad5, hadd5, -, c0, cc1, cc2⟩ := (HR1.out.below hbr).get j (by rw [HXL.out]; exact hlt)
        obtain rfl : ad2 = ad5 := by injection hadd5
        have hct := HCT.out j (by rw [HXL.out]; exact hlt) wr hbr
        generalize X[j]'(by rw [HXL.out]; exact hlt) = x at *
        obtain ⟨xt, xz, xo⟩ := x
        unfold mv at hct
        simp only at c0 cc1 cc2 hct
        have i0 : (0 : Int) ≤ (j : Int) := by omega
        have i1 : (j : Int) < (XL : Int) := by omega
        have HC2 := Lib.hid hct
        clear hct hadd5
        go_wp2_with fail
        refine HC2.out.mono ?_
        rintro e w3 ⟨rfl, hb3⟩
        go_wp2_with fail
        go_roundw
        case rel => exact ⟨j + 1, by omega, by go_num, hbr.trans (hb3.mono hzr)⟩
        case measure => simp [intOf]; omega
      · obtain rfl : XL = j := by omega
        clear hlt hj
        have hbw := hb1.trans (hbr.mono hz1)
        by_cases h2 : (XL : Int) < 2
        · go_wp2_with fail
          refine (HAW.out _).mono ?_
          rintro e w4 ⟨rfl, hb4⟩
          go_wp2_with fail
          go_ret
          exact ⟨rfl, hbw.trans (hb4.mono hbw.size)⟩
        · by_cases hk0 : k < 0
          · go_wp2_with fail
            refine (HAW.out _).mono ?_
            rintro e w4 ⟨rfl, hb4⟩
            go_wp2_with fail
            go_ret
            exact ⟨rfl, hbw.trans (hb4.mono hbw.size)⟩
          · by_cases hk1 : (LL : Int) ≤ k
            · go_wp2_with fail
              refine (HAW.out _).mono ?_
              rintro e w4 ⟨rfl, hb4⟩
              go_wp2_with fail
              go_ret
              exact ⟨rfl, hbw.trans (hb4.mono hbw.size)⟩
            · obtain ⟨K, rfl⟩ : ∃ K : Nat, k = K := ⟨k.toNat, by omega⟩
              have hK : K < l.length := by rw [HLL.out]; omega
              obtain ⟨ad6, hadd6, hb6, c0, cc1, cc2⟩ := (HA1.out.below (hbr.mono hz1)).get K hK
              obtain rfl : ad = ad6 := by injection hadd6
              have htm := HTM.out (by rw [HXL.out]; omega) K hK
              generalize l[K] = x at *
              obtain ⟨xt, xz, xo⟩ := x
              simp only at c0 cc1 cc2 htm
              have HTM2 := Lib.hid htm
              have k0 : (0 : Int) ≤ (K : Int) := by omega
              have k1 : (K : Int) < (LL : Int) := by omega
              clear htm hadd6 cc2
              go_wp2_with fail
              refine (HTO.out xt wr hbr).mono ?_
              rintro e w5 ⟨⟨t, F, rfl, htr⟩, hb5⟩
              obtain ⟨rfl, q1, q2⟩ := HTM2.out t F htr
              have hbw5 := hbw.trans (hb5.mono hbw.size)
              have d1 := (Below.at_ hb5 (ad.add (K * 3)).block (by rw [add_block]; have := hbw.size; omega) _).trans cc1
              clear htr hb5
              go_wp2_with fail
              refine (HAW.out _).mono ?_
              rintro e w6 ⟨rfl, hb6⟩
              go_wp2_with fail
              go_ret
              exact ⟨rfl, hbw5.trans (hb6.mono hbw5.size)⟩
  · have hX : thinR l most = [] := by unfold thinR; rw [if_neg hF]
    rw [hX] at HT
    generalize thinF l most = F at *
    have dF : (F != 0) = true := by simpa using hF
    clear hX hF hA
    go_enter Try.func6, Try.ntmps6
    go_wp2_with fail
    refine HT.out.mono ?_
    rintro e w1 ⟨v1, rfl, ho1, hb1⟩
    obtain ⟨A1, c1, rfl, -, -⟩ := ho1.form
    clear ho1
    go_wp2_with fail
    refine (HAW.out _).mono ?_
    rintro e w4 ⟨rfl, hb4⟩
    go_wp2_with fail
    go_ret
    exact ⟨rfl, hb1.trans (hb4.mono hb1.size)⟩

set_option maxHeartbeats 1600000 in
set_option maxRecDepth 100000 in
theorem thin_lifted (os : Os) (started : os.Started) (H : Type) (enc : TypeId × Value → H) :
    ReturnsInHanded {} Try.checked os 6 .any (Rows.marksThinStayNearSpec.pre6 enc Try.prog Try.f6 Rows.marksThinStayNearRow.domain false) (Rows.marksThinStayNearSpec.post enc Try.prog Try.f6 false true false false) := by
  refine returnsInHanded_of_change (C := Try.checked) own started (by kernel_rfl) Try.func6
    (ChangeSpec.witness6 (enc := enc) (C := Try.checked) false ⟨#[], #[.slice none 0 0, .int .i64 0, .int .i64 0], []⟩ 8 (by kernel_rfl) (by kernel_rfl) (by kernel_rfl) (by kernel_rfl)) ?_
  intro W base args ds gs before hval0 hW _ _
  have hval : ∀ (j : Nat) t v, Try.f6.params[j]? = some t → args[j]? = some v → Value.okWide Try.prog W .any base t v := hval0
  have hW' := hW
  have hlt := fun x hx => hW'.lt x hx
  obtain ⟨p, q, hA0, hV, rfl, _, _⟩ := hW
  have hA : DataW.TrodAll enc Try.prog W 0 (fun _ => true) true Try.f6.params.toList args.toList ds p := hA0
  rw [Try.params6] at hA hval
  obtain ⟨v0, v1, v2, d0, d1, d2, p0, p1, p2, rfl, rfl, rfl, h0, h1, h2⟩ := trodAll_three hA
  obtain ⟨rfl, rfl⟩ := trodVars_none hV
  obtain ⟨Am', lenm, capm, rfl⟩ := okWide_slice Try.underlying30 (hval 0 30 v0 rfl rfl)
  obtain ⟨nm, hnm⟩ := h0
  obtain ⟨Am, cm, m, hvm, hlcm, hcm, hBm, hIm⟩ := open_marks (fun x hx => hlt x (by simp [hx])) hnm
  obtain ⟨n, rfl, rfl, rfl, wfn⟩ := open_int Try.underlying3 (hval 1 3 v1 rfl rfl) h1
  have hbn := bounds_i64 wfn
  obtain ⟨k, rfl, rfl, rfl, wfk⟩ := open_int Try.underlying3 (hval 2 3 v2 rfl rfl) h2
  have hbk := bounds_i64 wfk
  rw [hvm] at hW' ⊢
  refine (lawThin_any Am cm m n k W (by unfold maxLen at hcm; omega) hlcm hbn hBm).mono fun e W' ⟨he, hb⟩ => ?_
  subst he
  exact ⟨_, rfl, law_post (by decide +kernel) rfl rfl hW' rfl hb⟩

set_option maxRecDepth 100000 in
theorem thin_closed : joinedFacts Try.prog 6 Try.f6 Rows.marksThinStayNearSpec Rows.marksThinStayNearRow = true :=
  closed_all (by as_aux_lemma => kernel_rfl) (by as_aux_lemma => kernel_rfl) (by as_aux_lemma => kernel_rfl) (by as_aux_lemma => kernel_rfl) (by as_aux_lemma => kernel_rfl) (by as_aux_lemma => kernel_rfl) (by as_aux_lemma => kernel_rfl) (by as_aux_lemma => kernel_rfl) (by as_aux_lemma => kernel_rfl) (by as_aux_lemma => kernel_rfl) (by as_aux_lemma => kernel_rfl) (by as_aux_lemma => kernel_rfl) (by as_aux_lemma => kernel_rfl) (by as_aux_lemma => kernel_rfl) (by as_aux_lemma => kernel_rfl) (by as_aux_lemma => kernel_rfl) (by as_aux_lemma => kernel_rfl) (by as_aux_lemma => kernel_rfl) pKeys (by as_aux_lemma => kernel_rfl) pLifts pMake (by as_aux_lemma => kernel_rfl) (by as_aux_lemma => kernel_rfl) (by as_aux_lemma => kernel_rfl) (by as_aux_lemma => kernel_rfl)

theorem thin_holds : Rows.MarksThinStayNearSaid :=
  OpenClaim.holds_of_wide 6 Try.f6 rfl rfl rfl rfl rfl rfl rfl ⟨rfl, rfl, rfl, rfl, rfl⟩ rfl rfl rfl rfl rfl (by kernel_rfl) Try.func6 thin_closed
    (of_decide_eq_true (by kernel_rfl)) (by unfold Func.isWrapper; first | (rw [if_pos (by decide +kernel)]; kernel_rfl) | (rw [if_neg (by decide +kernel)]; exact ⟨rfl, rfl⟩))
    (fun os started H enc _ => thin_lifted os started H enc)
#print axioms thin_holds
end Go.Proofs.Ytpccpkjfnmclfaa
