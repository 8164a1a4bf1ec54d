/- Values that are squeezed are spread again, and bytes that are spread are what these values are squeezed to: the law TelemetrySqueezedComesBack answers true for every input. No condition. -/
import Derived.Test.YtdcnpbdkhcdinaaSpS
import Derived.Test.YtdcnpbdkhcdinaaAwk
import Derived.Test.YtdcnpbdkhcdinaaEqualI
import Derived.Test.YtdcnpbdkhcdinaaOpenU
import Derived.Test.YtdcnpbdkhcdinaaClosed
namespace Go.Proofs.Ytdcnpbdkhcdinaa
open Go.ChangeShapes Go.WideShapes Go.ChangeAt Go.RowKit

theorem sp_nonzero {b : List UInt8} (h : spF b ≠ 0) : spR b = [] := by
  refine (sp_none fun l hl => h (sp_good hl).1).2
set_option maxRecDepth 100000 in
set_option maxHeartbeats 8000000 in
theorem lawSqz_any (A : Option Addr) (l : List Int) (c : Nat) (A' : Option Addr) (b : List UInt8) (c' : Nat) (w : World) (hll : l.length ≤ 9223372036854775807) (hlc : l.length ≤ c) (hbl : b.length ≤ 9223372036854775807) (hbc : b.length ≤ c') (hL : IR w w.heap.size A l) (hB : BR w w.heap.size A' b) :
    Calls Try.prog 4 #[.slice A l.length c, .slice A' b.length c'] w fun e w' => e = .returned (.bool true) ∧ Below w.heap.size w w' := by
  have HP := Lib.hid (p_squeezed_any A l c w.heap.size w (Nat.le_refl _) hll hlc hL)
  have HS2 := Lib.hid (fun w1 (hb : Below w.heap.size w w1) => p_Spread_any A' b c' w.heap.size w1 hb.size hbl hbc (hB.below hb))
  have HAW := Lib.hid awake_any
  have HGD : Hid (sqF l = 0 → GoodB l (sqR l)) := Lib.hid (fun h => ⟨h, rfl⟩)
  have HSL : Hid (sqF l = 0 → (sqR l).length ≤ 30000) := Lib.hid (fun h => good_len ⟨h, rfl⟩)
  unfold SprPost at HS2
  generalize sqF l = F at *
  generalize sqR l = S at *
  go_enter Try.func4, Try.ntmps4
  go_wp2_with fail
  refine HP.out.mono ?_
  rintro e w1 ⟨v1, rfl, ho1, hb1⟩
  obtain ⟨A1, c1, rfl, hr1, -, hlk1, hkm1⟩ := ho1.form5
  by_cases hF : F = 0
  · subst hF
    have hSl := HSL.out rfl
    have HSP := Lib.hid (p_Spread_any A1 S c1 w1.heap.size w1 (Nat.le_refl _) (by omega) hlk1 hr1)
    obtain ⟨k1, k2⟩ := sp_good (HGD.out rfl)
    unfold SprPost at HSP
    rw [k1, k2] at HSP
    clear k1 k2 ho1 hr1 HGD HSL HP
    go_wp2_with fail
    refine HSP.out.mono ?_
    rintro e w2 ⟨v2, rfl, ho2, hb2⟩
    obtain ⟨A2, c2, rfl, hr2, -⟩ := ho2.form9
    have B2 := hb1.trans (hb2.mono hb1.size)
    have HE := Lib.hid (equalI_yes A2 A c2 c l w2.heap.size w2 hll hr2 ((hL.below B2).lift B2.size))
    clear ho2 hr2 HSP
    go_wp2_with fail
    refine HE.out.mono ?_
    rintro e w3 ⟨rfl, hb3⟩
    have B3 := B2.trans (hb3.mono B2.size)
    go_wp2_with fail
    refine (HS2.out w3 B3).mono ?_
    rintro e w5 ⟨v5, rfl, ho5, hb5⟩
    have hz5 := hb5.size
    have B5 := (B3).trans (hb5.mono (B3).size)
    obtain ⟨A5, c5, rfl, hr5, hlc5⟩ := ho5.form9
    have HZ := Lib.hid (@sp_zero b)
    have HN0 := Lib.hid (@sp_nonzero b)
    generalize spF b = G at *
    generalize spR b = vs at *
    by_cases hG : G = 0
    · subst hG
      obtain ⟨g1, g2⟩ := HZ.out rfl
      have hvl := (sqF_zero g1).1
      have HQ := Lib.hid (p_squeezed_any A5 vs c5 w5.heap.size w5 (Nat.le_refl _) (by omega) hlc5 hr5)
      rw [g1, g2] at HQ
      have hbb := (hB.below B5).lift B5.size
      clear HZ HN0 g1 g2 ho5 hr5
      go_wp2_with fail
      refine HQ.out.mono ?_
      rintro e w6 ⟨v6, rfl, ho6, hb6⟩
      obtain ⟨A6, c6, rfl, hr6⟩ := ho6.form
      have B6 := B5.trans (hb6.mono B5.size)
      have HE := Lib.hid (equal_yes A6 A' c6 c' b w6.heap.size w6 hbl hr6 ((hbb.below hb6).lift hb6.size))
      clear ho6 hr6 hbb
      go_wp2_with fail
      refine HE.out.mono ?_
      rintro e w7 ⟨rfl, hb7⟩
      go_wp2_with fail
      refine (HAW.out _).mono ?_
      rintro e w8 ⟨rfl, hb8⟩
      have hb78 := hb7.trans (hb8.mono hb7.size)
      go_wp2_with fail
      go_ret
      exact ⟨rfl, B6.trans (hb78.mono B6.size)⟩
    · have dG : (G != 0) = true := by simpa using hG
      have hvs := HN0.out hG
      subst hvs
      clear hG HZ HN0 ho5 hr5
      simp only [List.length_nil]
      go_wp2_with fail
      refine (HAW.out _).mono ?_
      rintro e w8 ⟨rfl, hb8⟩
      go_wp2_with fail
      go_ret
      exact ⟨rfl, B5.trans (hb8.mono B5.size)⟩
  · have dF : (F == 0) = false := by simpa using hF
    clear hF HGD HSL HP ho1 hr1
    go_wp2_with fail
    refine (HS2.out w1 hb1).mono ?_
    rintro e w5 ⟨v5, rfl, ho5, hb5⟩
    have hz5 := hb5.size
    have B5 := (hb1).trans (hb5.mono (hb1).size)
    obtain ⟨A5, c5, rfl, hr5, hlc5⟩ := ho5.form9
    have HZ := Lib.hid (@sp_zero b)
    have HN0 := Lib.hid (@sp_nonzero b)
    generalize spF b = G at *
    generalize spR b = vs at *
    by_cases hG : G = 0
    · subst hG
      obtain ⟨g1, g2⟩ := HZ.out rfl
      have hvl := (sqF_zero g1).1
      have HQ := Lib.hid (p_squeezed_any A5 vs c5 w5.heap.size w5 (Nat.le_refl _) (by omega) hlc5 hr5)
      rw [g1, g2] at HQ
      have hbb := (hB.below B5).lift B5.size
      clear HZ HN0 g1 g2 ho5 hr5
      go_wp2_with fail
      refine HQ.out.mono ?_
      rintro e w6 ⟨v6, rfl, ho6, hb6⟩
      obtain ⟨A6, c6, rfl, hr6⟩ := ho6.form
      have B6 := B5.trans (hb6.mono B5.size)
      have HE := Lib.hid (equal_yes A6 A' c6 c' b w6.heap.size w6 hbl hr6 ((hbb.below hb6).lift hb6.size))
      clear ho6 hr6 hbb
      go_wp2_with fail
      refine HE.out.mono ?_
      rintro e w7 ⟨rfl, hb7⟩
      go_wp2_with fail
      refine (HAW.out _).mono ?_
      rintro e w8 ⟨rfl, hb8⟩
      have hb78 := hb7.trans (hb8.mono hb7.size)
      go_wp2_with fail
      go_ret
      exact ⟨rfl, B6.trans (hb78.mono B6.size)⟩
    · have dG : (G != 0) = true := by simpa using hG
      have hvs := HN0.out hG
      subst hvs
      clear hG HZ HN0 ho5 hr5
      simp only [List.length_nil]
      go_wp2_with fail
      refine (HAW.out _).mono ?_
      rintro e w8 ⟨rfl, hb8⟩
      go_wp2_with fail
      go_ret
      exact ⟨rfl, B5.trans (hb8.mono B5.size)⟩

set_option maxHeartbeats 1600000 in
set_option maxRecDepth 100000 in
theorem sqb_lifted (os : Os) (started : os.Started) (H : Type) (enc : TypeId × Value → H) :
    ReturnsInHanded {} Try.checked os 4 .any (Rows.telemetrySqueezedComesBackSpec.pre6 enc Try.prog Try.f4 Rows.telemetrySqueezedComesBackRow.domain false) (Rows.telemetrySqueezedComesBackSpec.post enc Try.prog Try.f4 false true false false) := by
  refine returnsInHanded_of_change (C := Try.checked) own started (by kernel_rfl) Try.func4
    (ChangeSpec.witness6 (enc := enc) (C := Try.checked) false ⟨#[], #[.slice none 0 0, .slice none 0 0], []⟩ 8 (by kernel_rfl) (by kernel_rfl) (by kernel_rfl) (by kernel_rfl)) ?_
  intro W base args ds gs before hval0 hW _ _
  have hval : ∀ (j : Nat) t v, Try.f4.params[j]? = some t → args[j]? = some v → Value.okWide Try.prog W .any base t v := hval0
  have hW' := hW
  have hlt := fun x hx => hW'.lt x hx
  obtain ⟨p, q, hA0, hV, rfl, _, _⟩ := hW
  have hA : DataW.TrodAll enc Try.prog W 0 (fun _ => true) true Try.f4.params.toList args.toList ds p := hA0
  rw [Try.params4] at hA hval
  obtain ⟨v0, v1, d0, d1, p0, p1, rfl, rfl, rfl, h0, h1⟩ := trodAll_two hA
  obtain ⟨rfl, rfl⟩ := trodVars_none hV
  obtain ⟨Am', lenm, capm, rfl⟩ := okWide_slice Try.underlying22 (hval 0 22 v0 rfl rfl)
  obtain ⟨nm, hnm⟩ := h0
  obtain ⟨Am, cm, m, hvm, hlcm, hcm, hBm, hIm⟩ := open_is (fun x hx => hlt x (by simp [hx])) hnm
  obtain ⟨Ab', lenb, capb, rfl⟩ := okWide_slice Try.underlying23 (hval 1 23 v1 rfl rfl)
  obtain ⟨nb, hnb⟩ := h1
  obtain ⟨Ab, cb, b, hvb, hlcb, hcb, hBb⟩ := open_u8s (fun x hx => hlt x (by simp [hx])) hnb
  rw [hvm] at hW' ⊢
  rw [hvb] at hW' ⊢
  refine (lawSqz_any Am m cm Ab b cb W (by have := hlcm; have := hcm; unfold maxLen at *; omega) hlcm (by have := hlcb; have := hcb; unfold maxLen at *; omega) hlcb hBm hBb).mono fun e W' ⟨he, hb⟩ => ?_
  subst he
  exact ⟨_, rfl, law_post (by decide +kernel) rfl rfl hW' rfl hb⟩

set_option maxRecDepth 100000 in
theorem sqb_closed : joinedFacts Try.prog 4 Try.f4 Rows.telemetrySqueezedComesBackSpec Rows.telemetrySqueezedComesBackRow = true :=
  closed_all (by as_aux_lemma => kernel_rfl) (by as_aux_lemma => kernel_rfl) (by as_aux_lemma => kernel_rfl) (by as_aux_lemma => kernel_rfl) (by as_aux_lemma => kernel_rfl) (by as_aux_lemma => kernel_rfl) (by as_aux_lemma => kernel_rfl) (by as_aux_lemma => kernel_rfl) (by as_aux_lemma => kernel_rfl) (by as_aux_lemma => kernel_rfl) (by as_aux_lemma => kernel_rfl) (by as_aux_lemma => kernel_rfl) (by as_aux_lemma => kernel_rfl) (by as_aux_lemma => kernel_rfl) (by as_aux_lemma => kernel_rfl) (by as_aux_lemma => kernel_rfl) (by as_aux_lemma => kernel_rfl) (by as_aux_lemma => kernel_rfl) pKeys (by as_aux_lemma => kernel_rfl) pLifts pMake (by as_aux_lemma => kernel_rfl) (by as_aux_lemma => kernel_rfl) (by as_aux_lemma => kernel_rfl) (by as_aux_lemma => kernel_rfl)

theorem sqb_holds : Rows.TelemetrySqueezedComesBackSaid :=
  OpenClaim.holds_of_wide 4 Try.f4 rfl rfl rfl rfl rfl rfl rfl ⟨rfl, rfl, rfl, rfl, rfl⟩ rfl rfl rfl rfl rfl (by kernel_rfl) Try.func4 sqb_closed
    (of_decide_eq_true (by kernel_rfl)) (by unfold Func.isWrapper; first | (rw [if_pos (by decide +kernel)]; kernel_rfl) | (rw [if_neg (by decide +kernel)]; exact ⟨rfl, rfl⟩))
    (fun os started H enc _ => sqb_lifted os started H enc)
#print axioms sqb_holds
end Go.Proofs.Ytdcnpbdkhcdinaa
