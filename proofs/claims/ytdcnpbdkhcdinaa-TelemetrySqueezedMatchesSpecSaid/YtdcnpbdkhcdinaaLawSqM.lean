/- Both Squeezed and both Spread answer the same, whatever values and bytes they are asked: the law TelemetrySqueezedMatchesSpec answers true for every input. No condition. -/
import Derived.Test.YtdcnpbdkhcdinaaRSpS
import Derived.Test.YtdcnpbdkhcdinaaAwk
import Derived.Test.YtdcnpbdkhcdinaaEqualI
import Derived.Test.YtdcnpbdkhcdinaaOpenU
import Derived.Test.YtdcnpbdkhcdinaaClosed
namespace Go.Proofs.Ytdcnpbdkhcdinaa
open Go.ChangeShapes Go.WideShapes Go.ChangeAt Go.RowKit

theorem sqr_short (l : List Int) : (sqR l).length ≤ 30000 := by
  by_cases h : sqF l = 0
  · exact good_len ⟨h, rfl⟩
  · have e : sqR l = [] := by unfold sqR; rw [if_neg h]
    rw [e]; simp
theorem spr_short (b : List UInt8) : (spR b).length ≤ 5000 := by
  by_cases h : spF b = 0
  · exact (sqF_zero (sp_zero h).1).1
  · have e : spR b = [] := (sp_none fun l hl => h (sp_good hl).1).2
    rw [e]; simp
set_option maxRecDepth 100000 in
set_option maxHeartbeats 8000000 in
theorem lawSqm_any (A : Option Addr) (l : List Int) (c : Nat) (A' : Option Addr) (b : List UInt8) (c' : Nat) (w : World) (hll : l.length ≤ 9223372036854775807) (hlc : l.length ≤ c) (hbl : b.length ≤ 9223372036854775807) (hbc : b.length ≤ c') (hL : IR w w.heap.size A l) (hB : BR w w.heap.size A' b) :
    Calls Try.prog 3 #[.slice A l.length c, .slice A' b.length c'] w fun e w' => e = .returned (.bool true) ∧ Below w.heap.size w w' := by
  have HP := Lib.hid (p_squeezed_any A l c w.heap.size w (Nat.le_refl _) hll hlc hL)
  have HR := Lib.hid (fun w1 (hb : Below w.heap.size w w1) => r_squeezed_any A l c w.heap.size w1 hb.size hll (hL.below hb))
  have HSP := Lib.hid (fun w1 (hb : Below w.heap.size w w1) => p_Spread_any A' b c' w.heap.size w1 hb.size hbl hbc (hB.below hb))
  have HSR := Lib.hid (fun w1 (hb : Below w.heap.size w w1) => r_Spread_any A' b c' w.heap.size w1 hb.size hbl hbc (hB.below hb))
  have HAW := Lib.hid awake_any
  have hS := sqr_short l
  have hV := spr_short b
  unfold SprPost at HSP HSR
  generalize sqF l = F at *
  generalize sqR l = S at *
  generalize spF b = G at *
  generalize spR b = V at *
  have dF : (F != F) = false := by simp
  have dG : (G == G) = true := by simp
  clear hL hB
  go_enter Try.func3, Try.ntmps3
  go_wp2_with fail
  refine HP.out.mono ?_
  rintro e w1 ⟨v1, rfl, ho1, hb1⟩
  obtain ⟨A1, c1, rfl, hr1⟩ := ho1.form
  clear ho1
  go_wp2_with fail
  refine (HR.out w1 hb1).mono ?_
  rintro e w2 ⟨v2, rfl, ho2, hb2⟩
  obtain ⟨A2, c2, rfl, hr2⟩ := ho2.form
  have B2 := hb1.trans (hb2.mono hb1.size)
  have HE := Lib.hid (equal_yes A1 A2 c1 c2 S w2.heap.size w2 (by omega) ((hr1.below hb2).lift hb2.size) hr2)
  clear ho2 hr1 hr2
  go_wp2_with fail
  refine HE.out.mono ?_
  rintro e w3 ⟨rfl, hb3⟩
  have B3 := B2.trans (hb3.mono B2.size)
  clear hb1 hb2 hb3
  go_wp2_with fail
  refine (HSP.out w3 B3).mono ?_
  rintro e w4 ⟨v4, rfl, ho4, hb4⟩
  have B4 := B3.trans (hb4.mono B3.size)
  obtain ⟨A4, c4, rfl, hr4, -⟩ := ho4.form9
  clear ho4
  go_wp2_with fail
  refine (HSR.out w4 B4).mono ?_
  rintro e w5 ⟨v5, rfl, ho5, hb5⟩
  have B5 := B4.trans (hb5.mono B4.size)
  obtain ⟨A5, c5, rfl, hr5, -⟩ := ho5.form9
  have HI := Lib.hid (equalI_yes A4 A5 c4 c5 V w5.heap.size w5 (by omega) ((hr4.below hb5).lift hb5.size) hr5)
  clear ho5 hr4 hr5
  go_wp2_with fail
  refine HI.out.mono ?_
  rintro e w6 ⟨rfl, hb6⟩
  have B6 := B5.trans (hb6.mono B5.size)
  go_wp2_with fail
  refine (HAW.out _).mono ?_
  rintro e w7 ⟨rfl, hb7⟩
  go_wp2_with fail
  go_ret
  exact ⟨rfl, B6.trans (hb7.mono B6.size)⟩

set_option maxHeartbeats 1600000 in
set_option maxRecDepth 100000 in
theorem sqm_lifted (os : Os) (started : os.Started) (H : Type) (enc : TypeId × Value → H) :
    ReturnsInHanded {} Try.checked os 3 .any (Rows.telemetrySqueezedMatchesSpecSpec.pre6 enc Try.prog Try.f3 Rows.telemetrySqueezedMatchesSpecRow.domain false) (Rows.telemetrySqueezedMatchesSpecSpec.post enc Try.prog Try.f3 false true false false) := by
  refine returnsInHanded_of_change (C := Try.checked) own started (by kernel_rfl) Try.func3
    (ChangeSpec.witness6 (enc := enc) (C := Try.checked) false ⟨#[], #[.slice none 0 0, .slice none 0 0], []⟩ 8 (by kernel_rfl) (by kernel_rfl) (by kernel_rfl) (by kernel_rfl)) ?_
  intro W base args ds gs before hval0 hW _ _
  have hval : ∀ (j : Nat) t v, Try.f3.params[j]? = some t → args[j]? = some v → Value.okWide Try.prog W .any base t v := hval0
  have hW' := hW
  have hlt := fun x hx => hW'.lt x hx
  obtain ⟨p, q, hA0, hV, rfl, _, _⟩ := hW
  have hA : DataW.TrodAll enc Try.prog W 0 (fun _ => true) true Try.f3.params.toList args.toList ds p := hA0
  rw [Try.params3] at hA hval
  obtain ⟨v0, v1, d0, d1, p0, p1, rfl, rfl, rfl, h0, h1⟩ := trodAll_two hA
  obtain ⟨rfl, rfl⟩ := trodVars_none hV
  obtain ⟨Am', lenm, capm, rfl⟩ := okWide_slice Try.underlying22 (hval 0 22 v0 rfl rfl)
  obtain ⟨nm, hnm⟩ := h0
  obtain ⟨Am, cm, m, hvm, hlcm, hcm, hBm, hIm⟩ := open_is (fun x hx => hlt x (by simp [hx])) hnm
  obtain ⟨Ab', lenb, capb, rfl⟩ := okWide_slice Try.underlying23 (hval 1 23 v1 rfl rfl)
  obtain ⟨nb, hnb⟩ := h1
  obtain ⟨Ab, cb, b, hvb, hlcb, hcb, hBb⟩ := open_u8s (fun x hx => hlt x (by simp [hx])) hnb
  rw [hvm] at hW' ⊢
  rw [hvb] at hW' ⊢
  refine (lawSqm_any Am m cm Ab b cb W (by have := hlcm; have := hcm; unfold maxLen at *; omega) hlcm (by have := hlcb; have := hcb; unfold maxLen at *; omega) hlcb hBm hBb).mono fun e W' ⟨he, hb⟩ => ?_
  subst he
  exact ⟨_, rfl, law_post (by decide +kernel) rfl rfl hW' rfl hb⟩

set_option maxRecDepth 100000 in
theorem sqm_closed : joinedFacts Try.prog 3 Try.f3 Rows.telemetrySqueezedMatchesSpecSpec Rows.telemetrySqueezedMatchesSpecRow = true :=
  closed_all (by as_aux_lemma => kernel_rfl) (by as_aux_lemma => kernel_rfl) (by as_aux_lemma => kernel_rfl) (by as_aux_lemma => kernel_rfl) (by as_aux_lemma => kernel_rfl) (by as_aux_lemma => kernel_rfl) (by as_aux_lemma => kernel_rfl) (by as_aux_lemma => kernel_rfl) (by as_aux_lemma => kernel_rfl) (by as_aux_lemma => kernel_rfl) (by as_aux_lemma => kernel_rfl) (by as_aux_lemma => kernel_rfl) (by as_aux_lemma => kernel_rfl) (by as_aux_lemma => kernel_rfl) (by as_aux_lemma => kernel_rfl) (by as_aux_lemma => kernel_rfl) (by as_aux_lemma => kernel_rfl) (by as_aux_lemma => kernel_rfl) pKeys (by as_aux_lemma => kernel_rfl) pLifts pMake (by as_aux_lemma => kernel_rfl) (by as_aux_lemma => kernel_rfl) (by as_aux_lemma => kernel_rfl) (by as_aux_lemma => kernel_rfl)

theorem sqm_holds : Rows.TelemetrySqueezedMatchesSpecSaid :=
  OpenClaim.holds_of_wide 3 Try.f3 rfl rfl rfl rfl rfl rfl rfl ⟨rfl, rfl, rfl, rfl, rfl⟩ rfl rfl rfl rfl rfl (by kernel_rfl) Try.func3 sqm_closed
    (of_decide_eq_true (by kernel_rfl)) (by unfold Func.isWrapper; first | (rw [if_pos (by decide +kernel)]; kernel_rfl) | (rw [if_neg (by decide +kernel)]; exact ⟨rfl, rfl⟩))
    (fun os started H enc _ => sqm_lifted os started H enc)
#print axioms sqm_holds
end Go.Proofs.Ytdcnpbdkhcdinaa
