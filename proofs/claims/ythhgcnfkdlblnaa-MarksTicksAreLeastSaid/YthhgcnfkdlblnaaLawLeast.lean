/- The tick of a time has at least this time, and the one before it has not: the law MarksTicksAreLeast answers true for every input. No condition. -/
import Derived.Test.YthhgcnfkdlblnaaTickOf
import Derived.Test.YthhgcnfkdlblnaaLawNever
namespace Go.Proofs.Ythhgcnfkdlblnaa
open Go.ChangeShapes Go.WideShapes Go.ChangeAt Go.RowKit

theorem TickR.zero {l : List Mk} {z t F : Int} (h : TickR l z (t, F)) (hF : F ≠ 0) : t = 0 := by
  rcases h with ⟨_, e⟩ | ⟨_, ⟨u, e, _⟩ | ⟨e, _⟩⟩
  · injection e
  · injection e with e1 e2; exact absurd e2 hF
  · injection e
theorem TickR.ok {l : List Mk} {z t : Int} (h : TickR l z (t, 0)) : ckN l z = 0 ∧ (0 ≤ t ∧ t ≤ 1000000000000) ∧ (∀ x, TimeP l t x → z ≤ x) ∧ (t = 0 ∨ ∀ x, TimeP l (t - 1) x → x < z) := by
  rcases h with ⟨c, e⟩ | ⟨c, ⟨u, e, h0, h1, h2, h3⟩ | ⟨e, _⟩⟩
  · injection e with e1 e2; exact absurd e2.symm c
  · injection e with e1 e2
    subst e1
    exact ⟨c, ⟨h0, h1⟩, h2, h3⟩
  · injection e with e1 e2; simp at e2
theorem least_up {l : List Mk} {z t a : Int} (h : TickR l z (t, 0)) (h' : TimeR l t (a, 0)) : z ≤ a := h.ok.2.2.1 a h'.ok.2.1
theorem least_down {l : List Mk} {z t a : Int} (h : TickR l z (t, 0)) (h0 : t ≠ 0) (h' : TimeR l (t - 1) (a, 0)) : a < z := by
  rcases h.ok.2.2.2 with e | e
  · exact absurd e h0
  · exact e a h'.ok.2.1

set_option maxRecDepth 100000 in
set_option maxHeartbeats 2000000 in
theorem lawLeast_any (A : Option Addr) (c : Nat) (l : List Mk) (z : Int) (w : World) (hl : l.length ≤ 9223372036854775807) (hA : MR w w.heap.size A l) :
    Calls Try.prog 8 #[.slice A l.length c, .int .i64 z] w fun e w' => e = .returned (.bool true) ∧ Below w.heap.size w w' := by
  have HT := Lib.hid (fun (w' : World) (hb : Below w.heap.size w w') (n : Int) => timeOf_any A c l n w' hl ((hA.below hb).lift hb.size))
  have HK := Lib.hid (tickOf_any A c l z w hl hA)
  clear hA
  unfold TimeOfPost at HT
  unfold TickOfPost at HK
  go_enter Try.func8, Try.ntmps8
  go_wp2_with fail
  refine HK.out.mono ?_
  rintro e w1 ⟨⟨t, F, rfl, ht⟩, hb1⟩
  by_cases hF : F = 0
  · subst hF
    obtain ⟨-, ⟨t0, t1⟩, -⟩ := ht.ok
    have HTK := Lib.hid ht
    clear ht
    go_wp2_with fail
    refine (HT.out w1 hb1 t).mono ?_
    rintro e w2 ⟨⟨a, G, rfl, ha⟩, hb2⟩
    have g2 := hb1.trans (hb2.mono hb1.size)
    have hcond : ((G : Int) == 0) = false ∨ (G = 0 ∧ decide (a < z) = false) := by
      by_cases hG : G = 0
      · subst hG
        have := least_up HTK.out ha
        exact .inr ⟨rfl, by simp; omega⟩
      · exact .inl (by simpa using hG)
    clear ha hb2
    by_cases hz : t = 0
    · subst hz
      rcases hcond with hG | ⟨rfl, ha2⟩
      all_goals
        go_wp2_with fail
        refine (awake_any _).mono ?_
        rintro e w4 ⟨rfl, hb4⟩
        go_wp2_with fail
        go_ret
        exact ⟨rfl, g2.trans (hb4.mono g2.size)⟩
    · have hz1 : ((t : Int) == 0) = false := by simpa using hz
      have wt : IntKind.i64.wrap (t - 1) = t - 1 := IntWalk.i64_in _ (by omega)
      have HD := Lib.hid (fun (b : Int) h => least_down (a := b) HTK.out hz h)
      rcases hcond with hG | ⟨rfl, ha2⟩
      all_goals
        go_wp2_with fail
        refine (HT.out w2 g2 (t - 1)).mono ?_
        rintro e w3 ⟨⟨b, G', rfl, hb⟩, hb3⟩
        have g3 := g2.trans (hb3.mono g2.size)
        have hcond2 : ((G' : Int) != 0) = true ∨ (G' = 0 ∧ decide (b < z) = true) := by
          by_cases hG' : G' = 0
          · subst hG'
            have := HD.out b hb
            exact .inr ⟨rfl, by simpa using this⟩
          · exact .inl (by simpa using hG')
        clear hb hb3
        rcases hcond2 with hG2 | ⟨rfl, hb5⟩
        all_goals
          go_wp2_with fail
          refine (awake_any _).mono ?_
          rintro e w4 ⟨rfl, hb4⟩
          go_wp2_with fail
          go_ret
          exact ⟨rfl, g3.trans (hb4.mono g3.size)⟩
  · have h0 := ht.zero hF
    subst h0
    have hF1 : ((F : Int) != 0) = true := by simpa using hF
    clear ht hF
    go_wp2_with fail
    refine (awake_any _).mono ?_
    rintro e w2 ⟨rfl, hb2⟩
    go_wp2_with fail
    go_ret
    exact ⟨rfl, hb1.trans (hb2.mono hb1.size)⟩

set_option maxHeartbeats 1600000 in
set_option maxRecDepth 100000 in
theorem least_lifted (os : Os) (started : os.Started) (H : Type) (enc : TypeId × Value → H) :
    ReturnsInHanded {} Try.checked os 8 .any (Rows.marksTicksAreLeastSpec.pre6 enc Try.prog Try.f8 Rows.marksTicksAreLeastRow.domain false) (Rows.marksTicksAreLeastSpec.post enc Try.prog Try.f8 false true false false) := by
  refine returnsInHanded_of_change (C := Try.checked) own started (by kernel_rfl) Try.func8
    (ChangeSpec.witness6 (enc := enc) (C := Try.checked) false ⟨#[], #[.slice none 0 0, .int .i64 0], []⟩ 8 (by kernel_rfl) (by kernel_rfl) (by kernel_rfl) (by kernel_rfl)) ?_
  intro W base args ds gs before hval0 hW _ _
  have hval : ∀ (j : Nat) t v, Try.f8.params[j]? = some t → args[j]? = some v → Value.okWide Try.prog W .any base t v := hval0
  have hW' := hW
  have hlt := fun x hx => hW'.lt x hx
  obtain ⟨p, q, hA0, hV, rfl, _, _⟩ := hW
  have hA : DataW.TrodAll enc Try.prog W 0 (fun _ => true) true Try.f8.params.toList args.toList ds p := hA0
  rw [Try.params8] at hA hval
  obtain ⟨v0, v1, d0, d1, p0, p1, rfl, rfl, rfl, h0, h1⟩ := trodAll_two hA
  obtain ⟨rfl, rfl⟩ := trodVars_none hV
  obtain ⟨Am', lenm, capm, rfl⟩ := okWide_slice Try.underlying31 (hval 0 31 v0 rfl rfl)
  obtain ⟨nm, hnm⟩ := h0
  obtain ⟨Am, cm, m, hvm, hlcm, hcm, hBm, hIm⟩ := open_marks (fun x hx => hlt x (by simp [hx])) hnm
  obtain ⟨z, rfl, rfl, rfl, wfz⟩ := open_int Try.underlying3 (hval 1 3 v1 rfl rfl) h1
  have hbz := bounds_i64 wfz
  rw [hvm] at hW' ⊢
  refine (lawLeast_any Am cm m z W (by unfold maxLen at hcm; omega) hBm).mono fun e W' ⟨he, hb⟩ => ?_
  subst he
  exact ⟨_, rfl, law_post (by decide +kernel) rfl rfl hW' rfl hb⟩

set_option maxRecDepth 100000 in
theorem least_closed : joinedFacts Try.prog 8 Try.f8 Rows.marksTicksAreLeastSpec Rows.marksTicksAreLeastRow = true :=
  closed_all (by as_aux_lemma => kernel_rfl) (by as_aux_lemma => kernel_rfl) (by as_aux_lemma => kernel_rfl) (by as_aux_lemma => kernel_rfl) (by as_aux_lemma => kernel_rfl) (by as_aux_lemma => kernel_rfl) (by as_aux_lemma => kernel_rfl) (by as_aux_lemma => kernel_rfl) (by as_aux_lemma => kernel_rfl) (by as_aux_lemma => kernel_rfl) (by as_aux_lemma => kernel_rfl) (by as_aux_lemma => kernel_rfl) (by as_aux_lemma => kernel_rfl) (by as_aux_lemma => kernel_rfl) (by as_aux_lemma => kernel_rfl) (by as_aux_lemma => kernel_rfl) (by as_aux_lemma => kernel_rfl) (by as_aux_lemma => kernel_rfl) pKeys (by as_aux_lemma => kernel_rfl) pLifts pMake (by as_aux_lemma => kernel_rfl) (by as_aux_lemma => kernel_rfl) (by as_aux_lemma => kernel_rfl) (by as_aux_lemma => kernel_rfl)

theorem least_holds : Rows.MarksTicksAreLeastSaid :=
  OpenClaim.holds_of_wide 8 Try.f8 rfl rfl rfl rfl rfl rfl rfl ⟨rfl, rfl, rfl, rfl, rfl⟩ rfl rfl rfl rfl rfl (by kernel_rfl) Try.func8 least_closed
    (of_decide_eq_true (by kernel_rfl)) (by unfold Func.isWrapper; first | (rw [if_pos (by decide +kernel)]; kernel_rfl) | (rw [if_neg (by decide +kernel)]; exact ⟨rfl, rfl⟩))
    (fun os started H enc _ => least_lifted os started H enc)
#print axioms least_holds
end Go.Proofs.Ythhgcnfkdlblnaa
