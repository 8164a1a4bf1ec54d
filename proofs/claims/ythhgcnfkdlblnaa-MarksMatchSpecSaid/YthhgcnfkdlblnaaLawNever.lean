/- A later tick has no earlier time, and at a mark the time is that of the mark: the law MarksTimesNeverFall answers true for every input. No condition. -/
import Derived.Test.YthhgcnfkdlblnaaTimeOf
import Derived.Test.YthhgcnfkdlblnaaAwake
import Derived.Test.YthhgcnfkdlblnaaCloseM
import Derived.Test.YthhgcnfkdlblnaaClosed
namespace Go.Proofs.Ythhgcnfkdlblnaa
open Go.ChangeShapes Go.WideShapes Go.ChangeAt Go.RowKit

theorem TimeR.zero {l : List Mk} {n a F : Int} (h : TimeR l n (a, F)) (hF : F ≠ 0) : a = 0 := by
  rcases h with ⟨_, e⟩ | ⟨_, x, _, e⟩
  · injection e
  · split at e
    · injection e with e1 e2; exact absurd e2 hF
    · injection e
theorem TimeR.ok {l : List Mk} {n a : Int} (h : TimeR l n (a, 0)) : ckN l n = 0 ∧ TimeP l n a ∧ 0 ≤ a ∧ a ≤ 1000000000000 := by
  rcases h with ⟨c, e⟩ | ⟨c, x, hx, e⟩
  · injection e with e1 e2; exact absurd e2.symm c
  · split at e
    · rename_i hb
      injection e with e1 e2
      subst e1
      exact ⟨c, hx, hb⟩
    · injection e with e1 e2; simp at e2
theorem TimeR.mono {l : List Mk} {n m a b : Int} (h : TimeR l n (a, 0)) (h' : TimeR l m (b, 0)) (hnm : n ≤ m) : a ≤ b := by
  obtain ⟨c, p, _⟩ := h.ok
  obtain ⟨_, q, _⟩ := h'.ok
  exact TimeP.mono (ckN_ok c).2.2.2.2.2 p q hnm
theorem ckN_in {l : List Mk} {n m : Int} (h : ckN l n = 0) (hm : 0 ≤ m ∧ m ≤ 1000000000000) : ckN l m = 0 := by
  obtain ⟨a, b, c⟩ := ckN_ok h
  have := c.1
  unfold ckN
  rw [if_neg (by simpa using a), if_neg (by omega), if_neg (by omega)]
theorem TimeR.mark {l : List Mk} {n a b F : Int} {i : Nat} (h : TimeR l n (a, 0)) (hi : i < l.length) (h' : TimeR l l[i].t (b, F)) : F = 0 ∧ b = l[i].z := by
  obtain ⟨c, p, _⟩ := h.ok
  obtain ⟨c1, c2, c3, c4, c5, c6⟩ := ckN_ok c
  obtain ⟨x1, x2, x3⟩ := c5 _ (List.getElem_mem hi)
  have c' := ckN_in c x1
  rcases h' with ⟨d, _⟩ | ⟨d, x, hx, e⟩
  · exact absurd c' d
  · have := TimeP.mark c6 hi hx
    subst this
    rw [if_pos x2] at e
    injection e with e1 e2
    exact ⟨e2, e1⟩

set_option maxRecDepth 100000 in
set_option maxHeartbeats 2000000 in
theorem lawNever_any (A : Option Addr) (c : Nat) (l : List Mk) (n m k : Int) (w : World) (hl : l.length ≤ 9223372036854775807) (hA : MR w w.heap.size A l) :
    Calls Try.prog 7 #[.slice A l.length c, .int .i64 n, .int .i64 m, .int .i64 k] w fun e w' => e = .returned (.bool true) ∧ Below w.heap.size w w' := by
  have HT := Lib.hid (fun (w' : World) (hb : Below w.heap.size w w') (n : Int) => timeOf_any A c l n w' hl ((hA.below hb).lift hb.size))
  have HA := Lib.hid hA
  clear hA
  unfold TimeOfPost at HT
  go_enter Try.func7, Try.ntmps7
  go_wp2_with fail
  refine (HT.out w (Below.refl _ _) n).mono ?_
  rintro e w1 ⟨⟨a, F, rfl, ha⟩, hb1⟩
  by_cases hF : F = 0
  · subst hF
    have HAT := Lib.hid ha
    clear ha
    by_cases hm : n < m
    · go_wp2_with fail
      refine (HT.out w1 hb1 m).mono ?_
      rintro e w2 ⟨⟨b, G, rfl, hb⟩, hb2⟩
      have g2 := hb1.trans (hb2.mono hb1.size)
      clear hb2
      by_cases hG : G = 0
      · subst hG
        have hba := HAT.out.mono hb (by omega)
        have t1 : decide (b < a) = false := by simp; omega
        clear hb
        by_cases hk : 0 ≤ k ∧ k < (l.length : Int)
        · obtain ⟨i, rfl⟩ : ∃ i : Nat, k = i := ⟨k.toNat, by omega⟩
          have hi : i < l.length := by omega
          obtain ⟨ad, hadd, had, c0, c1, -⟩ := HA.out.get i hi
          have HMK := Lib.hid (fun (b F : Int) h => HAT.out.mark (b := b) (F := F) hi h)
          obtain ⟨k0, k1⟩ := hk
          generalize l[i] = x at *
          obtain ⟨xt, xz, xo⟩ := x
          simp only at c0 c1
          subst hadd
          have d0 := (g2.cell (p := ad.add (i * 3)) (by rw [add_block]; omega)).trans c0
          go_wp2_with fail
          refine (HT.out _ g2 xt).mono ?_
          rintro e w3 ⟨⟨b', F', rfl, hb'⟩, hb3⟩
          have g3 := g2.trans (hb3.mono g2.size)
          obtain ⟨rfl, rfl⟩ := HMK.out _ _ hb'
          have d1 := (Below.at_ g3 (ad.add (i * 3)).block (by rw [add_block]; omega) _).trans c1
          clear hb' hb3 d0 c0 c1
          go_wp2_with fail
          refine (awake_any _).mono ?_
          rintro e w4 ⟨rfl, hb4⟩
          go_wp2_with fail
          go_ret
          exact ⟨rfl, g3.trans (hb4.mono g3.size)⟩
        · go_wp2_with (first | (go_at_call 24; refine (awake_any _).mono ?_; rintro e w4 ⟨rfl, hb4⟩) | fail)
          all_goals first | (go_ret; exact ⟨rfl, g2.trans (hb4.mono g2.size)⟩) | (exfalso; omega)
      · have t0 : ((G : Int) == 0) = false := by simpa using hG
        clear hb hG
        by_cases hk : 0 ≤ k ∧ k < (l.length : Int)
        · obtain ⟨i, rfl⟩ : ∃ i : Nat, k = i := ⟨k.toNat, by omega⟩
          have hi : i < l.length := by omega
          obtain ⟨ad, hadd, had, c0, c1, -⟩ := HA.out.get i hi
          have HMK := Lib.hid (fun (b F : Int) h => HAT.out.mark (b := b) (F := F) hi h)
          obtain ⟨k0, k1⟩ := hk
          generalize l[i] = x at *
          obtain ⟨xt, xz, xo⟩ := x
          simp only at c0 c1
          subst hadd
          have d0 := (g2.cell (p := ad.add (i * 3)) (by rw [add_block]; omega)).trans c0
          go_wp2_with fail
          refine (HT.out _ g2 xt).mono ?_
          rintro e w3 ⟨⟨b', F', rfl, hb'⟩, hb3⟩
          have g3 := g2.trans (hb3.mono g2.size)
          obtain ⟨rfl, rfl⟩ := HMK.out _ _ hb'
          have d1 := (Below.at_ g3 (ad.add (i * 3)).block (by rw [add_block]; omega) _).trans c1
          clear hb' hb3 d0 c0 c1
          go_wp2_with fail
          refine (awake_any _).mono ?_
          rintro e w4 ⟨rfl, hb4⟩
          go_wp2_with fail
          go_ret
          exact ⟨rfl, g3.trans (hb4.mono g3.size)⟩
        · go_wp2_with (first | (go_at_call 24; refine (awake_any _).mono ?_; rintro e w4 ⟨rfl, hb4⟩) | fail)
          all_goals first | (go_ret; exact ⟨rfl, g2.trans (hb4.mono g2.size)⟩) | (exfalso; omega)
    · have g2 := hb1
      by_cases hk : 0 ≤ k ∧ k < (l.length : Int)
      · obtain ⟨i, rfl⟩ : ∃ i : Nat, k = i := ⟨k.toNat, by omega⟩
        have hi : i < l.length := by omega
        obtain ⟨ad, hadd, had, c0, c1, -⟩ := HA.out.get i hi
        have HMK := Lib.hid (fun (b F : Int) h => HAT.out.mark (b := b) (F := F) hi h)
        obtain ⟨k0, k1⟩ := hk
        generalize l[i] = x at *
        obtain ⟨xt, xz, xo⟩ := x
        simp only at c0 c1
        subst hadd
        have d0 := (g2.cell (p := ad.add (i * 3)) (by rw [add_block]; omega)).trans c0
        go_wp2_with fail
        refine (HT.out _ g2 xt).mono ?_
        rintro e w3 ⟨⟨b', F', rfl, hb'⟩, hb3⟩
        have g3 := g2.trans (hb3.mono g2.size)
        obtain ⟨rfl, rfl⟩ := HMK.out _ _ hb'
        have d1 := (Below.at_ g3 (ad.add (i * 3)).block (by rw [add_block]; omega) _).trans c1
        clear hb' hb3 d0 c0 c1
        go_wp2_with fail
        refine (awake_any _).mono ?_
        rintro e w4 ⟨rfl, hb4⟩
        go_wp2_with fail
        go_ret
        exact ⟨rfl, g3.trans (hb4.mono g3.size)⟩
      · go_wp2_with (first | (go_at_call 24; refine (awake_any _).mono ?_; rintro e w4 ⟨rfl, hb4⟩) | fail)
        all_goals first | (go_ret; exact ⟨rfl, g2.trans (hb4.mono g2.size)⟩) | (exfalso; omega)
  · have h0 := ha.zero hF
    subst h0
    have hF1 : ((F : Int) != 0) = true := by simpa using hF
    clear ha hF
    go_wp2_with fail
    refine (awake_any _).mono ?_
    rintro e w2 ⟨rfl, hb2⟩
    go_wp2_with fail
    go_ret
    exact ⟨rfl, hb1.trans (hb2.mono hb1.size)⟩

set_option maxHeartbeats 1600000 in
set_option maxRecDepth 100000 in
theorem never_lifted (os : Os) (started : os.Started) (H : Type) (enc : TypeId × Value → H) :
    ReturnsInHanded {} Try.checked os 7 .any (Rows.marksTimesNeverFallSpec.pre6 enc Try.prog Try.f7 Rows.marksTimesNeverFallRow.domain false) (Rows.marksTimesNeverFallSpec.post enc Try.prog Try.f7 false true false false) := by
  refine returnsInHanded_of_change (C := Try.checked) own started (by kernel_rfl) Try.func7
    (ChangeSpec.witness6 (enc := enc) (C := Try.checked) false ⟨#[], #[.slice none 0 0, .int .i64 0, .int .i64 0, .int .i64 0], []⟩ 8 (by kernel_rfl) (by kernel_rfl) (by kernel_rfl) (by kernel_rfl)) ?_
  intro W base args ds gs before hval0 hW _ _
  have hval : ∀ (j : Nat) t v, Try.f7.params[j]? = some t → args[j]? = some v → Value.okWide Try.prog W .any base t v := hval0
  have hW' := hW
  have hlt := fun x hx => hW'.lt x hx
  obtain ⟨p, q, hA0, hV, rfl, _, _⟩ := hW
  have hA : DataW.TrodAll enc Try.prog W 0 (fun _ => true) true Try.f7.params.toList args.toList ds p := hA0
  rw [Try.params7] at hA hval
  obtain ⟨v0, v1, v2, v3, d0, d1, d2, d3, p0, p1, p2, p3, rfl, rfl, rfl, h0, h1, h2, h3⟩ := trodAll_four hA
  obtain ⟨rfl, rfl⟩ := trodVars_none hV
  obtain ⟨Am', lenm, capm, rfl⟩ := okWide_slice Try.underlying31 (hval 0 31 v0 rfl rfl)
  obtain ⟨nm, hnm⟩ := h0
  obtain ⟨Am, cm, m, hvm, hlcm, hcm, hBm, hIm⟩ := open_marks (fun x hx => hlt x (by simp [hx])) hnm
  obtain ⟨t, rfl, rfl, rfl, wft⟩ := open_int Try.underlying3 (hval 1 3 v1 rfl rfl) h1
  have hbt := bounds_i64 wft
  obtain ⟨o, rfl, rfl, rfl, wfo⟩ := open_int Try.underlying3 (hval 2 3 v2 rfl rfl) h2
  have hbo := bounds_i64 wfo
  obtain ⟨k, rfl, rfl, rfl, wfk⟩ := open_int Try.underlying3 (hval 3 3 v3 rfl rfl) h3
  have hbk := bounds_i64 wfk
  rw [hvm] at hW' ⊢
  refine (lawNever_any Am cm m t o k W (by unfold maxLen at hcm; omega) hBm).mono fun e W' ⟨he, hb⟩ => ?_
  subst he
  exact ⟨_, rfl, law_post (by decide +kernel) rfl rfl hW' rfl hb⟩

set_option maxRecDepth 100000 in
theorem never_closed : joinedFacts Try.prog 7 Try.f7 Rows.marksTimesNeverFallSpec Rows.marksTimesNeverFallRow = true :=
  closed_all (by as_aux_lemma => kernel_rfl) (by as_aux_lemma => kernel_rfl) (by as_aux_lemma => kernel_rfl) (by as_aux_lemma => kernel_rfl) (by as_aux_lemma => kernel_rfl) (by as_aux_lemma => kernel_rfl) (by as_aux_lemma => kernel_rfl) (by as_aux_lemma => kernel_rfl) (by as_aux_lemma => kernel_rfl) (by as_aux_lemma => kernel_rfl) (by as_aux_lemma => kernel_rfl) (by as_aux_lemma => kernel_rfl) (by as_aux_lemma => kernel_rfl) (by as_aux_lemma => kernel_rfl) (by as_aux_lemma => kernel_rfl) (by as_aux_lemma => kernel_rfl) (by as_aux_lemma => kernel_rfl) (by as_aux_lemma => kernel_rfl) pKeys (by as_aux_lemma => kernel_rfl) pLifts pMake (by as_aux_lemma => kernel_rfl) (by as_aux_lemma => kernel_rfl) (by as_aux_lemma => kernel_rfl) (by as_aux_lemma => kernel_rfl)

theorem never_holds : Rows.MarksTimesNeverFallSaid :=
  OpenClaim.holds_of_wide 7 Try.f7 rfl rfl rfl rfl rfl rfl rfl ⟨rfl, rfl, rfl, rfl, rfl⟩ rfl rfl rfl rfl rfl (by kernel_rfl) Try.func7 never_closed
    (of_decide_eq_true (by kernel_rfl)) (by unfold Func.isWrapper; first | (rw [if_pos (by decide +kernel)]; kernel_rfl) | (rw [if_neg (by decide +kernel)]; exact ⟨rfl, rfl⟩))
    (fun os started H enc _ => never_lifted os started H enc)
#print axioms never_holds
end Go.Proofs.Ythhgcnfkdlblnaa
