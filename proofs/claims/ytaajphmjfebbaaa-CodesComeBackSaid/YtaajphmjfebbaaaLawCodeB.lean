/- A time is read from its code, codes are in the order of their times, and what is read has this code: the law CodesComeBack answers true for every input. No condition. -/
import Derived.Test.YtaajphmjfebbaaaLawCodes
namespace Go.Proofs.Ytaajphmjfebbaaa
open Go.ChangeShapes Go.WideShapes Go.ChangeAt Go.RowKit

/-- behind the first half of the law: bytes that are read have this code -/
def TailPost (w : World) (e : Ending) (w' : World) : Prop := e = .returned (.bool true) ∧ Below w.heap.size w w'
theorem code_all (z : Int) (w : World) : ∃ L F, Calls Try.prog 20 #[.int .i64 z] w (CodePost L F w) ∧ ((F = 0 ∧ ∃ t : Nat, z = (t : Int) ∧ t ≤ 1000000000000 ∧ L = codeB t) ∨ (F = 1 ∧ (z < 0 ∨ 1000000000000 < z) ∧ L = [])) := by
  by_cases hz : z < 0 ∨ 1000000000000 < z
  · exact ⟨[], 1, code_bad z hz w, .inr ⟨rfl, hz, rfl⟩⟩
  · obtain ⟨t, rfl⟩ : ∃ t : Nat, z = (t : Int) := ⟨z.toNat, by omega⟩
    exact ⟨codeB t, 0, code_any t (by omega) w, .inl ⟨rfl, t, rfl, by omega, rfl⟩⟩
set_option maxRecDepth 100000 in
set_option maxHeartbeats 1600000 in
theorem lawCodeB_any (z o : Int) (A : Option Addr) (c : Nat) (l : List UInt8) (w : World) (h : BR w w.heap.size A l) :
    Calls Try.prog 7 #[.int .i64 z, .int .i64 o, .slice A l.length c] w fun e w' => e = .returned (.bool true) ∧ Below w.heap.size w w' := by
  have c3 := fun (w' : World) (hb : Below w.heap.size w w') => readCode_any A c l w.heap.size w' (h.below hb)
  have hback := readC_back l
  have hfault := readC_fault l
  generalize readC l = r at *
  obtain ⟨n, f⟩ := r
  have C3 := Lib.hid c3
  have HB := Lib.hid hback
  have HF := Lib.hid hfault
  clear c3 hback hfault
  obtain ⟨L1, F1, c1, hz⟩ := code_all z w
  have C1 := Lib.hid c1
  clear c1
  rcases hz with ⟨rfl, t, rfl, ht, rfl⟩ | ⟨rfl, hz, rfl⟩
  · obtain ⟨L2, F2, -, hz2⟩ := code_all o w
    rcases hz2 with ⟨rfl, o', rfl, ho', rfl⟩ | ⟨rfl, hz2, rfl⟩
    · have CO := Lib.hid (fun w => code_any o' ho' w)
      have hcmp := cmp_code t o' ht ho'
      by_cases hlt : t < o'
      · have hq := hcmp.2 hlt
        have hlt2 : (t : Int) < (o' : Int) := by omega
        clear hcmp
        by_cases hf : f = 0
        · subst hf
          obtain ⟨u, rfl, hu, hl⟩ := HB.out n rfl
          subst hl
          have C4 := Lib.hid (fun w => code_any u hu w)
          go_enter Try.func7, Try.ntmps7
          go_wp2_with fail
          refine C1.out.mono ?_
          rintro e w1 ⟨v1, rfl, ho1, hb1⟩
          obtain ⟨A1, k1, rfl, r1⟩ := ho1.form
          have CR : Hid (Calls Try.prog 22 #[.slice A1 (codeB t).length k1] w1 fun e w' => e = .returned (.tuple #[.int .i64 (t : Int), .int .i64 0]) ∧ w1 = w') := by
            have := readCode_any A1 k1 (codeB t) w1.heap.size w1 r1
            rw [readC_codeB t ht] at this
            exact this
          go_wp2_with fail
          refine CR.out.mono ?_
          rintro e w2 ⟨rfl, rfl⟩
          go_wp2_with fail
          refine (CO.out w1).mono ?_
          rintro e w3 ⟨v3, rfl, ho3, hb3⟩
          have g3 := hb1.trans (hb3.mono hb1.size)
          obtain ⟨A3, k3, rfl, r3⟩ := ho3.form
          obtain ⟨A1', k1', hv, r1'⟩ := (ho1.after hb3 (Nat.le_refl _)).form
          injection hv with hv1 _ hv2
          subst hv1 hv2
          have CC := Lib.hid (bytesCompare_any A1 A3 k1 k3 (codeB t) (codeB o') w3.heap.size w3 r1' r3)
          clear r1 r1' r3 ho1 ho3 hb1 hb3
          go_wp2_with fail
          refine CC.out.mono ?_
          rintro e w4 ⟨rfl, rfl⟩
          generalize Extern.BytealgCompare.cmp (sb (codeB t)) (sb (codeB o')) = q at *
          go_wp2_with fail
          refine (C3.out _ g3).mono ?_
          rintro e w3' ⟨rfl, rfl⟩
          go_wp2_with fail
          refine (C4.out _).mono ?_
          rintro e w4 ⟨v4, rfl, ho4, hb4⟩
          have g4 := g3.trans (hb4.mono g3.size)
          obtain ⟨A4, k4, rfl, r4⟩ := ho4.form
          have Q1 := Lib.hid (bytesEqual_yes A4 A k4 c (codeB u) w4.heap.size w4 r4 ((h.below g4).lift g4.size))
          clear r4 ho4 hb4
          go_wp2_with fail
          refine Q1.out.mono ?_
          rintro e w5 ⟨rfl, rfl⟩
          go_wp2_with fail
          refine (awake_any _).mono ?_
          rintro e w7 ⟨rfl, hb7⟩
          go_wp2_with fail
          go_ret
          exact ⟨rfl, g4.trans (hb7.mono g4.size)⟩
        · obtain rfl : n = 0 := HF.out n f rfl hf
          have hf1 : ((f : Int) != 0) = true := by simpa using hf
          clear hf
          go_enter Try.func7, Try.ntmps7
          go_wp2_with fail
          refine C1.out.mono ?_
          rintro e w1 ⟨v1, rfl, ho1, hb1⟩
          obtain ⟨A1, k1, rfl, r1⟩ := ho1.form
          have CR : Hid (Calls Try.prog 22 #[.slice A1 (codeB t).length k1] w1 fun e w' => e = .returned (.tuple #[.int .i64 (t : Int), .int .i64 0]) ∧ w1 = w') := by
            have := readCode_any A1 k1 (codeB t) w1.heap.size w1 r1
            rw [readC_codeB t ht] at this
            exact this
          go_wp2_with fail
          refine CR.out.mono ?_
          rintro e w2 ⟨rfl, rfl⟩
          go_wp2_with fail
          refine (CO.out w1).mono ?_
          rintro e w3 ⟨v3, rfl, ho3, hb3⟩
          have g3 := hb1.trans (hb3.mono hb1.size)
          obtain ⟨A3, k3, rfl, r3⟩ := ho3.form
          obtain ⟨A1', k1', hv, r1'⟩ := (ho1.after hb3 (Nat.le_refl _)).form
          injection hv with hv1 _ hv2
          subst hv1 hv2
          have CC := Lib.hid (bytesCompare_any A1 A3 k1 k3 (codeB t) (codeB o') w3.heap.size w3 r1' r3)
          clear r1 r1' r3 ho1 ho3 hb1 hb3
          go_wp2_with fail
          refine CC.out.mono ?_
          rintro e w4 ⟨rfl, rfl⟩
          generalize Extern.BytealgCompare.cmp (sb (codeB t)) (sb (codeB o')) = q at *
          go_wp2_with fail
          refine (C3.out _ g3).mono ?_
          rintro e w3' ⟨rfl, rfl⟩
          go_wp2_with fail
          refine (awake_any _).mono ?_
          rintro e w7 ⟨rfl, hb7⟩
          go_wp2_with fail
          go_ret
          exact ⟨rfl, g3.trans (hb7.mono g3.size)⟩
      · have hq := fun h => hlt (hcmp.1 h)
        have hlt2 : ¬ (t : Int) < (o' : Int) := by omega
        clear hcmp
        by_cases hf : f = 0
        · subst hf
          obtain ⟨u, rfl, hu, hl⟩ := HB.out n rfl
          subst hl
          have C4 := Lib.hid (fun w => code_any u hu w)
          go_enter Try.func7, Try.ntmps7
          go_wp2_with fail
          refine C1.out.mono ?_
          rintro e w1 ⟨v1, rfl, ho1, hb1⟩
          obtain ⟨A1, k1, rfl, r1⟩ := ho1.form
          have CR : Hid (Calls Try.prog 22 #[.slice A1 (codeB t).length k1] w1 fun e w' => e = .returned (.tuple #[.int .i64 (t : Int), .int .i64 0]) ∧ w1 = w') := by
            have := readCode_any A1 k1 (codeB t) w1.heap.size w1 r1
            rw [readC_codeB t ht] at this
            exact this
          go_wp2_with fail
          refine CR.out.mono ?_
          rintro e w2 ⟨rfl, rfl⟩
          go_wp2_with fail
          refine (CO.out w1).mono ?_
          rintro e w3 ⟨v3, rfl, ho3, hb3⟩
          have g3 := hb1.trans (hb3.mono hb1.size)
          obtain ⟨A3, k3, rfl, r3⟩ := ho3.form
          obtain ⟨A1', k1', hv, r1'⟩ := (ho1.after hb3 (Nat.le_refl _)).form
          injection hv with hv1 _ hv2
          subst hv1 hv2
          have CC := Lib.hid (bytesCompare_any A1 A3 k1 k3 (codeB t) (codeB o') w3.heap.size w3 r1' r3)
          clear r1 r1' r3 ho1 ho3 hb1 hb3
          go_wp2_with fail
          refine CC.out.mono ?_
          rintro e w4 ⟨rfl, rfl⟩
          generalize Extern.BytealgCompare.cmp (sb (codeB t)) (sb (codeB o')) = q at *
          go_wp2_with fail
          refine (C3.out _ g3).mono ?_
          rintro e w3' ⟨rfl, rfl⟩
          go_wp2_with fail
          refine (C4.out _).mono ?_
          rintro e w4 ⟨v4, rfl, ho4, hb4⟩
          have g4 := g3.trans (hb4.mono g3.size)
          obtain ⟨A4, k4, rfl, r4⟩ := ho4.form
          have Q1 := Lib.hid (bytesEqual_yes A4 A k4 c (codeB u) w4.heap.size w4 r4 ((h.below g4).lift g4.size))
          clear r4 ho4 hb4
          go_wp2_with fail
          refine Q1.out.mono ?_
          rintro e w5 ⟨rfl, rfl⟩
          go_wp2_with fail
          refine (awake_any _).mono ?_
          rintro e w7 ⟨rfl, hb7⟩
          go_wp2_with fail
          go_ret
          exact ⟨rfl, g4.trans (hb7.mono g4.size)⟩
        · obtain rfl : n = 0 := HF.out n f rfl hf
          have hf1 : ((f : Int) != 0) = true := by simpa using hf
          clear hf
          go_enter Try.func7, Try.ntmps7
          go_wp2_with fail
          refine C1.out.mono ?_
          rintro e w1 ⟨v1, rfl, ho1, hb1⟩
          obtain ⟨A1, k1, rfl, r1⟩ := ho1.form
          have CR : Hid (Calls Try.prog 22 #[.slice A1 (codeB t).length k1] w1 fun e w' => e = .returned (.tuple #[.int .i64 (t : Int), .int .i64 0]) ∧ w1 = w') := by
            have := readCode_any A1 k1 (codeB t) w1.heap.size w1 r1
            rw [readC_codeB t ht] at this
            exact this
          go_wp2_with fail
          refine CR.out.mono ?_
          rintro e w2 ⟨rfl, rfl⟩
          go_wp2_with fail
          refine (CO.out w1).mono ?_
          rintro e w3 ⟨v3, rfl, ho3, hb3⟩
          have g3 := hb1.trans (hb3.mono hb1.size)
          obtain ⟨A3, k3, rfl, r3⟩ := ho3.form
          obtain ⟨A1', k1', hv, r1'⟩ := (ho1.after hb3 (Nat.le_refl _)).form
          injection hv with hv1 _ hv2
          subst hv1 hv2
          have CC := Lib.hid (bytesCompare_any A1 A3 k1 k3 (codeB t) (codeB o') w3.heap.size w3 r1' r3)
          clear r1 r1' r3 ho1 ho3 hb1 hb3
          go_wp2_with fail
          refine CC.out.mono ?_
          rintro e w4 ⟨rfl, rfl⟩
          generalize Extern.BytealgCompare.cmp (sb (codeB t)) (sb (codeB o')) = q at *
          go_wp2_with fail
          refine (C3.out _ g3).mono ?_
          rintro e w3' ⟨rfl, rfl⟩
          go_wp2_with fail
          refine (awake_any _).mono ?_
          rintro e w7 ⟨rfl, hb7⟩
          go_wp2_with fail
          go_ret
          exact ⟨rfl, g3.trans (hb7.mono g3.size)⟩
    · have CO := Lib.hid (fun w => code_bad o hz2 w)
      clear hz2
      by_cases hf : f = 0
      · subst hf
        obtain ⟨u, rfl, hu, hl⟩ := HB.out n rfl
        subst hl
        have C4 := Lib.hid (fun w => code_any u hu w)
        go_enter Try.func7, Try.ntmps7
        go_wp2_with fail
        refine C1.out.mono ?_
        rintro e w1 ⟨v1, rfl, ho1, hb1⟩
        obtain ⟨A1, k1, rfl, r1⟩ := ho1.form
        have CR : Hid (Calls Try.prog 22 #[.slice A1 (codeB t).length k1] w1 fun e w' => e = .returned (.tuple #[.int .i64 (t : Int), .int .i64 0]) ∧ w1 = w') := by
          have := readCode_any A1 k1 (codeB t) w1.heap.size w1 r1
          rw [readC_codeB t ht] at this
          exact this
        go_wp2_with fail
        refine CR.out.mono ?_
        rintro e w2 ⟨rfl, rfl⟩
        go_wp2_with fail
        refine (CO.out w1).mono ?_
        rintro e w3 ⟨v3, rfl, ho3, hb3⟩
        have g3 := hb1.trans (hb3.mono hb1.size)
        go_wp2_with fail
        refine (C3.out _ g3).mono ?_
        rintro e w3' ⟨rfl, rfl⟩
        go_wp2_with fail
        refine (C4.out _).mono ?_
        rintro e w4 ⟨v4, rfl, ho4, hb4⟩
        have g4 := g3.trans (hb4.mono g3.size)
        obtain ⟨A4, k4, rfl, r4⟩ := ho4.form
        have Q1 := Lib.hid (bytesEqual_yes A4 A k4 c (codeB u) w4.heap.size w4 r4 ((h.below g4).lift g4.size))
        clear r4 ho4 hb4
        go_wp2_with fail
        refine Q1.out.mono ?_
        rintro e w5 ⟨rfl, rfl⟩
        go_wp2_with fail
        refine (awake_any _).mono ?_
        rintro e w7 ⟨rfl, hb7⟩
        go_wp2_with fail
        go_ret
        exact ⟨rfl, g4.trans (hb7.mono g4.size)⟩
      · obtain rfl : n = 0 := HF.out n f rfl hf
        have hf1 : ((f : Int) != 0) = true := by simpa using hf
        clear hf
        go_enter Try.func7, Try.ntmps7
        go_wp2_with fail
        refine C1.out.mono ?_
        rintro e w1 ⟨v1, rfl, ho1, hb1⟩
        obtain ⟨A1, k1, rfl, r1⟩ := ho1.form
        have CR : Hid (Calls Try.prog 22 #[.slice A1 (codeB t).length k1] w1 fun e w' => e = .returned (.tuple #[.int .i64 (t : Int), .int .i64 0]) ∧ w1 = w') := by
          have := readCode_any A1 k1 (codeB t) w1.heap.size w1 r1
          rw [readC_codeB t ht] at this
          exact this
        go_wp2_with fail
        refine CR.out.mono ?_
        rintro e w2 ⟨rfl, rfl⟩
        go_wp2_with fail
        refine (CO.out w1).mono ?_
        rintro e w3 ⟨v3, rfl, ho3, hb3⟩
        have g3 := hb1.trans (hb3.mono hb1.size)
        go_wp2_with fail
        refine (C3.out _ g3).mono ?_
        rintro e w3' ⟨rfl, rfl⟩
        go_wp2_with fail
        refine (awake_any _).mono ?_
        rintro e w7 ⟨rfl, hb7⟩
        go_wp2_with fail
        go_ret
        exact ⟨rfl, g3.trans (hb7.mono g3.size)⟩
  · by_cases hf : f = 0
    · subst hf
      obtain ⟨u, rfl, hu, hl⟩ := HB.out n rfl
      subst hl
      have C4 := Lib.hid (fun w => code_any u hu w)
      clear hz
      go_enter Try.func7, Try.ntmps7
      go_wp2_with fail
      refine C1.out.mono ?_
      rintro e w1 ⟨v1, rfl, ho1, hb1⟩
      go_wp2_with fail
      refine (C3.out w1 hb1).mono ?_
      rintro e w3 ⟨rfl, rfl⟩
      go_wp2_with fail
      refine (C4.out w1).mono ?_
      rintro e w4 ⟨v4, rfl, ho4, hb4⟩
      have g4 := hb1.trans (hb4.mono hb1.size)
      obtain ⟨A4, k4, rfl, r4⟩ := ho4.form
      have Q1 := Lib.hid (bytesEqual_yes A4 A k4 c (codeB u) w4.heap.size w4 r4 ((h.below g4).lift g4.size))
      clear r4 ho4 hb4
      go_wp2_with fail
      refine Q1.out.mono ?_
      rintro e w5 ⟨rfl, rfl⟩
      go_wp2_with fail
      refine (awake_any _).mono ?_
      rintro e w7 ⟨rfl, hb7⟩
      go_wp2_with fail
      go_ret
      exact ⟨rfl, g4.trans (hb7.mono g4.size)⟩
    · obtain rfl : n = 0 := HF.out n f rfl hf
      have hf1 : ((f : Int) != 0) = true := by simpa using hf
      clear hf hz
      go_enter Try.func7, Try.ntmps7
      go_wp2_with fail
      refine C1.out.mono ?_
      rintro e w1 ⟨v1, rfl, ho1, hb1⟩
      go_wp2_with fail
      refine (C3.out w1 hb1).mono ?_
      rintro e w3 ⟨rfl, rfl⟩
      go_wp2_with fail
      refine (awake_any _).mono ?_
      rintro e w7 ⟨rfl, hb7⟩
      go_wp2_with fail
      go_ret
      exact ⟨rfl, hb1.trans (hb7.mono hb1.size)⟩

set_option maxHeartbeats 1600000 in
set_option maxRecDepth 100000 in
theorem codeb_lifted (os : Os) (started : os.Started) (H : Type) (enc : TypeId × Value → H) :
    ReturnsInHanded {} Try.checked os 7 .any (Rows.codesComeBackSpec.pre6 enc Try.prog Try.f7 Rows.codesComeBackRow.domain false) (Rows.codesComeBackSpec.post enc Try.prog Try.f7 false true false false) := by
  refine returnsInHanded_of_change (C := Try.checked) own started (by kernel_rfl) Try.func7
    (ChangeSpec.witness6 (enc := enc) (C := Try.checked) false ⟨#[], #[.int .i64 0, .int .i64 0, .slice none 0 0], []⟩ 8 (by kernel_rfl) (by kernel_rfl) (by kernel_rfl) (by kernel_rfl)) ?_
  intro W base args ds gs before hval0 hW _ _
  have hval : ∀ (j : Nat) t v, Try.f7.params[j]? = some t → args[j]? = some v → Value.okWide Try.prog W .any base t v := hval0
  have hW' := hW
  have hlt := fun x hx => hW'.lt x hx
  obtain ⟨p, q, hA0, hV, rfl, _, _⟩ := hW
  have hA : DataW.TrodAll enc Try.prog W 0 (fun _ => true) true Try.f7.params.toList args.toList ds p := hA0
  rw [Try.params7] at hA hval
  obtain ⟨v0, v1, v2, d0, d1, d2, p0, p1, p2, rfl, rfl, rfl, h0, h1, h2⟩ := trodAll_three hA
  obtain ⟨rfl, rfl⟩ := trodVars_none hV
  obtain ⟨z, rfl, rfl, rfl, wfz⟩ := open_int Try.underlying3 (hval 0 3 v0 rfl rfl) h0
  have hbz := bounds_i64 wfz
  obtain ⟨o, rfl, rfl, rfl, wfo⟩ := open_int Try.underlying3 (hval 1 3 v1 rfl rfl) h1
  have hbo := bounds_i64 wfo
  obtain ⟨Al', lenl, capl, rfl⟩ := okWide_slice Try.underlying22 (hval 2 22 v2 rfl rfl)
  obtain ⟨nl, hnl⟩ := h2
  obtain ⟨Al, cl, l, hvl, hlcl, hcl, hBl⟩ := open_u8s (fun x hx => hlt x (by simp [hx])) hnl
  rw [hvl] at hW' ⊢
  refine (lawCodeB_any z o Al cl l W hBl).mono fun e W' ⟨he, hb⟩ => ?_
  subst he
  exact ⟨_, rfl, law_post (by decide +kernel) rfl rfl hW' rfl hb⟩

set_option maxRecDepth 100000 in
theorem codeb_closed : joinedFacts Try.prog 7 Try.f7 Rows.codesComeBackSpec Rows.codesComeBackRow = true :=
  closed_all (by as_aux_lemma => kernel_rfl) (by as_aux_lemma => kernel_rfl) (by as_aux_lemma => kernel_rfl) (by as_aux_lemma => kernel_rfl) (by as_aux_lemma => kernel_rfl) (by as_aux_lemma => kernel_rfl) (by as_aux_lemma => kernel_rfl) (by as_aux_lemma => kernel_rfl) (by as_aux_lemma => kernel_rfl) (by as_aux_lemma => kernel_rfl) (by as_aux_lemma => kernel_rfl) (by as_aux_lemma => kernel_rfl) (by as_aux_lemma => kernel_rfl) (by as_aux_lemma => kernel_rfl) (by as_aux_lemma => kernel_rfl) (by as_aux_lemma => kernel_rfl) (by as_aux_lemma => kernel_rfl) (by as_aux_lemma => kernel_rfl) pKeys (by as_aux_lemma => kernel_rfl) pLifts pMake (by as_aux_lemma => kernel_rfl) (by as_aux_lemma => kernel_rfl) (by as_aux_lemma => kernel_rfl) (by as_aux_lemma => kernel_rfl)

theorem codeb_holds : Rows.CodesComeBackSaid :=
  OpenClaim.holds_of_wide 7 Try.f7 rfl rfl rfl rfl rfl rfl rfl ⟨rfl, rfl, rfl, rfl, rfl⟩ rfl rfl rfl rfl rfl (by kernel_rfl) Try.func7 codeb_closed
    (of_decide_eq_true (by kernel_rfl)) (by unfold Func.isWrapper; first | (rw [if_pos (by decide +kernel)]; kernel_rfl) | (rw [if_neg (by decide +kernel)]; exact ⟨rfl, rfl⟩))
    (fun os started H enc _ => codeb_lifted os started H enc)
#print axioms codeb_holds
end Go.Proofs.Ytaajphmjfebbaaa
