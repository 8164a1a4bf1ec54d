/- Of three banks of which two are the same the vote is these two: the law MemoryTwoOutvoteOne answers true for every input. No condition. -/
import Derived.Test.YtidddoldkedicaaAwake
import Derived.Test.YtidddoldkedicaaVoted
import Derived.Test.YtidddoldkedicaaEqualI
import Derived.Test.YtidddoldkedicaaCloseB
import Derived.Test.YtidddoldkedicaaClosed
namespace Go.Proofs.Ytidddoldkedicaa
open Go.ChangeShapes Go.WideShapes Go.ChangeAt Go.RowKit

theorem voted_bad {a a' b b' c c' : List Int} (h : threeS a a' b b' c c' ≠ 0) : votedS a a' b b' c c' = (([], []), [], threeS a a' b b' c c') := by
  unfold votedS
  rw [if_neg h]
theorem two_cases (a a' b b' : List Int) :
    (∃ F1 F2 F3 : Int, votedS a a' a a' b b' = (([], []), [], F1) ∧ votedS a a' b b' a a' = (([], []), [], F2) ∧ votedS b b' a a' a a' = (([], []), [], F3) ∧ F1 ≠ 0 ∧ F2 ≠ 0 ∧ F3 ≠ 0) ∨
    (∃ P1 P2 P3 : List Int, votedS a a' a a' b b' = ((a, a'), P1, 0) ∧ votedS a a' b b' a a' = ((a, a'), P2, 0) ∧ votedS b b' a a' a a' = ((a, b'), P3, 0)) := by
  by_cases h : Right a a' ∧ Right b b' ∧ b.length = a.length
  · obtain ⟨h1, h2, h3⟩ := h
    have t1 : threeS a a' a a' b b' = 0 := right_three h1 h1 h2 rfl h3
    have t2 : threeS a a' b b' a a' = 0 := right_three h1 h2 h1 h3 rfl
    have t3 : threeS b b' a a' a a' = 0 := right_three h2 h1 h1 h3.symm h3.symm
    refine .inr ⟨(voteT (nats a) (nats a) (nats b) a.length).2, (voteT (nats a) (nats b) (nats a) a.length).2, (voteT (nats b) (nats a) (nats a) b.length).2, ?_, ?_, ?_⟩
    · unfold votedS
      rw [if_pos t1]
      have := vote_two1 (nats a) (nats b)
      rw [nats_len] at this
      rw [this, right_ints h1]
    · unfold votedS
      rw [if_pos t2]
      have := vote_two2 (nats a) (nats b)
      rw [nats_len] at this
      rw [this, right_ints h1]
    · unfold votedS
      rw [if_pos t3]
      have := vote_two3 (nats a) (nats b) (by rw [nats_len, nats_len, h3])
      rw [nats_len] at this
      rw [this, right_ints h1]
  · have t1 : threeS a a' a a' b b' ≠ 0 := fun q => h ⟨(three_right q).1, (three_right q).2.2.1, (three_right q).2.2.2.2⟩
    have t2 : threeS a a' b b' a a' ≠ 0 := fun q => h ⟨(three_right q).1, (three_right q).2.1, (three_right q).2.2.2.1⟩
    have t3 : threeS b b' a a' a a' ≠ 0 := fun q => h ⟨(three_right q).2.1, (three_right q).1, (three_right q).2.2.2.1.symm⟩
    exact .inl ⟨_, _, _, voted_bad t1, voted_bad t2, voted_bad t3, t1, t2, t3⟩
set_option maxRecDepth 100000 in
set_option maxHeartbeats 2000000 in
theorem lawTwo_any (A1 A1' A2 A2' : Option Addr) (c1 c1' c2 c2' : Nat) (a a' b b' : List Int) (w : World)
    (la : a.length ≤ 9223372036854775807) (la' : a'.length ≤ 9223372036854775807) (lb : b.length ≤ 9223372036854775807) (lb' : b'.length ≤ 9223372036854775807)
    (ha : IR w w.heap.size A1 a) (ha' : IR w w.heap.size A1' a') (hb : IR w w.heap.size A2 b) (hb' : IR w w.heap.size A2' b') :
    Calls Try.prog 15 #[bankV A1 A1' a.length a'.length c1 c1', bankV A2 A2' b.length b'.length c2 c2'] w fun e w' => e = .returned (.bool true) ∧ Below w.heap.size w w' := by
  have C1 := Lib.hid (fun (w1 : World) (h : Below w.heap.size w w1) => voted_any A1 A1' A1 A1' A2 A2' c1 c1' c1 c1' c2 c2' a a' a a' b b' w.heap.size w1 h.size la la' la la' lb lb' (ha.below h) (ha'.below h) (ha.below h) (ha'.below h) (hb.below h) (hb'.below h))
  have C2 := Lib.hid (fun (w1 : World) (h : Below w.heap.size w w1) => voted_any A1 A1' A2 A2' A1 A1' c1 c1' c2 c2' c1 c1' a a' b b' a a' w.heap.size w1 h.size la la' lb lb' la la' (ha.below h) (ha'.below h) (hb.below h) (hb'.below h) (ha.below h) (ha'.below h))
  have C3 := Lib.hid (fun (w1 : World) (h : Below w.heap.size w w1) => voted_any A2 A2' A1 A1' A1 A1' c2 c2' c1 c1' c1 c1' b b' a a' a a' w.heap.size w1 h.size lb lb' la la' la la' (hb.below h) (hb'.below h) (ha.below h) (ha'.below h) (ha.below h) (ha'.below h))
  unfold VotePost at C1 C2 C3
  unfold bankV at C1 C2 C3 ⊢
  obtain ⟨w0, hw0⟩ : ∃ w0, (w.alloc (.cells #[.slice A1 a.length c1, .slice A1' a'.length c1'] 33)).alloc (.cells #[.slice A2 b.length c2, .slice A2' b'.length c2'] 33) = w0 := ⟨_, rfl⟩
  have b0 : Below w.heap.size w w0 := by rw [← hw0]; exact ((Below.refl _ _).alloc (Nat.le_refl _) _).alloc (by simp) _
  have z0 : w0.heap.size = w.heap.size + 2 := by rw [← hw0]; simp
  have h1 : HeldB w0 w.heap.size (.slice A1 a.length c1) (.slice A1' a'.length c1') := by rw [← hw0]; exact (HeldB.new w _ _).below ((Below.refl _ _).alloc (Nat.le_refl _) _) (by simp)
  have h2 : HeldB w0 (w.heap.size + 1) (.slice A2 b.length c2) (.slice A2' b'.length c2') := by
    have := HeldB.new (w.alloc (.cells #[.slice A1 a.length c1, .slice A1' a'.length c1'] 33)) (.slice A2 b.length c2) (.slice A2' b'.length c2')
    rw [World.size_alloc] at this
    rw [← hw0]
    exact this
  obtain ⟨e1, e1'⟩ := h1.cells
  obtain ⟨e2, e2'⟩ := h2.cells
  have HW0 := Lib.hid hw0
  clear hw0
  rcases two_cases a a' b b' with ⟨F1, F2, F3, q1, q2, q3, n1, n2, n3⟩ | ⟨P1, P2, P3, q1, q2, q3⟩
  · rw [q1] at C1
    rw [q2] at C2
    rw [q3] at C3
    have m1 : (F1 != 0) = true := by simpa using n1
    have m2 : (F2 != 0) = true := by simpa using n2
    have m3 : (F3 != 0) = true := by simpa using n3
    clear q1 q2 q3 n1 n2 n3
    have C1' := Lib.hid (C1.out w0 b0)
    go_enter Try.func15, Try.ntmps15
    go_upto_region 1 with fail
    rw [HW0.out]
    go_wp2_with fail
    refine C1'.out.mono ?_
    rintro e w1 ⟨D, D', k, k', G, q, rfl, -, -, -, hb1⟩
    clear HW0 e1 e1' e2 e2' C1 C1'
    have bx1 := b0.trans (hb1.mono (by omega))
    have s1 := hb1.size
    generalize hwa : w1.alloc (.cells #[.slice D 0 k, .slice D' 0 k'] 33) = wa
    have ba : Below w1.heap.size w1 wa := by rw [← hwa]; exact box_below _ _
    have ba0 : Below w0.heap.size w0 wa := hb1.trans (ba.mono s1)
    have bxa := bx1.trans (ba.mono (by omega))
    have C2' := Lib.hid (C2.out wa bxa)
    obtain ⟨e1, e1'⟩ := (h1.below ba0 (by omega)).cells
    obtain ⟨e2, e2'⟩ := (h2.below ba0 (by omega)).cells
    go_wp2_with fail
    refine C2'.out.mono ?_
    rintro e w2 ⟨E, E', m, m', G2, r2, rfl, -, -, -, hb2⟩
    clear hwa e1 e1' e2 e2' C2 C2'
    have s2 := hb2.size
    have sa := ba.size
    generalize hwb : w2.alloc (.cells #[.slice E 0 m, .slice E' 0 m'] 33) = wb
    have bb : Below w2.heap.size w2 wb := by rw [← hwb]; exact box_below _ _
    have bb0 : Below w0.heap.size w0 wb := (ba0.trans (hb2.mono (by omega))).trans (bb.mono (by omega))
    have bxb := b0.trans (bb0.mono (by omega))
    have C3' := Lib.hid (C3.out wb bxb)
    obtain ⟨e1, e1'⟩ := (h1.below bb0 (by omega)).cells
    obtain ⟨e2, e2'⟩ := (h2.below bb0 (by omega)).cells
    go_wp2_with fail
    refine C3'.out.mono ?_
    rintro e w3 ⟨H, H', o, o', G3, r3, rfl, -, -, -, hb3⟩
    clear hwb e1 e1' e2 e2' C3 C3'
    have bx3 := bxb.trans (hb3.mono bxb.size)
    go_wp2_with (first | (go_at_call 22; refine (awake_any _).mono ?_; rintro e w' ⟨rfl, rfl⟩) | fail)
    go_ret
    exact ⟨rfl, bx3.trans ((box_below _ _).mono bx3.size)⟩
  · rw [q1] at C1
    rw [q2] at C2
    rw [q3] at C3
    simp only at C1 C2 C3
    clear q1 q2 q3
    have C1' := Lib.hid (C1.out w0 b0)
    go_enter Try.func15, Try.ntmps15
    go_upto_region 1 with fail
    rw [HW0.out]
    go_wp2_with fail
    refine C1'.out.mono ?_
    rintro e w1 ⟨D, D', k, k', G, q, rfl, i1, -, -, hb1⟩
    clear HW0 e1 e1' e2 e2' C1 C1'
    have bx1 := b0.trans (hb1.mono (by omega))
    have s1 := hb1.size
    generalize hwa : w1.alloc (.cells #[.slice D a.length k, .slice D' a'.length k'] 33) = wa
    have ba : Below w1.heap.size w1 wa := by rw [← hwa]; exact box_below _ _
    have za : wa.heap.size = w1.heap.size + 1 := by rw [← hwa]; simp
    have ba0 : Below w0.heap.size w0 wa := hb1.trans (ba.mono s1)
    have g1 : HeldB wa w1.heap.size (.slice D a.length k) (.slice D' a'.length k') := by rw [← hwa]; exact HeldB.new _ _ _
    have bxa := bx1.trans (ba.mono (by omega))
    have C2' := Lib.hid (C2.out wa bxa)
    obtain ⟨e1, e1'⟩ := (h1.below ba0 (by omega)).cells
    obtain ⟨e2, e2'⟩ := (h2.below ba0 (by omega)).cells
    go_wp2_with fail
    refine C2'.out.mono ?_
    rintro e w2 ⟨E, E', m, m', G2, r2, rfl, i2, -, -, hb2⟩
    clear hwa e1 e1' e2 e2' C2 C2'
    have s2 := hb2.size
    generalize hwb : w2.alloc (.cells #[.slice E a.length m, .slice E' a'.length m'] 33) = wb
    have bb : Below w2.heap.size w2 wb := by rw [← hwb]; exact box_below _ _
    have zb : wb.heap.size = w2.heap.size + 1 := by rw [← hwb]; simp
    have bab : Below wa.heap.size wa wb := hb2.trans (bb.mono s2)
    have bb0 : Below w0.heap.size w0 wb := ba0.trans (bab.mono (by omega))
    have g2 : HeldB wb w2.heap.size (.slice E a.length m) (.slice E' a'.length m') := by rw [← hwb]; exact HeldB.new _ _ _
    have bxb := b0.trans (bb0.mono (by omega))
    have C3' := Lib.hid (C3.out wb bxb)
    obtain ⟨e1, e1'⟩ := (h1.below bb0 (by omega)).cells
    obtain ⟨e2, e2'⟩ := (h2.below bb0 (by omega)).cells
    go_wp2_with fail
    refine C3'.out.mono ?_
    rintro e w3 ⟨H, H', o, o', G3, r3, rfl, i3, -, -, hb3⟩
    clear hwb e1 e1' e2 e2' C3 C3'
    have s3 := hb3.size
    generalize hwc : w3.alloc (.cells #[.slice H a.length o, .slice H' b'.length o'] 33) = wc
    have bc : Below w3.heap.size w3 wc := by rw [← hwc]; exact box_below _ _
    have zc : wc.heap.size = w3.heap.size + 1 := by rw [← hwc]; simp
    have bbc : Below wb.heap.size wb wc := hb3.trans (bc.mono s3)
    have bxc := bxb.trans (bbc.mono (by omega))
    have g3 : HeldB wc w3.heap.size (.slice H a.length o) (.slice H' b'.length o') := by rw [← hwc]; exact HeldB.new _ _ _
    have j1 := ((g1.below bab (by omega)).below bbc (by omega))
    have j2 := g2.below bbc (by omega)
    have j0 := (h1.below bb0 (by omega)).below bbc (by omega)
    have fa : IR wc wc.heap.size A1 a := (ha.below bxc).lift (by omega)
    have f1 : IR wc wc.heap.size D a := (((i1.below ba).below (bab.mono (by omega))).below (bbc.mono (by omega))).lift (by omega)
    have f2 : IR wc wc.heap.size E a := ((i2.below bb).below (bbc.mono (by omega))).lift (by omega)
    have f3 : IR wc wc.heap.size H a := (i3.below bc).lift (by omega)
    have Q1 := Lib.hid (equalI_yes D A1 k c1 a wc.heap.size wc la f1 fa)
    have Q2 := Lib.hid (fun w1 (h : Below wc.heap.size wc w1) => equalI_yes E A1 m c1 a wc.heap.size w1 la (f2.below h) (fa.below h))
    have Q3 := Lib.hid (fun w1 (h : Below wc.heap.size wc w1) => equalI_yes H A1 o c1 a wc.heap.size w1 la (f3.below h) (fa.below h))
    clear ha ha' hb hb' i1 i2 i3 f1 f2 f3 fa
    obtain ⟨p0, -⟩ := j0.cells
    obtain ⟨p1, -⟩ := j1.cells
    go_wp2_with fail
    refine Q1.out.mono ?_
    rintro e w4 ⟨rfl, hb4⟩
    clear hwc p0 p1 Q1
    obtain ⟨p0, -⟩ := (j0.below hb4 (by omega)).cells
    obtain ⟨p1, -⟩ := (j2.below hb4 (by omega)).cells
    go_wp2_with fail
    refine (Q2.out w4 hb4).mono ?_
    rintro e w5 ⟨rfl, hb5⟩
    have hb45 := hb4.trans (hb5.mono hb4.size)
    clear p0 p1 Q2
    obtain ⟨p0, -⟩ := (j0.below hb45 (by omega)).cells
    obtain ⟨p1, -⟩ := (g3.below hb45 (by omega)).cells
    go_wp2_with fail
    refine (Q3.out w5 hb45).mono ?_
    rintro e w6 ⟨rfl, hb6⟩
    have bx6 := bxc.trans ((hb45.trans (hb6.mono hb45.size)).mono (by omega))
    go_wp2_with (first | (go_at_call 22; refine (awake_any _).mono ?_; rintro e w' ⟨rfl, rfl⟩) | fail)
    go_ret
    exact ⟨rfl, bx6⟩

set_option maxHeartbeats 1600000 in
set_option maxRecDepth 100000 in
theorem twoL_lifted (os : Os) (started : os.Started) (H : Type) (enc : TypeId × Value → H) :
    ReturnsInHanded {} Try.checked os 15 .any (Rows.memoryTwoOutvoteOneSpec.pre6 enc Try.prog Try.f15 Rows.memoryTwoOutvoteOneRow.domain false) (Rows.memoryTwoOutvoteOneSpec.post enc Try.prog Try.f15 false true false false) := by
  refine returnsInHanded_of_change (C := Try.checked) own started (by kernel_rfl) Try.func15
    (ChangeSpec.witness6 (enc := enc) (C := Try.checked) false ⟨#[], #[.agg #[.slice none 0 0, .slice none 0 0], .agg #[.slice none 0 0, .slice none 0 0]], []⟩ 8 (by kernel_rfl) (by kernel_rfl) (by kernel_rfl) (by kernel_rfl)) ?_
  intro W base args ds gs before hval0 hW _ _
  have hval : ∀ (j : Nat) t v, Try.f15.params[j]? = some t → args[j]? = some v → Value.okWide Try.prog W .any base t v := hval0
  have hW' := hW
  have hlt := fun x hx => hW'.lt x hx
  obtain ⟨p, q, hA0, hV, rfl, _, _⟩ := hW
  have hA : DataW.TrodAll enc Try.prog W 0 (fun _ => true) true Try.f15.params.toList args.toList ds p := hA0
  rw [Try.params15] at hA hval
  obtain ⟨v0, v1, d0, d1, p0, p1, rfl, rfl, rfl, h0, h1⟩ := trodAll_two hA
  obtain ⟨rfl, rfl⟩ := trodVars_none hV
  obtain ⟨Aa, Aa', ca, ca', a, a', rfl, hla, hla', hBa, hBa'⟩ := open_bank (fun x hx => hlt x (by simp [hx])) (hval 0 33 v0 rfl rfl) h0
  obtain ⟨Ab, Ab', cb, cb', b, b', rfl, hlb, hlb', hBb, hBb'⟩ := open_bank (fun x hx => hlt x (by simp [hx])) (hval 1 33 v1 rfl rfl) h1
  refine (lawTwo_any Aa Aa' Ab Ab' ca ca' cb cb' a a' b b' W hla hla' hlb hlb' hBa hBa' hBb hBb').mono fun e W' ⟨he, hb⟩ => ?_
  subst he
  exact ⟨_, rfl, law_post (by decide +kernel) rfl rfl hW' rfl hb⟩

set_option maxRecDepth 100000 in
theorem twoL_closed : joinedFacts Try.prog 15 Try.f15 Rows.memoryTwoOutvoteOneSpec Rows.memoryTwoOutvoteOneRow = true :=
  closed_all (by as_aux_lemma => kernel_rfl) (by as_aux_lemma => kernel_rfl) (by as_aux_lemma => kernel_rfl) (by as_aux_lemma => kernel_rfl) (by as_aux_lemma => kernel_rfl) (by as_aux_lemma => kernel_rfl) (by as_aux_lemma => kernel_rfl) (by as_aux_lemma => kernel_rfl) (by as_aux_lemma => kernel_rfl) (by as_aux_lemma => kernel_rfl) (by as_aux_lemma => kernel_rfl) (by as_aux_lemma => kernel_rfl) (by as_aux_lemma => kernel_rfl) (by as_aux_lemma => kernel_rfl) (by as_aux_lemma => kernel_rfl) (by as_aux_lemma => kernel_rfl) (by as_aux_lemma => kernel_rfl) (by as_aux_lemma => kernel_rfl) pKeys (by as_aux_lemma => kernel_rfl) pLifts pMake (by as_aux_lemma => kernel_rfl) (by as_aux_lemma => kernel_rfl) (by as_aux_lemma => kernel_rfl) (by as_aux_lemma => kernel_rfl)

theorem twoL_holds : Rows.MemoryTwoOutvoteOneSaid :=
  OpenClaim.holds_of_wide 15 Try.f15 rfl rfl rfl rfl rfl rfl rfl ⟨rfl, rfl, rfl, rfl, rfl⟩ rfl rfl rfl rfl rfl (by kernel_rfl) Try.func15 twoL_closed
    (of_decide_eq_true (by kernel_rfl)) (by unfold Func.isWrapper; first | (rw [if_pos (by decide +kernel)]; kernel_rfl) | (rw [if_neg (by decide +kernel)]; exact ⟨rfl, rfl⟩))
    (fun os started H enc _ => twoL_lifted os started H enc)
#print axioms twoL_holds
end Go.Proofs.Ytidddoldkedicaa
