/- Voted answers as the reference does: the law MemoryVotedMatchesSpec answers true for every input. No condition. -/
import Derived.Test.YtidddoldkedicaaAwake
import Derived.Test.YtidddoldkedicaaRVoted
import Derived.Test.YtidddoldkedicaaSame
import Derived.Test.YtidddoldkedicaaCloseB
import Derived.Test.YtidddoldkedicaaClosed
namespace Go.Proofs.Ytidddoldkedicaa
open Go.ChangeShapes Go.WideShapes Go.ChangeAt Go.RowKit

theorem voted_lens (a a' b b' d d' : List Int) (la : a.length ≤ 9223372036854775807) (la' : a'.length ≤ 9223372036854775807) :
    (votedS a a' b b' d d').1.1.length ≤ 9223372036854775807 ∧ (votedS a a' b b' d d').1.2.length ≤ 9223372036854775807 ∧ (votedS a a' b b' d d').2.1.length ≤ 9223372036854775807 := by
  unfold votedS
  by_cases h1 : threeS a a' b b' d d' = 0
  · rw [if_pos h1]
    have h2 := vote_len (nats a) (nats b) (nats d) a.length
    have h3 := vote_few (nats a) (nats b) (nats d) a.length
    rw [nats_len] at h2
    simp only [ints_len]
    omega
  · rw [if_neg h1]
    simp
theorem boxed3_held (x1 y1 x2 y2 x3 y3 : Value) (w w0 : World) (hw : ((w.alloc (.cells #[x1, y1] 33)).alloc (.cells #[x2, y2] 33)).alloc (.cells #[x3, y3] 33) = w0) :
    Below w.heap.size w w0 ∧ w0.heap.size = w.heap.size + 3 ∧ HeldB w0 w.heap.size x1 y1 ∧ HeldB w0 (w.heap.size + 1) x2 y2 ∧ HeldB w0 (w.heap.size + 2) x3 y3 := by
  subst hw
  have h1 := HeldB.new w x1 y1
  have h2 := HeldB.new (w.alloc (.cells #[x1, y1] 33)) x2 y2
  have h3 := HeldB.new ((w.alloc (.cells #[x1, y1] 33)).alloc (.cells #[x2, y2] 33)) x3 y3
  simp only [World.size_alloc] at h2 h3
  have b1 : Below (w.heap.size + 1) (w.alloc (.cells #[x1, y1] 33)) (((w.alloc (.cells #[x1, y1] 33)).alloc (.cells #[x2, y2] 33)).alloc (.cells #[x3, y3] 33)) := ((Below.refl _ _).alloc (by simp) _).alloc (by simp) _
  have b2 : Below (w.heap.size + 2) ((w.alloc (.cells #[x1, y1] 33)).alloc (.cells #[x2, y2] 33)) (((w.alloc (.cells #[x1, y1] 33)).alloc (.cells #[x2, y2] 33)).alloc (.cells #[x3, y3] 33)) := (Below.refl _ _).alloc (by simp) _
  exact ⟨((((Below.refl _ _).alloc (Nat.le_refl _) _).alloc (by simp) _).alloc (by simp <;> omega) _), by simp, h1.below b1 (by omega), h2.below b2 (by omega), h3⟩
set_option maxRecDepth 100000 in
set_option maxHeartbeats 2000000 in
theorem lawVote_any (A1 A1' A2 A2' A3 A3' : Option Addr) (c1 c1' c2 c2' c3 c3' : Nat) (a a' b b' d d' : List Int) (w : World)
    (la : a.length ≤ 9223372036854775807) (la' : a'.length ≤ 9223372036854775807) (lb : b.length ≤ 9223372036854775807) (lb' : b'.length ≤ 9223372036854775807) (ld : d.length ≤ 9223372036854775807) (ld' : d'.length ≤ 9223372036854775807)
    (ha : IR w w.heap.size A1 a) (ha' : IR w w.heap.size A1' a') (hb : IR w w.heap.size A2 b) (hb' : IR w w.heap.size A2' b') (hd : IR w w.heap.size A3 d) (hd' : IR w w.heap.size A3' d') :
    Calls Try.prog 14 #[bankV A1 A1' a.length a'.length c1 c1', bankV A2 A2' b.length b'.length c2 c2', bankV A3 A3' d.length d'.length c3 c3'] w fun e w' => e = .returned (.bool true) ∧ Below w.heap.size w w' := by
  have C1 := Lib.hid (fun (w1 : World) (h : Below w.heap.size w w1) => voted_any A1 A1' A2 A2' A3 A3' c1 c1' c2 c2' c3 c3' a a' b b' d d' w.heap.size w1 h.size la la' lb lb' ld ld' (ha.below h) (ha'.below h) (hb.below h) (hb'.below h) (hd.below h) (hd'.below h))
  have C2 := Lib.hid (fun (w1 : World) (h : Below w.heap.size w w1) => rvoted_any A1 A1' A2 A2' A3 A3' c1 c1' c2 c2' c3 c3' a a' b b' d d' w.heap.size w1 h.size la la' lb lb' ld ld' (ha.below h) (ha'.below h) (hb.below h) (hb'.below h) (hd.below h) (hd'.below h))
  have hlens := voted_lens a a' b b' d d' la la'
  generalize votedS a a' b b' d d' = U at *
  obtain ⟨⟨X, X'⟩, S, F⟩ := U
  unfold VotePost at C1 C2
  unfold bankV at C1 C2 ⊢
  simp only at hlens C1 C2
  obtain ⟨w0, hw0⟩ : ∃ w0, ((w.alloc (.cells #[.slice A1 a.length c1, .slice A1' a'.length c1'] 33)).alloc (.cells #[.slice A2 b.length c2, .slice A2' b'.length c2'] 33)).alloc (.cells #[.slice A3 d.length c3, .slice A3' d'.length c3'] 33) = w0 := ⟨_, rfl⟩
  obtain ⟨b0, z0, h1, h2, h3⟩ := boxed3_held _ _ _ _ _ _ w w0 hw0
  clear ha ha' hb hb' hd hd'
  obtain ⟨e1, e1'⟩ := h1.cells
  obtain ⟨e2, e2'⟩ := h2.cells
  obtain ⟨e3, e3'⟩ := h3.cells
  have C1' := Lib.hid (C1.out w0 b0)
  have HW0 := Lib.hid hw0
  clear hw0
  go_enter Try.func14, Try.ntmps14
  go_upto_region 1 with fail
  rw [HW0.out]
  go_wp2_with fail
  refine C1'.out.mono ?_
  rintro e w1 ⟨D, D', k, k', G, q, rfl, i1, i1', i1'', hb1⟩
  clear HW0 e1 e1' e2 e2' e3 e3' C1 C1'
  have bx1 := b0.trans (hb1.mono (by omega))
  have s1 := hb1.size
  generalize hwa : w1.alloc (.cells #[.slice D X.length k, .slice D' X'.length k'] 33) = wa
  have ba : Below w1.heap.size w1 wa := by rw [← hwa]; exact box_below _ _
  have za : wa.heap.size = w1.heap.size + 1 := by rw [← hwa]; simp
  have ba0 : Below w0.heap.size w0 wa := hb1.trans (ba.mono s1)
  have g9 : HeldB wa w1.heap.size (.slice D X.length k) (.slice D' X'.length k') := by rw [← hwa]; exact HeldB.new _ _ _
  have bxa := bx1.trans (ba.mono (by omega))
  have C2' := Lib.hid (C2.out wa bxa)
  obtain ⟨e1, e1'⟩ := (h1.below ba0 (by omega)).cells
  obtain ⟨e2, e2'⟩ := (h2.below ba0 (by omega)).cells
  obtain ⟨e3, e3'⟩ := (h3.below ba0 (by omega)).cells
  go_wp2_with fail
  refine C2'.out.mono ?_
  rintro e w2 ⟨E, E', m, m', G2, q2, rfl, i2, i2', i2'', hb2⟩
  clear hwa e1 e1' e2 e2' e3 e3' C2 C2'
  have s2 := hb2.size
  generalize hwb : w2.alloc (.cells #[.slice E X.length m, .slice E' X'.length m'] 33) = wb
  have bb : Below w2.heap.size w2 wb := by rw [← hwb]; exact box_below _ _
  have zb : wb.heap.size = w2.heap.size + 1 := by rw [← hwb]; simp
  have j9 := (g9.below hb2 (by omega)).below bb (by omega)
  have j11 : HeldB wb w2.heap.size (.slice E X.length m) (.slice E' X'.length m') := by rw [← hwb]; exact HeldB.new _ _ _
  have bxb := (bxa.trans (hb2.mono (by omega))).trans (bb.mono (by omega))
  have f1 : IR wb wb.heap.size D X := (((i1.below ba).below (hb2.mono (by omega))).below (bb.mono (by omega))).lift (by omega)
  have f1' : IR wb wb.heap.size D' X' := (((i1'.below ba).below (hb2.mono (by omega))).below (bb.mono (by omega))).lift (by omega)
  have f1'' : IR wb wb.heap.size G S := (((i1''.below ba).below (hb2.mono (by omega))).below (bb.mono (by omega))).lift (by omega)
  have f2 : IR wb wb.heap.size E X := (i2.below bb).lift (by omega)
  have f2' : IR wb wb.heap.size E' X' := (i2'.below bb).lift (by omega)
  have f2'' : IR wb wb.heap.size G2 S := (i2''.below bb).lift (by omega)
  have HSM := Lib.hid (same_yes D D' E E' k k' m m' X X' wb.heap.size wb (Nat.le_refl _) hlens.1 hlens.2.1 f1 f1' f2 f2')
  have HEQ := Lib.hid (fun (w1 : World) (hb : Below wb.heap.size wb w1) => equalI_yes G G2 q q2 S wb.heap.size w1 hlens.2.2 (f1''.below hb) (f2''.below hb))
  unfold bankV at HSM
  obtain ⟨p1, p2⟩ := j9.cells
  obtain ⟨p3, p4⟩ := j11.cells
  go_wp2_with fail
  refine HSM.out.mono ?_
  rintro e w3 ⟨rfl, hb3⟩
  clear hwb p1 p2 p3 p4
  go_wp2_with fail
  refine (HEQ.out w3 hb3).mono ?_
  rintro e w4 ⟨rfl, hb4⟩
  have bx4 := (bxb.trans (hb3.mono (by omega))).trans (hb4.mono (by have := hb3.size; omega))
  go_wp2_with (first | (go_at_call 22; refine (awake_any _).mono ?_; rintro e w' ⟨rfl, rfl⟩) | fail)
  go_ret
  exact ⟨rfl, bx4⟩

set_option maxHeartbeats 1600000 in
set_option maxRecDepth 100000 in
theorem voteL_lifted (os : Os) (started : os.Started) (H : Type) (enc : TypeId × Value → H) :
    ReturnsInHanded {} Try.checked os 14 .any (Rows.memoryVotedMatchesSpecSpec.pre6 enc Try.prog Try.f14 Rows.memoryVotedMatchesSpecRow.domain false) (Rows.memoryVotedMatchesSpecSpec.post enc Try.prog Try.f14 false true false false) := by
  refine returnsInHanded_of_change (C := Try.checked) own started (by kernel_rfl) Try.func14
    (ChangeSpec.witness6 (enc := enc) (C := Try.checked) false ⟨#[], #[.agg #[.slice none 0 0, .slice none 0 0], .agg #[.slice none 0 0, .slice none 0 0], .agg #[.slice none 0 0, .slice none 0 0]], []⟩ 8 (by kernel_rfl) (by kernel_rfl) (by kernel_rfl) (by kernel_rfl)) ?_
  intro W base args ds gs before hval0 hW _ _
  have hval : ∀ (j : Nat) t v, Try.f14.params[j]? = some t → args[j]? = some v → Value.okWide Try.prog W .any base t v := hval0
  have hW' := hW
  have hlt := fun x hx => hW'.lt x hx
  obtain ⟨p, q, hA0, hV, rfl, _, _⟩ := hW
  have hA : DataW.TrodAll enc Try.prog W 0 (fun _ => true) true Try.f14.params.toList args.toList ds p := hA0
  rw [Try.params14] at hA hval
  obtain ⟨v0, v1, v2, d0, d1, d2, p0, p1, p2, rfl, rfl, rfl, h0, h1, h2⟩ := trodAll_three hA
  obtain ⟨rfl, rfl⟩ := trodVars_none hV
  obtain ⟨Aa, Aa', ca, ca', a, a', rfl, hla, hla', hBa, hBa'⟩ := open_bank (fun x hx => hlt x (by simp [hx])) (hval 0 33 v0 rfl rfl) h0
  obtain ⟨Ab, Ab', cb, cb', b, b', rfl, hlb, hlb', hBb, hBb'⟩ := open_bank (fun x hx => hlt x (by simp [hx])) (hval 1 33 v1 rfl rfl) h1
  obtain ⟨Ad, Ad', cd, cd', d, d', rfl, hld, hld', hBd, hBd'⟩ := open_bank (fun x hx => hlt x (by simp [hx])) (hval 2 33 v2 rfl rfl) h2
  refine (lawVote_any Aa Aa' Ab Ab' Ad Ad' ca ca' cb cb' cd cd' a a' b b' d d' W hla hla' hlb hlb' hld hld' hBa hBa' hBb hBb' hBd hBd').mono fun e W' ⟨he, hb⟩ => ?_
  subst he
  exact ⟨_, rfl, law_post (by decide +kernel) rfl rfl hW' rfl hb⟩

set_option maxRecDepth 100000 in
theorem voteL_closed : joinedFacts Try.prog 14 Try.f14 Rows.memoryVotedMatchesSpecSpec Rows.memoryVotedMatchesSpecRow = true :=
  closed_all (by as_aux_lemma => kernel_rfl) (by as_aux_lemma => kernel_rfl) (by as_aux_lemma => kernel_rfl) (by as_aux_lemma => kernel_rfl) (by as_aux_lemma => kernel_rfl) (by as_aux_lemma => kernel_rfl) (by as_aux_lemma => kernel_rfl) (by as_aux_lemma => kernel_rfl) (by as_aux_lemma => kernel_rfl) (by as_aux_lemma => kernel_rfl) (by as_aux_lemma => kernel_rfl) (by as_aux_lemma => kernel_rfl) (by as_aux_lemma => kernel_rfl) (by as_aux_lemma => kernel_rfl) (by as_aux_lemma => kernel_rfl) (by as_aux_lemma => kernel_rfl) (by as_aux_lemma => kernel_rfl) (by as_aux_lemma => kernel_rfl) pKeys (by as_aux_lemma => kernel_rfl) pLifts pMake (by as_aux_lemma => kernel_rfl) (by as_aux_lemma => kernel_rfl) (by as_aux_lemma => kernel_rfl) (by as_aux_lemma => kernel_rfl)

theorem voteL_holds : Rows.MemoryVotedMatchesSpecSaid :=
  OpenClaim.holds_of_wide 14 Try.f14 rfl rfl rfl rfl rfl rfl rfl ⟨rfl, rfl, rfl, rfl, rfl⟩ rfl rfl rfl rfl rfl (by kernel_rfl) Try.func14 voteL_closed
    (of_decide_eq_true (by kernel_rfl)) (by unfold Func.isWrapper; first | (rw [if_pos (by decide +kernel)]; kernel_rfl) | (rw [if_neg (by decide +kernel)]; exact ⟨rfl, rfl⟩))
    (fun os started H enc _ => voteL_lifted os started H enc)
#print axioms voteL_holds
end Go.Proofs.Ytidddoldkedicaa
