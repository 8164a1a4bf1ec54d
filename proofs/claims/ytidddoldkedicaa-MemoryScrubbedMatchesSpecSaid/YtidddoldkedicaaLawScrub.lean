/- Scrubbed answers as the reference does: the law MemoryScrubbedMatchesSpec answers true for every input. No condition. -/
import Derived.Test.YtidddoldkedicaaAwake
import Derived.Test.YtidddoldkedicaaRScrubbed
import Derived.Test.YtidddoldkedicaaEqualS
import Derived.Test.YtidddoldkedicaaSame
import Derived.Test.YtidddoldkedicaaCloseB
import Derived.Test.YtidddoldkedicaaClosed
namespace Go.Proofs.Ytidddoldkedicaa
open Go.ChangeShapes Go.WideShapes Go.ChangeAt Go.RowKit

theorem scrubbed_lens (l l' : List Int) (a z : Int) (hl : l.length ≤ 9223372036854775807) (hl' : l'.length ≤ 9223372036854775807) :
    (scrubbedS l l' a z).1.1.length ≤ 9223372036854775807 ∧ (scrubbedS l l' a z).1.2.length ≤ 9223372036854775807 ∧ (scrubbedS l l' a z).2.1.length ≤ 9223372036854775807 := by
  unfold scrubbedS
  by_cases h1 : placeS l l' a = 0
  · rw [if_pos h1]
    obtain ⟨hr, k, rfl, hk⟩ := place_right h1
    by_cases h2 : 0 ≤ z ∧ z ≤ 5000
    · rw [if_pos h2]
      have hok := right_ok hr k hk []
      have h3 := (scrub_ok hok (t := 0) z.toNat).len
      have h4 := scrub_done 0 ⟨nats l, k, []⟩ z.toNat
      simp only [List.length_nil] at h4
      simp only [Int.toNat_natCast, ints_len]
      omega
    · rw [if_neg h2]
      simp
  · rw [if_neg h1]
    simp
set_option maxRecDepth 100000 in
set_option maxHeartbeats 2000000 in
theorem lawScrub_any (A A' : Option Addr) (c c' : Nat) (l l' : List Int) (a z : Int) (w : World) (hl : l.length ≤ 9223372036854775807) (hl' : l'.length ≤ 9223372036854775807) (h : IR w w.heap.size A l) (h' : IR w w.heap.size A' l') :
    Calls Try.prog 7 #[bankV A A' l.length l'.length c c', .int .i64 a, .int .i64 z] w fun e w' => e = .returned (.bool true) ∧ Below w.heap.size w w' := by
  have C1 := Lib.hid (fun (w1 : World) (hb : Below w.heap.size w w1) => scrubbed_any A A' c c' l l' a z w.heap.size w1 hb.size hl hl' (h.below hb) (h'.below hb))
  have C2 := Lib.hid (fun (w1 : World) (hb : Below w.heap.size w w1) => rscrubbed_any A A' c c' l l' a z w.heap.size w1 hb.size hl hl' (h.below hb) (h'.below hb))
  have hlens := scrubbed_lens l l' a z hl hl'
  generalize scrubbedS l l' a z = U at *
  obtain ⟨⟨X, X'⟩, S, F⟩ := U
  unfold ScrubPost at C1 C2
  unfold bankV at C1 C2 ⊢
  simp only at hlens C1 C2
  generalize hw0 : w.alloc (.cells #[.slice A l.length c, .slice A' l'.length c'] 33) = w0
  have b0 : Below w.heap.size w w0 := by rw [← hw0]; exact box_below _ _
  have z0 : w0.heap.size = w.heap.size + 1 := by rw [← hw0]; simp
  have h0 : HeldB w0 w.heap.size (.slice A l.length c) (.slice A' l'.length c') := by rw [← hw0]; exact HeldB.new _ _ _
  clear h h'
  obtain ⟨p1, p2⟩ := h0.cells
  have C1' := Lib.hid (C1.out w0 b0)
  go_enter Try.func7, Try.ntmps7
  go_wp2_with fail
  refine C1'.out.mono ?_
  rintro e w1 ⟨D, D', k, k', G, q, rfl, i1, i1', i1'', hb1, -, -, -⟩
  clear hw0 p1 p2 C1 C1'
  have bx1 := b0.trans (hb1.mono (by omega))
  have s1 := hb1.size
  generalize hwa : w1.alloc (.cells #[.slice D X.length k, .slice D' X'.length k'] 33) = wa
  have ba : Below w1.heap.size w1 wa := by rw [← hwa]; exact box_below _ _
  have za : wa.heap.size = w1.heap.size + 1 := by rw [← hwa]; simp
  have g0 := (h0.below hb1 (by omega)).below ba (by omega)
  have g9 : HeldB wa w1.heap.size (.slice D X.length k) (.slice D' X'.length k') := by rw [← hwa]; exact HeldB.new _ _ _
  have bxa := bx1.trans (ba.mono (by omega))
  have C2' := Lib.hid (C2.out wa bxa)
  obtain ⟨p1, p2⟩ := g0.cells
  go_wp2_with fail
  refine C2'.out.mono ?_
  rintro e w2 ⟨E, E', m, m', G2, q2, rfl, i2, i2', i2'', hb2, -, -, -⟩
  clear hwa p1 p2 C2 C2'
  have s2 := hb2.size
  generalize hwb : w2.alloc (.cells #[.slice E X.length m, .slice E' X'.length m'] 33) = wb
  have bb : Below w2.heap.size w2 wb := by rw [← hwb]; exact box_below _ _
  have zb : wb.heap.size = w2.heap.size + 1 := by rw [← hwb]; simp
  have j9 := (g9.below hb2 (by omega)).below bb (by omega)
  have j11 : HeldB wb w2.heap.size (.slice E X.length m) (.slice E' X'.length m') := by rw [← hwb]; exact HeldB.new _ _ _
  have bxb := (bxa.trans (hb2.mono (by omega))).trans (bb.mono (by omega))
  have f1 : IR wb wb.heap.size D X := (((i1.below ba).below (hb2.mono (by omega))).below (bb.mono (by omega))).lift (by omega)
  have f1' : IR wb wb.heap.size D' X' := (((i1'.below ba).below (hb2.mono (by omega))).below (bb.mono (by omega))).lift (by omega)
  have f1'' : SR wb wb.heap.size G S := (((i1''.below ba).below (hb2.mono (by omega))).below (bb.mono (by omega))).lift (by omega)
  have f2 : IR wb wb.heap.size E X := (i2.below bb).lift (by omega)
  have f2' : IR wb wb.heap.size E' X' := (i2'.below bb).lift (by omega)
  have f2'' : SR wb wb.heap.size G2 S := (i2''.below bb).lift (by omega)
  have HSM := Lib.hid (same_yes D D' E E' k k' m m' X X' wb.heap.size wb (Nat.le_refl _) hlens.1 hlens.2.1 f1 f1' f2 f2')
  have HEQ := Lib.hid (fun (w1 : World) (hb : Below wb.heap.size wb w1) => equalS_yes G G2 q q2 S wb.heap.size w1 hlens.2.2 (f1''.below hb) (f2''.below hb))
  unfold bankV at HSM
  obtain ⟨p1, p2⟩ := j9.cells
  obtain ⟨p3, p4⟩ := j11.cells
  go_wp2_with fail
  refine HSM.out.mono ?_
  rintro e w3 ⟨rfl, hb3⟩
  clear hwb p1 p2 p3 p4
  go_wp2_with fail
  refine (HEQ.out w3 hb3).mono ?_
  rintro e w4 ⟨rfl, hb4⟩
  have bx4 := (bxb.trans (hb3.mono (by omega))).trans (hb4.mono (by have := hb3.size; omega))
  go_wp2_with (first | (go_at_call 22; refine (awake_any _).mono ?_; rintro e w' ⟨rfl, rfl⟩) | fail)
  go_ret
  exact ⟨rfl, bx4⟩

set_option maxHeartbeats 1600000 in
set_option maxRecDepth 100000 in
theorem scrubL_lifted (os : Os) (started : os.Started) (H : Type) (enc : TypeId × Value → H) :
    ReturnsInHanded {} Try.checked os 7 .any (Rows.memoryScrubbedMatchesSpecSpec.pre6 enc Try.prog Try.f7 Rows.memoryScrubbedMatchesSpecRow.domain false) (Rows.memoryScrubbedMatchesSpecSpec.post enc Try.prog Try.f7 false true false false) := by
  refine returnsInHanded_of_change (C := Try.checked) own started (by kernel_rfl) Try.func7
    (ChangeSpec.witness6 (enc := enc) (C := Try.checked) false ⟨#[], #[.agg #[.slice none 0 0, .slice none 0 0], .int .i64 0, .int .i64 0], []⟩ 8 (by kernel_rfl) (by kernel_rfl) (by kernel_rfl) (by kernel_rfl)) ?_
  intro W base args ds gs before hval0 hW _ _
  have hval : ∀ (j : Nat) t v, Try.f7.params[j]? = some t → args[j]? = some v → Value.okWide Try.prog W .any base t v := hval0
  have hW' := hW
  have hlt := fun x hx => hW'.lt x hx
  obtain ⟨p, q, hA0, hV, rfl, _, _⟩ := hW
  have hA : DataW.TrodAll enc Try.prog W 0 (fun _ => true) true Try.f7.params.toList args.toList ds p := hA0
  rw [Try.params7] at hA hval
  obtain ⟨v0, v1, v2, d0, d1, d2, p0, p1, p2, rfl, rfl, rfl, h0, h1, h2⟩ := trodAll_three hA
  obtain ⟨rfl, rfl⟩ := trodVars_none hV
  obtain ⟨Ab, Ab', cb, cb', b, b', rfl, hlb, hlb', hBb, hBb'⟩ := open_bank (fun x hx => hlt x (by simp [hx])) (hval 0 33 v0 rfl rfl) h0
  obtain ⟨n, rfl, rfl, rfl, wfn⟩ := open_int Try.underlying3 (hval 1 3 v1 rfl rfl) h1
  have hbn := bounds_i64 wfn
  obtain ⟨m, rfl, rfl, rfl, wfm⟩ := open_int Try.underlying3 (hval 2 3 v2 rfl rfl) h2
  have hbm := bounds_i64 wfm
  refine (lawScrub_any Ab Ab' cb cb' b b' n m W hlb hlb' hBb hBb').mono fun e W' ⟨he, hb⟩ => ?_
  subst he
  exact ⟨_, rfl, law_post (by decide +kernel) rfl rfl hW' rfl hb⟩

set_option maxRecDepth 100000 in
theorem scrubL_closed : joinedFacts Try.prog 7 Try.f7 Rows.memoryScrubbedMatchesSpecSpec Rows.memoryScrubbedMatchesSpecRow = true :=
  closed_all (by as_aux_lemma => kernel_rfl) (by as_aux_lemma => kernel_rfl) (by as_aux_lemma => kernel_rfl) (by as_aux_lemma => kernel_rfl) (by as_aux_lemma => kernel_rfl) (by as_aux_lemma => kernel_rfl) (by as_aux_lemma => kernel_rfl) (by as_aux_lemma => kernel_rfl) (by as_aux_lemma => kernel_rfl) (by as_aux_lemma => kernel_rfl) (by as_aux_lemma => kernel_rfl) (by as_aux_lemma => kernel_rfl) (by as_aux_lemma => kernel_rfl) (by as_aux_lemma => kernel_rfl) (by as_aux_lemma => kernel_rfl) (by as_aux_lemma => kernel_rfl) (by as_aux_lemma => kernel_rfl) (by as_aux_lemma => kernel_rfl) pKeys (by as_aux_lemma => kernel_rfl) pLifts pMake (by as_aux_lemma => kernel_rfl) (by as_aux_lemma => kernel_rfl) (by as_aux_lemma => kernel_rfl) (by as_aux_lemma => kernel_rfl)

theorem scrubL_holds : Rows.MemoryScrubbedMatchesSpecSaid :=
  OpenClaim.holds_of_wide 7 Try.f7 rfl rfl rfl rfl rfl rfl rfl ⟨rfl, rfl, rfl, rfl, rfl⟩ rfl rfl rfl rfl rfl (by kernel_rfl) Try.func7 scrubL_closed
    (of_decide_eq_true (by kernel_rfl)) (by unfold Func.isWrapper; first | (rw [if_pos (by decide +kernel)]; kernel_rfl) | (rw [if_neg (by decide +kernel)]; exact ⟨rfl, rfl⟩))
    (fun os started H enc _ => scrubL_lifted os started H enc)
#print axioms scrubL_holds
end Go.Proofs.Ytidddoldkedicaa
