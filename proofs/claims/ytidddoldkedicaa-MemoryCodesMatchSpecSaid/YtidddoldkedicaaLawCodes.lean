/- Coded, Decoded and Kind answer as the reference does: the law MemoryCodesMatchSpec answers true for every input. No condition. -/
import Derived.Test.YtidddoldkedicaaAwake
import Derived.Test.YtidddoldkedicaaRDec
import Derived.Test.YtidddoldkedicaaClose
import Derived.Test.YtidddoldkedicaaClosed
namespace Go.Proofs.Ytidddoldkedicaa
open Go.ChangeShapes Go.WideShapes Go.ChangeAt Go.RowKit

set_option maxRecDepth 100000 in
set_option maxHeartbeats 1000000 in
theorem lawCodes_any (n c : Int) (w : World) :
    Calls Try.prog 3 #[.int .i64 n, .int .i64 c] w fun e w' => e = .returned (.bool true) ∧ Below w.heap.size w w' := by
  have c1 := Lib.hid (Coded_any n)
  have c2 := Lib.hid (rCoded_any n)
  have c3 := Lib.hid (Decoded_any c)
  have c4 := Lib.hid (rDecoded_any c)
  have c5 := Lib.hid (Kind_any c)
  have c6 := Lib.hid (rKind_any c)
  generalize codS n = p at *
  generalize decS c = q at *
  generalize kindS c = r at *
  obtain ⟨p1, p2⟩ := p
  obtain ⟨q1, q2, q3⟩ := q
  obtain ⟨r1, r2, r3⟩ := r
  simp only [two, three'] at *
  go_enter Try.func3, Try.ntmps3
  go_wp2_with (first | (go_at_call 16; refine (c1.out _).mono ?_; rintro e w' ⟨rfl, rfl⟩) | (go_at_call 17; refine (c2.out _).mono ?_; rintro e w' ⟨rfl, rfl⟩) | (go_at_call 18; refine (c3.out _).mono ?_; rintro e w' ⟨rfl, rfl⟩) | (go_at_call 19; refine (c4.out _).mono ?_; rintro e w' ⟨rfl, rfl⟩) | (go_at_call 20; refine (c5.out _).mono ?_; rintro e w' ⟨rfl, rfl⟩) | (go_at_call 21; refine (c6.out _).mono ?_; rintro e w' ⟨rfl, rfl⟩) | (go_at_call 22; refine (awake_any _).mono ?_; rintro e w' ⟨rfl, rfl⟩) | fail)
  go_ret
  exact ⟨rfl, Below.refl _ _⟩

set_option maxHeartbeats 1600000 in
set_option maxRecDepth 100000 in
theorem codes_lifted (os : Os) (started : os.Started) (H : Type) (enc : TypeId × Value → H) :
    ReturnsInHanded {} Try.checked os 3 .any (Rows.memoryCodesMatchSpecSpec.pre6 enc Try.prog Try.f3 Rows.memoryCodesMatchSpecRow.domain false) (Rows.memoryCodesMatchSpecSpec.post enc Try.prog Try.f3 false true false false) := by
  refine returnsInHanded_of_change (C := Try.checked) own started (by kernel_rfl) Try.func3
    (ChangeSpec.witness6 (enc := enc) (C := Try.checked) false ⟨#[], #[.int .i64 0, .int .i64 0], []⟩ 8 (by kernel_rfl) (by kernel_rfl) (by kernel_rfl) (by kernel_rfl)) ?_
  intro W base args ds gs before hval0 hW _ _
  have hval : ∀ (j : Nat) t v, Try.f3.params[j]? = some t → args[j]? = some v → Value.okWide Try.prog W .any base t v := hval0
  have hW' := hW
  have hlt := fun x hx => hW'.lt x hx
  obtain ⟨p, q, hA0, hV, rfl, _, _⟩ := hW
  have hA : DataW.TrodAll enc Try.prog W 0 (fun _ => true) true Try.f3.params.toList args.toList ds p := hA0
  rw [Try.params3] at hA hval
  obtain ⟨v0, v1, d0, d1, p0, p1, rfl, rfl, rfl, h0, h1⟩ := trodAll_two hA
  obtain ⟨rfl, rfl⟩ := trodVars_none hV
  obtain ⟨n, rfl, rfl, rfl, wfn⟩ := open_int Try.underlying3 (hval 0 3 v0 rfl rfl) h0
  have hbn := bounds_i64 wfn
  obtain ⟨m, rfl, rfl, rfl, wfm⟩ := open_int Try.underlying3 (hval 1 3 v1 rfl rfl) h1
  have hbm := bounds_i64 wfm
  refine (lawCodes_any n m W).mono fun e W' ⟨he, hb⟩ => ?_
  subst he
  exact ⟨_, rfl, law_post (by decide +kernel) rfl rfl hW' rfl hb⟩

set_option maxRecDepth 100000 in
theorem codes_closed : joinedFacts Try.prog 3 Try.f3 Rows.memoryCodesMatchSpecSpec Rows.memoryCodesMatchSpecRow = true :=
  closed_all (by as_aux_lemma => kernel_rfl) (by as_aux_lemma => kernel_rfl) (by as_aux_lemma => kernel_rfl) (by as_aux_lemma => kernel_rfl) (by as_aux_lemma => kernel_rfl) (by as_aux_lemma => kernel_rfl) (by as_aux_lemma => kernel_rfl) (by as_aux_lemma => kernel_rfl) (by as_aux_lemma => kernel_rfl) (by as_aux_lemma => kernel_rfl) (by as_aux_lemma => kernel_rfl) (by as_aux_lemma => kernel_rfl) (by as_aux_lemma => kernel_rfl) (by as_aux_lemma => kernel_rfl) (by as_aux_lemma => kernel_rfl) (by as_aux_lemma => kernel_rfl) (by as_aux_lemma => kernel_rfl) (by as_aux_lemma => kernel_rfl) pKeys (by as_aux_lemma => kernel_rfl) pLifts pMake (by as_aux_lemma => kernel_rfl) (by as_aux_lemma => kernel_rfl) (by as_aux_lemma => kernel_rfl) (by as_aux_lemma => kernel_rfl)

theorem codes_holds : Rows.MemoryCodesMatchSpecSaid :=
  OpenClaim.holds_of_wide 3 Try.f3 rfl rfl rfl rfl rfl rfl rfl ⟨rfl, rfl, rfl, rfl, rfl⟩ rfl rfl rfl rfl rfl (by kernel_rfl) Try.func3 codes_closed
    (of_decide_eq_true (by kernel_rfl)) (by unfold Func.isWrapper; first | (rw [if_pos (by decide +kernel)]; kernel_rfl) | (rw [if_neg (by decide +kernel)]; exact ⟨rfl, rfl⟩))
    (fun os started H enc _ => codes_lifted os started H enc)
#print axioms codes_holds
end Go.Proofs.Ytidddoldkedicaa
