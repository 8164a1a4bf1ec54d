/- With the time that Slowest says nothing is lost or wrong: the law MemorySlowestIsSlowEnough answers true for every input. No condition. -/
import Derived.Test.YteelepjhlhifhaaEnoughLaw
import Derived.Test.YteelepjhlhifhaaMany
import Derived.Test.YteelepjhlhifhaaClosed
namespace Go.Proofs.Yteelepjhlhifhaa
open Go.ChangeShapes Go.WideShapes Go.ChangeAt Go.RowKit

set_option maxHeartbeats 1600000 in
set_option maxRecDepth 100000 in
theorem enoughL_lifted (os : Os) (started : os.Started) (H : Type) (enc : TypeId × Value → H) :
    ReturnsInHanded {} Try.checked os 10 .any (Rows.memorySlowestIsSlowEnoughSpec.pre6 enc Try.prog Try.f10 Rows.memorySlowestIsSlowEnoughRow.domain false) (Rows.memorySlowestIsSlowEnoughSpec.post enc Try.prog Try.f10 false true false false) := by
  refine returnsInHanded_of_change (C := Try.checked) own started (by kernel_rfl) Try.func10
    (ChangeSpec.witness6 (enc := enc) (C := Try.checked) false ⟨#[], #[.agg #[.slice none 0 0, .slice none 0 0], .agg #[.int .i64 0, .int .i64 0], .slice none 0 0, .int .i64 0, .int .i64 0], []⟩ 8 (by kernel_rfl) (by kernel_rfl) (by kernel_rfl) (by kernel_rfl)) ?_
  intro W base args ds gs before hval0 hW _ _
  have hval : ∀ (j : Nat) t v, Try.f10.params[j]? = some t → args[j]? = some v → Value.okWide Try.prog W .any base t v := hval0
  have hW' := hW
  have hlt := fun x hx => hW'.lt x hx
  obtain ⟨p, q, hA0, hV, rfl, _, _⟩ := hW
  have hA : DataW.TrodAll enc Try.prog W 0 (fun _ => true) true Try.f10.params.toList args.toList ds p := hA0
  rw [Try.params10] at hA hval
  obtain ⟨v0, v1, v2, v3, v4, d0, d1, d2, d3, d4, p0, p1, p2, p3, p4, rfl, rfl, rfl, h0, h1, h2, h3, h4⟩ := trodAll_many5 hA
  obtain ⟨rfl, rfl⟩ := trodVars_none hV
  obtain ⟨Ab, Ab', cb, cb', b, b', rfl, hlb, hlb', hBb, hBb'⟩ := open_bank (fun x hx => hlt x (by simp [hx])) (hval 0 52 v0 rfl rfl) h0
  obtain ⟨re, rm, rfl, hbre, hbrm⟩ := open_round (hval 1 68 v1 rfl rfl) h1
  obtain ⟨Af', lenf, capf, rfl⟩ := okWide_slice Try.underlying64 (hval 2 64 v2 rfl rfl)
  obtain ⟨nf, hnf⟩ := h2
  obtain ⟨Af, cf, f, hvf, hlcf, hcf, hBf, hIf⟩ := open_flips (fun x hx => hlt x (by simp [hx])) hnf
  obtain ⟨u, rfl, rfl, rfl, wfu⟩ := open_int Try.underlying3 (hval 3 3 v3 rfl rfl) h3
  have hbu := bounds_i64 wfu
  obtain ⟨q, rfl, rfl, rfl, wfq⟩ := open_int Try.underlying3 (hval 4 3 v4 rfl rfl) h4
  have hbq := bounds_i64 wfq
  rw [hvf] at hW' ⊢
  refine (lawEnough_any Ab Ab' Af cb cb' cf b b' re rm f u q W hlb hlb' hlcf hcf hBb hBb' hBf).mono fun e W' ⟨he, hb⟩ => ?_
  subst he
  exact ⟨_, rfl, law_post (by decide +kernel) rfl rfl hW' rfl hb⟩

set_option maxRecDepth 100000 in
theorem enoughL_closed : joinedFacts Try.prog 10 Try.f10 Rows.memorySlowestIsSlowEnoughSpec Rows.memorySlowestIsSlowEnoughRow = true :=
  closed_all (by as_aux_lemma => kernel_rfl) (by as_aux_lemma => kernel_rfl) (by as_aux_lemma => kernel_rfl) (by as_aux_lemma => kernel_rfl) (by as_aux_lemma => kernel_rfl) (by as_aux_lemma => kernel_rfl) (by as_aux_lemma => kernel_rfl) (by as_aux_lemma => kernel_rfl) (by as_aux_lemma => kernel_rfl) (by as_aux_lemma => kernel_rfl) (by as_aux_lemma => kernel_rfl) (by as_aux_lemma => kernel_rfl) (by as_aux_lemma => kernel_rfl) (by as_aux_lemma => kernel_rfl) (by as_aux_lemma => kernel_rfl) (by as_aux_lemma => kernel_rfl) (by as_aux_lemma => kernel_rfl) (by as_aux_lemma => kernel_rfl) pKeys (by as_aux_lemma => kernel_rfl) pLifts pMake (by as_aux_lemma => kernel_rfl) (by as_aux_lemma => kernel_rfl) (by as_aux_lemma => kernel_rfl) (by as_aux_lemma => kernel_rfl)

theorem enoughL_holds : Rows.MemorySlowestIsSlowEnoughSaid :=
  OpenClaim.holds_of_wide 10 Try.f10 rfl rfl rfl rfl rfl rfl rfl ⟨rfl, rfl, rfl, rfl, rfl⟩ rfl rfl rfl rfl rfl (by kernel_rfl) Try.func10 enoughL_closed
    (of_decide_eq_true (by kernel_rfl)) (by unfold Func.isWrapper; first | (rw [if_pos (by decide +kernel)]; kernel_rfl) | (rw [if_neg (by decide +kernel)]; exact ⟨rfl, rfl⟩))
    (fun os started H enc _ => enoughL_lifted os started H enc)
#print axioms enoughL_holds
end Go.Proofs.Yteelepjhlhifhaa
