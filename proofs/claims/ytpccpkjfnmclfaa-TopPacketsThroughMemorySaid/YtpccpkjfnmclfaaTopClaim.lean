/- the claim of TopPacketsThroughMemory, of its law. -/
import Derived.Test.YtpccpkjfnmclfaaTopLaw
import Derived.Test.YtpccpkjfnmclfaaBytes
import Derived.Test.YtpccpkjfnmclfaaClose
import Derived.Test.YtpccpkjfnmclfaaClosed
namespace Go.Proofs.Ytpccpkjfnmclfaa
open Go.ChangeShapes Go.WideShapes Go.ChangeAt Go.RowKit
theorem top_any (s : Int) (cm : Bool) (pt nm : Int) (A : Option Addr) (cap : Nat) (l : List UInt8) (F : Option Addr) (fc : Nat) (fl : List Int) (w : World) (h : BR w w.heap.size A l) (hF : IR w w.heap.size F fl) (hfl : fl.length ≤ 9223372036854775807) (hfi : ∀ z ∈ fl, -9223372036854775808 ≤ z ∧ z ≤ 9223372036854775807) :
    Calls Try.prog 8 #[pv s cm pt nm A l.length cap, .slice F fl.length fc] w fun e w' => e = .returned (.bool true) ∧ Below w.heap.size w w' := by
  by_cases hf : ckP s pt nm l.length = 0
  · obtain ⟨⟨a1, a2⟩, ⟨b1, b2⟩, ⟨c1, c2⟩, x1, x2⟩ := ckP_zero hf
    obtain ⟨S, rfl⟩ := nat_of a1
    obtain ⟨PT, rfl⟩ := nat_of b1
    obtain ⟨NM, rfl⟩ := nat_of c1
    exact top_good S cm PT NM A cap l F fc fl w h hF hfl (fun k hk => hfi _ (List.getElem_mem hk)) (by omega) (by omega) (by omega) (by omega) (by omega) hf
  · exact top_bad s cm pt nm A cap l F fc fl w h hf

set_option maxHeartbeats 1600000 in
set_option maxRecDepth 100000 in
theorem topM_lifted (os : Os) (started : os.Started) (H : Type) (enc : TypeId × Value → H) :
    ReturnsInHanded {} Try.checked os 8 .any (Rows.topPacketsThroughMemorySpec.pre6 enc Try.prog Try.f8 Rows.topPacketsThroughMemoryRow.domain false) (Rows.topPacketsThroughMemorySpec.post enc Try.prog Try.f8 false true false false) := by
  refine returnsInHanded_of_change (C := Try.checked) own started (by kernel_rfl) Try.func8
    (ChangeSpec.witness6 (enc := enc) (C := Try.checked) false ⟨#[], #[pv 0 false 0 0 none 0 0, .slice none 0 0], []⟩ 8 (by kernel_rfl) (by kernel_rfl) (by kernel_rfl) (by kernel_rfl)) ?_
  intro W base args ds gs before hval0 hW _ _
  have hval : ∀ (j : Nat) t v, Try.f8.params[j]? = some t → args[j]? = some v → Value.okWide Try.prog W .any base t v := hval0
  have hW' := hW
  have hlt := fun x hx => hW'.lt x hx
  obtain ⟨p, q, hA0, hV, rfl, _, _⟩ := hW
  have hA : DataW.TrodAll enc Try.prog W 0 (fun _ => true) true Try.f8.params.toList args.toList ds p := hA0
  rw [Try.params8] at hA hval
  obtain ⟨v0, v1, d0, d1, p0, p1, rfl, rfl, rfl, h0, h1⟩ := trodAll_two hA
  obtain ⟨rfl, rfl⟩ := trodVars_none hV
  obtain ⟨sp, cmp, ptp, nmp, Ap, capp, p, rfl, -, -, hBp⟩ := open_packet (fun x hx => hlt x (by simp [hx])) (hval 0 51 v0 rfl rfl) h0
  obtain ⟨Af', lenf, capf, rfl⟩ := okWide_slice Try.underlying43 (hval 1 43 v1 rfl rfl)
  obtain ⟨nf, hnf⟩ := h1
  obtain ⟨Af, cf, f, hvf, hlcf, hcf, hBf, hIf⟩ := open_is (fun x hx => hlt x (by simp [hx])) hnf
  rw [hvf] at hW' ⊢
  refine (top_any sp cmp ptp nmp Ap capp p Af cf f W hBp hBf (by unfold maxLen at hcf; omega) hIf).mono fun e W' ⟨he, hb⟩ => ?_
  subst he
  exact ⟨_, rfl, law_post (by decide +kernel) rfl rfl hW' rfl hb⟩

set_option maxRecDepth 100000 in
theorem topM_closed : joinedFacts Try.prog 8 Try.f8 Rows.topPacketsThroughMemorySpec Rows.topPacketsThroughMemoryRow = true :=
  closed_all (by as_aux_lemma => kernel_rfl) (by as_aux_lemma => kernel_rfl) (by as_aux_lemma => kernel_rfl) (by as_aux_lemma => kernel_rfl) (by as_aux_lemma => kernel_rfl) (by as_aux_lemma => kernel_rfl) (by as_aux_lemma => kernel_rfl) (by as_aux_lemma => kernel_rfl) (by as_aux_lemma => kernel_rfl) (by as_aux_lemma => kernel_rfl) (by as_aux_lemma => kernel_rfl) (by as_aux_lemma => kernel_rfl) (by as_aux_lemma => kernel_rfl) (by as_aux_lemma => kernel_rfl) (by as_aux_lemma => kernel_rfl) (by as_aux_lemma => kernel_rfl) (by as_aux_lemma => kernel_rfl) (by as_aux_lemma => kernel_rfl) pKeys (by as_aux_lemma => kernel_rfl) pLifts pMake (by as_aux_lemma => kernel_rfl) (by as_aux_lemma => kernel_rfl) (by as_aux_lemma => kernel_rfl) (by as_aux_lemma => kernel_rfl)

theorem topM_holds : Rows.TopPacketsThroughMemorySaid :=
  OpenClaim.holds_of_wide 8 Try.f8 rfl rfl rfl rfl rfl rfl rfl ⟨rfl, rfl, rfl, rfl, rfl⟩ rfl rfl rfl rfl rfl (by kernel_rfl) Try.func8 topM_closed
    (of_decide_eq_true (by kernel_rfl)) (by unfold Func.isWrapper; first | (rw [if_pos (by decide +kernel)]; kernel_rfl) | (rw [if_neg (by decide +kernel)]; exact ⟨rfl, rfl⟩))
    (fun os started H enc _ => topM_lifted os started H enc)
#print axioms topM_holds
end Go.Proofs.Ytpccpkjfnmclfaa
