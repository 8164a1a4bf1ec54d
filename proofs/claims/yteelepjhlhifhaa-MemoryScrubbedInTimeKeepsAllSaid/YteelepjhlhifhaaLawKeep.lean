/- If all words are gone through each time, and no two flips come between two rounds, nothing is lost or wrong: the law MemoryScrubbedInTimeKeepsAll answers true for every input. No condition. -/
import Derived.Test.YteelepjhlhifhaaKeepLaw
import Derived.Test.YteelepjhlhifhaaOwnFl
import Derived.Test.YteelepjhlhifhaaClosed
namespace Go.Proofs.Yteelepjhlhifhaa
open Go.ChangeShapes Go.WideShapes Go.ChangeAt Go.RowKit

set_option maxRecDepth 100000 in
/-- A slice of numbers that came in, and how long what was read of it is. -/
theorem open_isd {H : Type} {enc : TypeId × Value → H} {W : World} {sp : Nat → Bool} {held : Bool} {n : Nat} {v : Value} {y : DataW H × List MemPlace}
    (hlt : ∀ x ∈ y.2, x.block < W.heap.size) (h : DataW.trod enc Try.prog W 0 sp held n 22 [v] = some y) :
    ∃ (A : Option Addr) (c : Nat) (l : List Int), v = .slice A l.length c ∧ l.length ≤ c ∧ c ≤ maxLen ∧ IR W W.heap.size A l ∧ (∀ k (h : k < l.length), -9223372036854775808 ≤ l[k] ∧ l[k] ≤ 9223372036854775807) ∧ (l = [] ∨ ∃ el sp', y.1 = .slice el sp' ∧ l.length ≤ el.length) := by
  rcases open_ints Try.underlying22 Try.underlying3 cells3 h with ⟨hcs, hx⟩ | ⟨a, len, cap, zs, hcs, _, hl, hm, hz, hx, hcell, hwz⟩
  · refine ⟨none, 0, [], by simpa using hcs, by simp, by simp [maxLen], .inl rfl, fun k h => by simp at h, .inl rfl⟩
  · have hlen : (zs.take len).length = len := by
      simp
      split at hz <;> omega
    refine ⟨some a, cap, zs.take len, ?_, by omega, hm, ?_, fun k hk => i64_bd (hwz _ (List.mem_of_mem_take (List.getElem_mem hk))), .inr ⟨_, _, by rw [hx], by rw [hlen]; simp [lits]; split at hz <;> omega⟩⟩
    · rw [hlen]
      simpa using hcs
    rcases Nat.eq_zero_or_pos len with h0 | hpos
    · subst h0
      exact .inl (by simp)
    have hzl : len ≤ zs.length := by split at hz <;> omega
    refine .inr ⟨a, rfl, ?_, fun j u hu => ?_⟩
    · have := hlt (MemPlace.cell a.block a.off) (by rw [hx]; exact row_head a zs.length (by omega))
      exact this
    · have hj : j < len := by
        have := (List.getElem?_eq_some_iff.1 hu).1
        simp at this
        omega
      have hb := hcell j (by omega)
      rw [hb]
      have hzj : zs[j]? = some (zs[j]'(by omega)) := List.getElem?_eq_getElem (by omega)
      rw [← hu]
      simp [iv, hj, hzj, List.getD]

set_option maxHeartbeats 1600000 in
set_option maxRecDepth 100000 in
theorem keepL_lifted (os : Os) (started : os.Started) (H : Type) (enc : TypeId × Value → H) :
    ReturnsInHanded {} Try.checked os 8 .any (Rows.memoryScrubbedInTimeKeepsAllSpec.pre6 enc Try.prog Try.f8 Rows.memoryScrubbedInTimeKeepsAllRow.domain false) (Rows.memoryScrubbedInTimeKeepsAllSpec.post enc Try.prog Try.f8 false true false false) := by
  refine returnsInHanded_of_change_sized (C := Try.checked) own started (by kernel_rfl) Try.func8
    (ChangeSpec.witness6 (enc := enc) (C := Try.checked) false ⟨#[], #[.slice none 0 0, .int .i64 0, .slice none 0 0], []⟩ 8 (by kernel_rfl) (by kernel_rfl) (by kernel_rfl) (by kernel_rfl)) ?_
  intro W base args ds gs before hval0 hW _ hsz0 _
  have hval : ∀ (j : Nat) t v, Try.f8.params[j]? = some t → args[j]? = some v → Value.okWide Try.prog W .any base t v := hval0
  have hW' := hW
  have hlt := fun x hx => hW'.lt x hx
  obtain ⟨p, q, hA0, hV, rfl, _, _⟩ := hW
  have hA : DataW.TrodAll enc Try.prog W 0 (fun _ => true) true Try.f8.params.toList args.toList ds p := hA0
  have hsz : (DataW.weightsEach Try.prog (Try.f8.params.toList ++ Rows.memoryScrubbedInTimeKeepsAllSpec.plain.varTypes Try.prog) (ds ++ gs)).all (· ≤ reachBytes) = true := hsz0
  rw [Try.params8] at hA hval hsz
  obtain ⟨v0, v1, v2, d0, d1, d2, p0, p1, p2, rfl, rfl, rfl, h0, h1, h2⟩ := trodAll_three hA
  obtain ⟨rfl, rfl⟩ := trodVars_none hV
  obtain ⟨Al', lenl, capl, rfl⟩ := okWide_slice Try.underlying22 (hval 0 22 v0 rfl rfl)
  obtain ⟨nl, hnl⟩ := h0
  obtain ⟨Al, cl, l, hvl, hlcl, hcl, hBl, hIl, hdl⟩ := open_isd (fun x hx => hlt x (by simp [hx])) hnl
  obtain ⟨e, rfl, rfl, rfl, wfe⟩ := open_int Try.underlying3 (hval 1 3 v1 rfl rfl) h1
  have hbe := bounds_i64 wfe
  obtain ⟨Af', lenf, capf, rfl⟩ := okWide_slice Try.underlying64 (hval 2 64 v2 rfl rfl)
  obtain ⟨nf, hnf⟩ := h2
  obtain ⟨Af, cf, f, hvf, hlcf, hcf, hBf, hIf⟩ := open_flips_bd (fun x hx => hlt x (by simp [hx])) hnf
  have hm : l.length * 8 ≤ 140737488355328 := by
    rcases hdl with rfl | ⟨el, sp, e, hle⟩
    · simp
    · obtain rfl : d0 = .slice el sp := e
      have := sized_slice hsz (j := 0) (t := 22) (e := 3) (elems := el) (spare := sp) rfl rfl Try.underlying22
      rw [show Try.prog.bytesOf 3 = 8 by kernel_rfl] at this
      unfold reachBytes at this
      omega
  rw [hvl, hvf] at hW' ⊢
  refine (keepLoop Al Af cl cf l e f W hm hIl hBl hbe hBf (by unfold maxLen at hcf; omega) hIf).mono fun e W' ⟨he, hb⟩ => ?_
  subst he
  exact ⟨_, rfl, law_post (by decide +kernel) rfl rfl hW' rfl hb⟩
set_option maxRecDepth 100000 in
theorem keepL_closed : joinedFacts Try.prog 8 Try.f8 Rows.memoryScrubbedInTimeKeepsAllSpec Rows.memoryScrubbedInTimeKeepsAllRow = true :=
  closed_all (by as_aux_lemma => kernel_rfl) (by as_aux_lemma => kernel_rfl) (by as_aux_lemma => kernel_rfl) (by as_aux_lemma => kernel_rfl) (by as_aux_lemma => kernel_rfl) (by as_aux_lemma => kernel_rfl) (by as_aux_lemma => kernel_rfl) (by as_aux_lemma => kernel_rfl) (by as_aux_lemma => kernel_rfl) (by as_aux_lemma => kernel_rfl) (by as_aux_lemma => kernel_rfl) (by as_aux_lemma => kernel_rfl) (by as_aux_lemma => kernel_rfl) (by as_aux_lemma => kernel_rfl) (by as_aux_lemma => kernel_rfl) (by as_aux_lemma => kernel_rfl) (by as_aux_lemma => kernel_rfl) (by as_aux_lemma => kernel_rfl) pKeys (by as_aux_lemma => kernel_rfl) pLifts pMake (by as_aux_lemma => kernel_rfl) (by as_aux_lemma => kernel_rfl) (by as_aux_lemma => kernel_rfl) (by as_aux_lemma => kernel_rfl)

theorem keepL_holds : Rows.MemoryScrubbedInTimeKeepsAllSaid :=
  OpenClaim.holds_of_wide 8 Try.f8 rfl rfl rfl rfl rfl rfl rfl ⟨rfl, rfl, rfl, rfl, rfl⟩ rfl rfl rfl rfl rfl (by kernel_rfl) Try.func8 keepL_closed
    (of_decide_eq_true (by kernel_rfl)) (by unfold Func.isWrapper; first | (rw [if_pos (by decide +kernel)]; kernel_rfl) | (rw [if_neg (by decide +kernel)]; exact ⟨rfl, rfl⟩))
    (fun os started H enc _ => keepL_lifted os started H enc)
#print axioms keepL_holds
end Go.Proofs.Yteelepjhlhifhaa
