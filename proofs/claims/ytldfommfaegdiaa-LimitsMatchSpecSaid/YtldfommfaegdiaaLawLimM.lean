/- CheckLimits, CheckSamples and StateOf answer as the reference does, with all errors: the law LimitsMatchSpec answers true for every input. No condition. -/
import Derived.Test.YtldfommfaegdiaaRSta
import Derived.Test.YtldfommfaegdiaaLimAwk
import Derived.Test.YtldfommfaegdiaaLimOpen
import Derived.Test.YtldfommfaegdiaaClosed
namespace Go.Proofs.Ytldfommfaegdiaa
open Go.ChangeShapes Go.WideShapes Go.ChangeAt Go.RowKit

set_option maxRecDepth 100000 in
set_option maxHeartbeats 4000000 in
theorem lawLimM_any (A A2 : Option Addr) (c c2 : Nat) (l : List Lim) (s : List Sam) (x : Lim) (v : Int) (w : World) (hl : l.length ≤ 9223372036854775807) (hl2 : s.length ≤ 9223372036854775807) (hf : ∀ a ∈ l, a.fits) (hf2 : ∀ a ∈ s, a.fits) (hx : x.fits) (h : SR Lim.cells w w.heap.size A l) (h2 : SR Sam.cells w w.heap.size A2 s) :
    Calls Try.prog 3 #[.slice A l.length c, .slice A2 s.length c2, limV x.p x.ll x.lo x.hi x.hh x.ct x.cl x.bk, .int .i64 v] w fun e w' => e = .returned (.bool true) ∧ Below w.heap.size w w' := by
  have H1 := Lib.hid (p_StateOf_any x v hx.1)
  have H2 := Lib.hid (r_StateOf_any x v hx.1)
  have H3 := Lib.hid (fun (w' : World) (hb : Below w.heap.size w w') => p_CheckLimits_any A l c w.heap.size w' hb.size hl (fun a ha => (hf a ha).1) (h.below hb))
  have H4 := Lib.hid (fun (w' : World) (hb : Below w.heap.size w w') => r_CheckLimits_any A l c w.heap.size w' hb.size hl (fun a ha => (hf a ha).1) (h.below hb))
  have H5 := Lib.hid (fun (w' : World) (hb : Below w.heap.size w w') => p_CheckSamples_any A2 s c2 w.heap.size w' hb.size hl2 (fun a ha => (hf2 a ha).1) (h2.below hb))
  have H6 := Lib.hid (fun (w' : World) (hb : Below w.heap.size w w') => r_CheckSamples_any A2 s c2 w.heap.size w' hb.size hl2 (fun a ha => (hf2 a ha).1) (h2.below hb))
  have H7 := Lib.hid awake_any
  generalize sofR x v = r at *
  generalize sofF x v = f at *
  generalize limsF l = F1 at *
  generalize samsF s = F2 at *
  clear h h2 hf hf2 hx
  obtain ⟨p, ll, lo, hi, hh, ct, cl, bk⟩ := x
  unfold limV at H1 H2 ⊢
  simp only at H1 H2 ⊢
  obtain ⟨W, hW⟩ : ∃ W, W = w.alloc (.cells (limC p ll lo hi hh ct cl bk) 25) := ⟨_, rfl⟩
  have hbW : Below w.heap.size w W := by rw [hW]; exact (Below.refl _ _).alloc (Nat.le_refl _) _
  have hzW : w.heap.size < W.heap.size := by rw [hW]; simp
  have b0 : W.cell? ⟨w.heap.size, 0, none⟩ = some (.string p) := by rw [hW]; simp [limC]
  have b1 : W.cell? ⟨w.heap.size, 1, none⟩ = some (.int .i64 ll) := by rw [hW]; simp [limC]
  have b2 : W.cell? ⟨w.heap.size, 2, none⟩ = some (.int .i64 lo) := by rw [hW]; simp [limC]
  have b3 : W.cell? ⟨w.heap.size, 3, none⟩ = some (.int .i64 hi) := by rw [hW]; simp [limC]
  have b4 : W.cell? ⟨w.heap.size, 4, none⟩ = some (.int .i64 hh) := by rw [hW]; simp [limC]
  have b5 : W.cell? ⟨w.heap.size, 5, none⟩ = some (.int .i64 ct) := by rw [hW]; simp [limC]
  have b6 : W.cell? ⟨w.heap.size, 6, none⟩ = some (.int .i64 cl) := by rw [hW]; simp [limC]
  have b7 : W.cell? ⟨w.heap.size, 7, none⟩ = some (.int .i64 bk) := by rw [hW]; simp [limC]
  unfold limC at hW
  have HW := Lib.hid hW
  clear hW
  go_enter Try.func3, Try.ntmps3
  go_upto_region 1 with fail
  rw [← HW.out]
  go_wp2_with fail
  refine (H1.out _).mono ?_
  rintro e w2 ⟨rfl, hb2⟩
  have c0 := (Below.at_ hb2 w.heap.size hzW 0).trans b0
  have c1 := (Below.at_ hb2 w.heap.size hzW 1).trans b1
  have c2' := (Below.at_ hb2 w.heap.size hzW 2).trans b2
  have c3 := (Below.at_ hb2 w.heap.size hzW 3).trans b3
  have c4 := (Below.at_ hb2 w.heap.size hzW 4).trans b4
  have c5 := (Below.at_ hb2 w.heap.size hzW 5).trans b5
  have c6 := (Below.at_ hb2 w.heap.size hzW 6).trans b6
  have c7 := (Below.at_ hb2 w.heap.size hzW 7).trans b7
  have g2 := hbW.trans (hb2.mono (by omega))
  clear b0 b1 b2 b3 b4 b5 b6 b7 hbW hzW hb2
  go_wp2_with fail
  refine (H2.out _).mono ?_
  rintro e w3 ⟨rfl, hb3⟩
  have g3 := g2.trans (hb3.mono g2.size)
  clear c0 c1 c2' c3 c4 c5 c6 c7 hb3 g2
  go_wp2_with fail
  refine (H3.out _ g3).mono ?_
  rintro e w4 ⟨rfl, hb4⟩
  have g4 := g3.trans (hb4.mono g3.size)
  clear hb4 g3
  go_wp2_with fail
  refine (H4.out _ g4).mono ?_
  rintro e w5 ⟨rfl, hb5⟩
  have g5 := g4.trans (hb5.mono g4.size)
  clear hb5 g4
  go_wp2_with fail
  refine (H5.out _ g5).mono ?_
  rintro e w6 ⟨rfl, hb6⟩
  have g6 := g5.trans (hb6.mono g5.size)
  clear hb6 g5
  go_wp2_with fail
  refine (H6.out _ g6).mono ?_
  rintro e w7 ⟨rfl, hb7⟩
  have g7 := g6.trans (hb7.mono g6.size)
  clear hb7 g6
  go_wp2_with fail
  refine (H7.out _).mono ?_
  rintro e w8 ⟨rfl, hb8⟩
  go_wp2_with fail
  go_ret
  exact ⟨rfl, g7.trans (hb8.mono g7.size)⟩

set_option maxHeartbeats 1600000 in
set_option maxRecDepth 100000 in
theorem limM_lifted (os : Os) (started : os.Started) (H : Type) (enc : TypeId × Value → H) :
    ReturnsInHanded {} Try.checked os 3 .any (Rows.limitsMatchSpecSpec.pre6 enc Try.prog Try.f3 Rows.limitsMatchSpecRow.domain false) (Rows.limitsMatchSpecSpec.post enc Try.prog Try.f3 false true false false) := by
  refine returnsInHanded_of_change (C := Try.checked) own started (by kernel_rfl) Try.func3
    (ChangeSpec.witness6 (enc := enc) (C := Try.checked) false ⟨#[], #[.slice none 0 0, .slice none 0 0, .agg #[.string ⟨#[]⟩, .int .i64 0, .int .i64 0, .int .i64 0, .int .i64 0, .int .i64 0, .int .i64 0, .int .i64 0], .int .i64 0], []⟩ 8 (by kernel_rfl) (by kernel_rfl) (by kernel_rfl) (by kernel_rfl)) ?_
  intro W base args ds gs before hval0 hW _ _
  have hval : ∀ (j : Nat) t v, Try.f3.params[j]? = some t → args[j]? = some v → Value.okWide Try.prog W .any base t v := hval0
  have hW' := hW
  have hlt := fun x hx => hW'.lt x hx
  obtain ⟨p, q, hA0, hV, rfl, _, _⟩ := hW
  have hA : DataW.TrodAll enc Try.prog W 0 (fun _ => true) true Try.f3.params.toList args.toList ds p := hA0
  rw [Try.params3] at hA hval
  obtain ⟨v0, v1, v2, v3, d0, d1, d2, d3, p0, p1, p2, p3, rfl, rfl, rfl, h0, h1, h2, h3⟩ := trodAll_four hA
  obtain ⟨rfl, rfl⟩ := trodVars_none hV
  obtain ⟨Al', lenl, capl, rfl⟩ := okWide_slice Try.underlying22 (hval 0 22 v0 rfl rfl)
  obtain ⟨nl, hnl⟩ := h0
  obtain ⟨Al, cl, l, hvl, hlcl, hcl, hBl, hIl, hdl⟩ := open_lims (fun x hx => hlt x (by simp [hx])) hnl
  obtain ⟨As', lens, caps, rfl⟩ := okWide_slice Try.underlying23 (hval 1 23 v1 rfl rfl)
  obtain ⟨ns, hns⟩ := h1
  obtain ⟨As, cs, s, hvs, hlcs, hcs, hBs, hIs, hds⟩ := open_sams (fun x hx => hlt x (by simp [hx])) hns
  obtain ⟨x, rfl, hIx⟩ := open_lim (hval 2 25 v2 rfl rfl) h2
  obtain ⟨n, rfl, rfl, rfl, wfn⟩ := open_int Try.underlying3 (hval 3 3 v3 rfl rfl) h3
  have hbn := bounds_i64 wfn
  rw [hvl] at hW' ⊢
  rw [hvs] at hW' ⊢
  refine (lawLimM_any Al As cl cs l s x n W (by unfold maxLen at hcl; omega) (by unfold maxLen at hcs; omega) hIl hIs hIx hBl hBs).mono fun e W' ⟨he, hb⟩ => ?_
  subst he
  exact ⟨_, rfl, law_post (by decide +kernel) rfl rfl hW' rfl hb⟩

set_option maxRecDepth 100000 in
theorem limM_closed : joinedFacts Try.prog 3 Try.f3 Rows.limitsMatchSpecSpec Rows.limitsMatchSpecRow = true :=
  closed_all (by as_aux_lemma => kernel_rfl) (by as_aux_lemma => kernel_rfl) (by as_aux_lemma => kernel_rfl) (by as_aux_lemma => kernel_rfl) (by as_aux_lemma => kernel_rfl) (by as_aux_lemma => kernel_rfl) (by as_aux_lemma => kernel_rfl) (by as_aux_lemma => kernel_rfl) (by as_aux_lemma => kernel_rfl) (by as_aux_lemma => kernel_rfl) (by as_aux_lemma => kernel_rfl) (by as_aux_lemma => kernel_rfl) (by as_aux_lemma => kernel_rfl) (by as_aux_lemma => kernel_rfl) (by as_aux_lemma => kernel_rfl) (by as_aux_lemma => kernel_rfl) (by as_aux_lemma => kernel_rfl) (by as_aux_lemma => kernel_rfl) pKeys (by as_aux_lemma => kernel_rfl) pLifts pMake (by as_aux_lemma => kernel_rfl) (by as_aux_lemma => kernel_rfl) (by as_aux_lemma => kernel_rfl) (by as_aux_lemma => kernel_rfl)

theorem limM_holds : Rows.LimitsMatchSpecSaid :=
  OpenClaim.holds_of_wide 3 Try.f3 rfl rfl rfl rfl rfl rfl rfl ⟨rfl, rfl, rfl, rfl, rfl⟩ rfl rfl rfl rfl rfl (by kernel_rfl) Try.func3 limM_closed
    (of_decide_eq_true (by kernel_rfl)) (by unfold Func.isWrapper; first | (rw [if_pos (by decide +kernel)]; kernel_rfl) | (rw [if_neg (by decide +kernel)]; exact ⟨rfl, rfl⟩))
    (fun os started H enc _ => limM_lifted os started H enc)
#print axioms limM_holds
end Go.Proofs.Ytldfommfaegdiaa
