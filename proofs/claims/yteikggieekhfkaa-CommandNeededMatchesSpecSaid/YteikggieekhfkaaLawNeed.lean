/- Needed answers as the reference does: the law CommandNeededMatchesSpec answers true for every input. No condition. -/
import Derived.Test.YteikggieekhfkaaRNeed
import Derived.Test.YteikggieekhfkaaSndOpen
import Derived.Test.YteikggieekhfkaaAwk
import Derived.Test.YteikggieekhfkaaClosed
namespace Go.Proofs.Yteikggieekhfkaa
open Go.ChangeShapes Go.WideShapes Go.ChangeAt Go.RowKit

set_option maxRecDepth 100000 in
set_option maxHeartbeats 2000000 in
theorem lawNeed_any (n v : Int) (L R T : Bool) (k f s : Int) (A : Option Addr) (q : List (List UInt8)) (c : Nat) (wd : Int) (st : Bool) (most : Int) (w : World) (hl : q.length ≤ 9223372036854775807) (hc : q.length ≤ c) (hA : A = none → c = 0) (h : QR w w.heap.size A q) :
    Calls Try.prog 8 #[uplV n v L R T k, grdV f s (.slice A q.length c) wd st, .int .i64 most] w fun e w' => e = .returned (.bool true) ∧ Below w.heap.size w w' := by
  obtain ⟨w0, hw0⟩ : ∃ w0, (w.alloc (.cells (uplC n v L R T k) 23)).alloc (.cells (grdC f s (.slice A q.length c) wd st) 41) = w0 := ⟨_, rfl⟩
  have b0 : Below w.heap.size w w0 := by rw [← hw0]; exact two_new w _ _
  have g0 : Blk w0 w.heap.size (uplC n v L R T k) 23 := by rw [← hw0]; exact (Blk.new w _ _).alloc _
  have g1 : Blk w0 (w.heap.size + 1) (grdC f s (.slice A q.length c) wd st) 41 := by rw [← hw0]; exact Blk.snd w _ _ _
  have HN := Lib.hid (needed_any n v L R T k f s A q c wd st most w.heap.size w0 b0.size hl hc hA (h.below b0))
  have HR := Lib.hid (fun (w1 : World) (hb : Below w0.heap.size w0 w1) => rneeded_any n v L R T k f s A q c wd st most w.heap.size w1 (Nat.le_trans b0.size hb.size) hl hc hA (h.below (b0.trans (hb.mono b0.size))))
  generalize needR (bothS n v k f s q wd) most ⟨⟨n, v, L, R, T, k⟩, f, s.toNat, q, wd, st, []⟩ = X at *
  obtain ⟨x1, x2, x3⟩ := X
  unfold triV uplV grdV at *
  unfold uplC grdC at hw0
  simp only at HN HR
  have e1 : (x1 == x1) = true := by simp
  have e2 : (x2 == x2) = true := by simp
  have e3 : (x3 == x3) = true := by simp
  obtain ⟨p0, p1, p2, p3, p4, p5⟩ := blk_u g0
  obtain ⟨q0, q1, q2, q3, q4⟩ := blk_g g1
  clear h
  go_enter Try.func8, Try.ntmps8
  go_wp2_with fail
  refine HN.out.mono ?_
  rintro e w1 ⟨rfl, hb1⟩
  clear hw0 p0 p1 p2 p3 p4 p5 q0 q1 q2 q3 q4 HN
  have g0 := g0.below hb1 g0.lt
  have g1 := g1.below hb1 g1.lt
  have B1 := b0.trans (hb1.mono b0.size)
  obtain ⟨p0, p1, p2, p3, p4, p5⟩ := blk_u g0
  obtain ⟨q0, q1, q2, q3, q4⟩ := blk_g g1
  go_wp2_with fail
  refine (HR.out _ hb1).mono ?_
  rintro e w2 ⟨rfl, hb2⟩
  have B2 := B1.trans (hb2.mono B1.size)
  clear p0 p1 p2 p3 p4 p5 q0 q1 q2 q3 q4 HR hb1 hb2
  go_wp2_with (first | (go_at_call 21; refine (awake_any _).mono ?_; rintro e w7 ⟨rfl, hb7⟩) | fail)
  go_ret
  exact ⟨rfl, B2.trans (hb7.mono B2.size)⟩

set_option maxHeartbeats 1600000 in
set_option maxRecDepth 100000 in
theorem need_lifted (os : Os) (started : os.Started) (H : Type) (enc : TypeId × Value → H) :
    ReturnsInHanded {} Try.checked os 8 .any (Rows.commandNeededMatchesSpecSpec.pre6 enc Try.prog Try.f8 Rows.commandNeededMatchesSpecRow.domain false) (Rows.commandNeededMatchesSpecSpec.post enc Try.prog Try.f8 false true false false) := by
  refine returnsInHanded_of_change (C := Try.checked) own started (by kernel_rfl) Try.func8
    (ChangeSpec.witness6 (enc := enc) (C := Try.checked) false ⟨#[], #[.agg #[.int .i64 0, .int .i64 0, .bool false, .bool false, .bool false, .int .i64 0], .agg #[.int .i64 0, .int .i64 0, .slice none 0 0, .int .i64 0, .bool false], .int .i64 0], []⟩ 8 (by kernel_rfl) (by kernel_rfl) (by kernel_rfl) (by kernel_rfl)) ?_
  intro W base args ds gs before hval0 hW _ _
  have hval : ∀ (j : Nat) t v, Try.f8.params[j]? = some t → args[j]? = some v → Value.okWide Try.prog W .any base t v := hval0
  have hW' := hW
  have hlt := fun x hx => hW'.lt x hx
  obtain ⟨p, q, hA0, hV, rfl, _, _⟩ := hW
  have hA : DataW.TrodAll enc Try.prog W 0 (fun _ => true) true Try.f8.params.toList args.toList ds p := hA0
  rw [Try.params8] at hA hval
  obtain ⟨v0, v1, v2, d0, d1, d2, p0, p1, p2, rfl, rfl, rfl, h0, h1, h2⟩ := trodAll_three hA
  obtain ⟨rfl, rfl⟩ := trodVars_none hV
  obtain ⟨nb, qb, Lb, Rb, Tb, kb, rfl, hnb, hqb, hkb⟩ := open_upl (hval 0 23 v0 rfl rfl) h0
  obtain ⟨fg, sg, Ag, qg, cg, wdg, stg, rfl, hfg, hsg, hwg, hlcg, hcg, hng, hBg⟩ := open_snd (fun x hx => hlt x (by simp [hx])) (hval 1 41 v1 rfl rfl) h1
  obtain ⟨m, rfl, rfl, rfl, wfm⟩ := open_int Try.underlying3 (hval 2 3 v2 rfl rfl) h2
  have hbm := bounds_i64 wfm
  refine (lawNeed_any nb qb Lb Rb Tb kb fg sg Ag qg cg wdg stg m W (by have := hlcg; have := hcg; unfold maxLen at *; omega) hlcg hng hBg).mono fun e W' ⟨he, hb⟩ => ?_
  subst he
  exact ⟨_, rfl, law_post (by decide +kernel) rfl rfl hW' rfl hb⟩

set_option maxRecDepth 100000 in
theorem need_closed : joinedFacts Try.prog 8 Try.f8 Rows.commandNeededMatchesSpecSpec Rows.commandNeededMatchesSpecRow = true :=
  closed_all (by as_aux_lemma => kernel_rfl) (by as_aux_lemma => kernel_rfl) (by as_aux_lemma => kernel_rfl) (by as_aux_lemma => kernel_rfl) (by as_aux_lemma => kernel_rfl) (by as_aux_lemma => kernel_rfl) (by as_aux_lemma => kernel_rfl) (by as_aux_lemma => kernel_rfl) (by as_aux_lemma => kernel_rfl) (by as_aux_lemma => kernel_rfl) (by as_aux_lemma => kernel_rfl) (by as_aux_lemma => kernel_rfl) (by as_aux_lemma => kernel_rfl) (by as_aux_lemma => kernel_rfl) (by as_aux_lemma => kernel_rfl) (by as_aux_lemma => kernel_rfl) (by as_aux_lemma => kernel_rfl) (by as_aux_lemma => kernel_rfl) pKeys (by as_aux_lemma => kernel_rfl) pLifts pMake (by as_aux_lemma => kernel_rfl) (by as_aux_lemma => kernel_rfl) (by as_aux_lemma => kernel_rfl) (by as_aux_lemma => kernel_rfl)

theorem need_holds : Rows.CommandNeededMatchesSpecSaid :=
  OpenClaim.holds_of_wide 8 Try.f8 rfl rfl rfl rfl rfl rfl rfl ⟨rfl, rfl, rfl, rfl, rfl⟩ rfl rfl rfl rfl rfl (by kernel_rfl) Try.func8 need_closed
    (of_decide_eq_true (by kernel_rfl)) (by unfold Func.isWrapper; first | (rw [if_pos (by decide +kernel)]; kernel_rfl) | (rw [if_neg (by decide +kernel)]; exact ⟨rfl, rfl⟩))
    (fun os started H enc _ => need_lifted os started H enc)
#print axioms need_holds
end Go.Proofs.Yteikggieekhfkaa
