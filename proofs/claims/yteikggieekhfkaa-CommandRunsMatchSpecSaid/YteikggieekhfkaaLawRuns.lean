/- Run answers as the reference does: the law CommandRunsMatchSpec answers true for every input. No condition. -/
import Derived.Test.YteikggieekhfkaaRRun
import Derived.Test.YteikggieekhfkaaSndOpen
import Derived.Test.YteikggieekhfkaaSame2
import Derived.Test.YteikggieekhfkaaAwk
import Derived.Test.YteikggieekhfkaaClosed
import Derived.Laws.StructEq
namespace Go.Proofs.Yteikggieekhfkaa
open Go.ChangeShapes Go.WideShapes Go.ChangeAt Go.RowKit

theorem run_ok : ∀ (l : List Bt) (x : LS), LOk x → (∀ y ∈ x.tk, y.length ≤ 200) → (runS x l).2 = 0 → LOk (runS x l).1 ∧ (∀ y ∈ (runS x l).1.tk, y.length ≤ 200) ∧ (runS x l).1.tk.length ≤ x.tk.length + l.length
  | [], x, h, hb, _ => ⟨h, hb, Nat.le_refl _⟩
  | t :: l, x, h, hb, h0 => by
    have e : runS x (t :: l) = if (beatS x t).2 ≠ 0 then beatS x t else runS (beatS x t).1 l := rfl
    rw [e] at h0 ⊢
    by_cases hf : (beatS x t).2 = 0
    · rw [if_neg (by simpa using hf)] at h0 ⊢
      obtain ⟨b1, b2⟩ := beat_tk (t := t) h hb
      obtain ⟨a, b, c⟩ := run_ok l (beatS x t).1 (beat_ok h hf) b1 h0
      exact ⟨a, b, by simp only [List.length_cons]; omega⟩
    · rw [if_pos (by simpa using hf)] at h0
      exact absurd h0 hf
/-- no more than so many bodies of so many bytes -/
structure RunSm (x : LS) : Prop where
  q : x.q.length ≤ 500
  qb : ∀ y ∈ x.q, y.length ≤ 200
  t : x.tk.length ≤ 2000
  tb : ∀ y ∈ x.tk, y.length ≤ 200
theorem zero_sm : RunSm zeroLS := ⟨by simp [zeroLS], by simp [zeroLS], by simp [zeroLS], by simp [zeroLS]⟩
theorem runR_sm (n v : Int) (L R T : Bool) (k f s : Int) (q : List (List UInt8)) (wd : Int) (st : Bool) (l : List Bt) : RunSm (runR ⟨⟨n, v, L, R, T, k⟩, f, s.toNat, q, wd, st, []⟩ (runC n v k f s q wd l) l).1 := by
  have hok := @runC_ok n v k f s q wd l
  generalize runC n v k f s q wd l = C at *
  unfold runR
  by_cases hC : C ≠ 0
  · rw [if_pos hC]; exact zero_sm
  · rw [if_neg hC]
    obtain ⟨hb, hg, hl, -⟩ := hok (by omega)
    by_cases hF : (runS ⟨⟨n, v, L, R, T, k⟩, f, s.toNat, q, wd, st, []⟩ l).2 = 0
    · rw [if_neg (by simpa using hF)]
      have hs : ((s.toNat : Nat) : Int) = s := Int.toNat_of_nonneg hg.s0
      obtain ⟨a, b, c⟩ := run_ok l ⟨⟨n, v, L, R, T, k⟩, f, s.toNat, q, wd, st, []⟩ ⟨hb, by simp only; rw [hs]; exact hg⟩ (by simp) hF
      refine ⟨a.g.few, fun y hy => ?_, by simp at c; omega, b⟩
      have := a.g.bod y hy
      unfold bodS at this
      split at this
      · simp at this
      · split at this
        · simp at this
        · omega
    · rw [if_pos hF]; exact zero_sm
set_option maxRecDepth 100000 in
set_option maxHeartbeats 4000000 in
theorem lawRuns_any (n v : Int) (L R T : Bool) (k f s : Int) (A : Option Addr) (q : List (List UInt8)) (c : Nat) (wd : Int) (st : Bool) (Al : Option Addr) (l : List Bt) (cl : Nat) (w : World) (hl : q.length ≤ 9223372036854775807) (hc : q.length ≤ c) (hA : A = none → c = 0) (h : QR w w.heap.size A q) (hs : SR Bt.cells w w.heap.size Al l) :
    Calls Try.prog 5 #[uplV n v L R T k, grdV f s (.slice A q.length c) wd st, .slice Al l.length cl] w fun e w' => e = .returned (.bool true) ∧ Below w.heap.size w w' := by
  obtain ⟨w0, hw0⟩ : ∃ w0, (w.alloc (.cells (uplC n v L R T k) 23)).alloc (.cells (grdC f s (.slice A q.length c) wd st) 41) = w0 := ⟨_, rfl⟩
  have b0 : Below w.heap.size w w0 := by rw [← hw0]; exact two_new w _ _
  have g0 : Blk w0 w.heap.size (uplC n v L R T k) 23 := by rw [← hw0]; exact (Blk.new w _ _).alloc _
  have g1 : Blk w0 (w.heap.size + 1) (grdC f s (.slice A q.length c) wd st) 41 := by rw [← hw0]; exact Blk.snd w _ _ _
  have HP := Lib.hid (run_any n v L R T k f s A q c wd st Al l cl w.heap.size w0 b0.size hl hc hA (h.below b0) (hs.below b0))
  have HR := Lib.hid (fun (w1 : World) (hb : Below w0.heap.size w0 w1) => rrun_any n v L R T k f s A q c wd st Al l cl w.heap.size w1 (Nat.le_trans b0.size hb.size) hl hc hA (QC.of (h.below (b0.trans (hb.mono b0.size))) (Nat.le_trans b0.size hb.size)) ((hs.below (b0.trans (hb.mono b0.size))).lift (Nat.le_trans b0.size hb.size)))
  have hsm := runR_sm n v L R T k f s q wd st l
  generalize runR ⟨⟨n, v, L, R, T, k⟩, f, s.toNat, q, wd, st, []⟩ (runC n v k f s q wd l) l = X at *
  obtain ⟨⟨⟨xn, xv, xL, xR, xT, xk⟩, xf, xs, xq, xw, xt, xtk⟩, F⟩ := X
  obtain ⟨m1, m2, m3, m4⟩ := hsm
  simp only at m1 m2 m3 m4 HP HR
  have hF : (F == F) = true := by simp
  unfold uplV grdV at HP HR ⊢
  unfold uplC grdC at hw0
  obtain ⟨p0, p1, p2, p3, p4, p5⟩ := blk_u g0
  obtain ⟨q0, q1, q2, q3, q4⟩ := blk_g g1
  have M2 := Lib.hid (fun y hy => by have := m2 y hy; omega : ∀ y ∈ xq, y.length ≤ 9223372036854775807)
  have M4 := Lib.hid (fun y hy => by have := m4 y hy; omega : ∀ y ∈ xtk, y.length ≤ 9223372036854775807)
  clear h hs m2 m4
  go_enter Try.func5, Try.ntmps5
  go_wp2_with fail
  refine HP.out.mono ?_
  rintro e w1 ⟨A1, c1, A2, c2, he, y1, y2, hb1⟩
  unfold Upl.val uplV grdV at he
  simp only at he y1 y2
  subst he
  clear hw0 p0 p1 p2 p3 p4 p5 q0 q1 q2 q3 q4 HP
  have g0 := g0.below hb1 g0.lt
  have g1 := g1.below hb1 g1.lt
  have B1 := b0.trans (hb1.mono b0.size)
  obtain ⟨wa, hwa⟩ : ∃ wa, (w1.alloc (.cells (uplC xn xv xL xR xT xk) 23)).alloc (.cells (grdC xf (xs : Int) (.slice A1 xq.length c1) xw xt) 41) = wa := ⟨_, rfl⟩
  have ba : Below w1.heap.size w1 wa := by rw [← hwa]; exact two_new w1 _ _
  have g7 : Blk wa w1.heap.size (uplC xn xv xL xR xT xk) 23 := by rw [← hwa]; exact (Blk.new w1 _ _).alloc _
  have g8 : Blk wa (w1.heap.size + 1) (grdC xf (xs : Int) (.slice A1 xq.length c1) xw xt) 41 := by rw [← hwa]; exact Blk.snd w1 _ _ _
  have g0 := g0.below ba g0.lt
  have g1 := g1.below ba g1.lt
  have Ba := B1.trans (ba.mono B1.size)
  have y1 := (y1.below ba).lift ba.size
  have y2 := (y2.below ba).lift ba.size
  have hba := hb1.trans (ba.mono hb1.size)
  unfold uplC grdC at hwa
  obtain ⟨p0, p1, p2, p3, p4, p5⟩ := blk_u g0
  obtain ⟨q0, q1, q2, q3, q4⟩ := blk_g g1
  have HWA := Lib.hid hwa
  have HBA := Lib.hid hba
  clear hwa hb1 ba B1 hba
  go_upto_region 2 with fail
  rw [HWA.out]
  go_wp2_with fail
  refine (HR.out _ HBA.out).mono ?_
  rintro e w2 ⟨A3, c3, A4, c4, he, y3, -, -, -, y4, hb2⟩
  unfold Upl.val uplV grdV at he
  simp only at he y3 y4
  subst he
  clear p0 p1 p2 p3 p4 p5 q0 q1 q2 q3 q4 HR HWA HBA g0 g1
  have g7 := g7.below hb2 g7.lt
  have g8 := g8.below hb2 g8.lt
  have B2 := Ba.trans (hb2.mono Ba.size)
  have y1 := (y1.below hb2).lift hb2.size
  have y2 := (y2.below hb2).lift hb2.size
  have y3 := QC.qr y3 (Below.refl _ _) B2.size
  obtain ⟨wb, hwb⟩ : ∃ wb, (w2.alloc (.cells (uplC xn xv xL xR xT xk) 23)).alloc (.cells (grdC xf (xs : Int) (.slice A3 xq.length c3) xw xt) 41) = wb := ⟨_, rfl⟩
  have bb : Below w2.heap.size w2 wb := by rw [← hwb]; exact two_new w2 _ _
  have g11 : Blk wb w2.heap.size (uplC xn xv xL xR xT xk) 23 := by rw [← hwb]; exact (Blk.new w2 _ _).alloc _
  have g12 : Blk wb (w2.heap.size + 1) (grdC xf (xs : Int) (.slice A3 xq.length c3) xw xt) 41 := by rw [← hwb]; exact Blk.snd w2 _ _ _
  have g7 := g7.below bb g7.lt
  have g8 := g8.below bb g8.lt
  have Bb := B2.trans (bb.mono B2.size)
  have y1 := (y1.below bb).lift bb.size
  have y2 := (y2.below bb).lift bb.size
  have y3 := (y3.below bb).lift bb.size
  have y4 := (y4.below bb).lift bb.size
  unfold uplC grdC at hwb
  have HWB := Lib.hid hwb
  have HSG := Lib.hid (fun (w1 : World) (hb : Below wb.heap.size wb w1) => (sameGround_yes xf (xs : Int) A1 A3 xq c1 c3 xw xt wb.heap.size w1 hb.size (by omega) M2.out (y1.below hb) (y3.below hb)).mono fun e w' ⟨he, h2⟩ => (⟨he, hb.trans (h2.mono hb.size)⟩ : e = Ending.returned (.bool true) ∧ Below wb.heap.size wb w'))
  have HSB := Lib.hid (fun (w1 : World) (hb : Below wb.heap.size wb w1) => (sameBodies_yes A2 A4 xtk c2 c4 wb.heap.size w1 hb.size (by omega) M4.out (y2.below hb) (y4.below hb)).mono fun e w' ⟨he, h2⟩ => (⟨he, hb.trans (h2.mono hb.size)⟩ : e = Ending.returned (.bool true) ∧ Below wb.heap.size wb w'))
  clear hwb hb2 bb B2 Ba y1 y2 y3 y4
  obtain ⟨p0, p1, p2, p3, p4, p5⟩ := blk_u g7
  obtain ⟨q0, q1, q2, q3, q4⟩ := blk_g g8
  obtain ⟨a0, a1, a2, a3, a4, a5⟩ := blk_u g11
  obtain ⟨b0, b1, b2, b3, b4⟩ := blk_g g12
  unfold grdV at HSG
  go_upto_region 3 with fail
  rw [HWB.out]
  go_wp2_with fail
  refine (HSG.out _ (Below.refl _ _)).mono ?_
  rintro e w3 ⟨rfl, hb3⟩
  clear p0 p1 p2 p3 p4 p5 q0 q1 q2 q3 q4 a0 a1 a2 a3 a4 a5 b0 b1 b2 b3 b4 HWB HSG
  go_wp2_with fail
  refine (HSB.out _ hb3).mono ?_
  rintro e w4 ⟨rfl, hb4⟩
  have B4 := Bb.trans (hb4.mono Bb.size)
  clear hb3 hb4 HSB Bb
  go_wp2_with (first | (go_at_call 21; refine (awake_any _).mono ?_; rintro e w7 ⟨rfl, hb7⟩) | fail)
  go_ret
  exact ⟨rfl, B4.trans (hb7.mono B4.size)⟩

set_option maxHeartbeats 1600000 in
set_option maxRecDepth 100000 in
theorem runs_lifted (os : Os) (started : os.Started) (H : Type) (enc : TypeId × Value → H) :
    ReturnsInHanded {} Try.checked os 5 .any (Rows.commandRunsMatchSpecSpec.pre6 enc Try.prog Try.f5 Rows.commandRunsMatchSpecRow.domain false) (Rows.commandRunsMatchSpecSpec.post enc Try.prog Try.f5 false true false false) := by
  refine returnsInHanded_of_change (C := Try.checked) own started (by kernel_rfl) Try.func5
    (ChangeSpec.witness6 (enc := enc) (C := Try.checked) false ⟨#[], #[.agg #[.int .i64 0, .int .i64 0, .bool false, .bool false, .bool false, .int .i64 0], .agg #[.int .i64 0, .int .i64 0, .slice none 0 0, .int .i64 0, .bool false], .slice none 0 0], []⟩ 8 (by kernel_rfl) (by kernel_rfl) (by kernel_rfl) (by kernel_rfl)) ?_
  intro W base args ds gs before hval0 hW _ _
  have hval : ∀ (j : Nat) t v, Try.f5.params[j]? = some t → args[j]? = some v → Value.okWide Try.prog W .any base t v := hval0
  have hW' := hW
  have hlt := fun x hx => hW'.lt x hx
  obtain ⟨p, q, hA0, hV, rfl, _, _⟩ := hW
  have hA : DataW.TrodAll enc Try.prog W 0 (fun _ => true) true Try.f5.params.toList args.toList ds p := hA0
  rw [Try.params5] at hA hval
  obtain ⟨v0, v1, v2, d0, d1, d2, p0, p1, p2, rfl, rfl, rfl, h0, h1, h2⟩ := trodAll_three hA
  obtain ⟨rfl, rfl⟩ := trodVars_none hV
  obtain ⟨nb, qb, Lb, Rb, Tb, kb, rfl, hnb, hqb, hkb⟩ := open_upl (hval 0 23 v0 rfl rfl) h0
  obtain ⟨fg, sg, Ag, qg, cg, wdg, stg, rfl, hfg, hsg, hwg, hlcg, hcg, hng, hBg⟩ := open_snd (fun x hx => hlt x (by simp [hx])) (hval 1 41 v1 rfl rfl) h1
  obtain ⟨Al', lenl, capl, rfl⟩ := okWide_slice Try.underlying42 (hval 2 42 v2 rfl rfl)
  obtain ⟨nl, hnl⟩ := h2
  obtain ⟨Al, cl, l, hvl, hlcl, hcl, hBl, hIl, hdl⟩ := open_bts (fun x hx => hlt x (by simp [hx])) hnl
  rw [hvl] at hW' ⊢
  refine (lawRuns_any nb qb Lb Rb Tb kb fg sg Ag qg cg wdg stg Al l cl W (by have := hlcg; have := hcg; unfold maxLen at *; omega) hlcg hng hBg hBl).mono fun e W' ⟨he, hb⟩ => ?_
  subst he
  exact ⟨_, rfl, law_post (by decide +kernel) rfl rfl hW' rfl hb⟩

set_option maxRecDepth 100000 in
theorem runs_closed : joinedFacts Try.prog 5 Try.f5 Rows.commandRunsMatchSpecSpec Rows.commandRunsMatchSpecRow = true :=
  closed_all (by as_aux_lemma => kernel_rfl) (by as_aux_lemma => kernel_rfl) (by as_aux_lemma => kernel_rfl) (by as_aux_lemma => kernel_rfl) (by as_aux_lemma => kernel_rfl) (by as_aux_lemma => kernel_rfl) (by as_aux_lemma => kernel_rfl) (by as_aux_lemma => kernel_rfl) (by as_aux_lemma => kernel_rfl) (by as_aux_lemma => kernel_rfl) (by as_aux_lemma => kernel_rfl) (by as_aux_lemma => kernel_rfl) (by as_aux_lemma => kernel_rfl) (by as_aux_lemma => kernel_rfl) (by as_aux_lemma => kernel_rfl) (by as_aux_lemma => kernel_rfl) (by as_aux_lemma => kernel_rfl) (by as_aux_lemma => kernel_rfl) pKeys (by as_aux_lemma => kernel_rfl) pLifts pMake (by as_aux_lemma => kernel_rfl) (by as_aux_lemma => kernel_rfl) (by as_aux_lemma => kernel_rfl) (by as_aux_lemma => kernel_rfl)

theorem runs_holds : Rows.CommandRunsMatchSpecSaid :=
  OpenClaim.holds_of_wide 5 Try.f5 rfl rfl rfl rfl rfl rfl rfl ⟨rfl, rfl, rfl, rfl, rfl⟩ rfl rfl rfl rfl rfl (by kernel_rfl) Try.func5 runs_closed
    (of_decide_eq_true (by kernel_rfl)) (by unfold Func.isWrapper; first | (rw [if_pos (by decide +kernel)]; kernel_rfl) | (rw [if_neg (by decide +kernel)]; exact ⟨rfl, rfl⟩))
    (fun os started H enc _ => runs_lifted os started H enc)
#print axioms runs_holds
end Go.Proofs.Yteikggieekhfkaa
