/- CheckBoard, Take and Report answer as the reference does: the law CommandTakesMatchSpec answers true for every input. No condition. -/
import Derived.Test.YteikggieekhfkaaAwk
import Derived.Test.YteikggieekhfkaaCloseC
import Derived.Test.YteikggieekhfkaaClosed
import Derived.Laws.StructEq
import Derived.Deep.RegionHeld3
namespace Go.Proofs.Yteikggieekhfkaa
open Go.ChangeShapes Go.WideShapes Go.ChangeAt Go.RowKit

set_option maxRecDepth 100000 in
set_option maxHeartbeats 2000000 in
theorem lawTake_any (n v : Int) (L R T : Bool) (k c m : Int) (A : Option Addr) (z z' : Nat) (w : World) :
    Calls Try.prog 3 #[uplV n v L R T k, ordV c m A z z'] w fun e w' => e = .returned (.bool true) ∧ Below w.heap.size w w' := by
  have HT1 := Lib.hid (p_Take_any n v L R T k c m A z z')
  have HT2 := Lib.hid (r_Take_any n v L R T k c m A z z')
  have HB1 := Lib.hid (p_checkBoard_any n v L R T k)
  have HB2 := Lib.hid (r_checkBoard_any n v L R T k)
  have HR1 := Lib.hid (p_Report_any n v L R T k)
  have HR2 := Lib.hid (r_Report_any n v L R T k)
  generalize takeS ⟨n, v, L, R, T, k⟩ c m z = X at *
  obtain ⟨⟨n', v', L', R', T', k'⟩, u, g⟩ := X
  unfold Upl.val at HT1 HT2
  unfold uplV ordV at *
  simp only at HT1 HT2
  obtain ⟨P, hP⟩ : ∃ P, P = (if brdS n v k = 0 then ackV n L R T else ackV 0 false false false) := ⟨_, rfl⟩
  obtain ⟨n2, L2, R2, T2, hP2⟩ : ∃ n2 L2 R2 T2, P = ackV n2 L2 R2 T2 := by
    rw [hP]; split
    · exact ⟨_, _, _, _, rfl⟩
    · exact ⟨_, _, _, _, rfl⟩
  rw [← hP, hP2] at HR1 HR2
  clear hP hP2
  generalize brdS n v k = F at *
  unfold ackV at HR1 HR2
  go_enter Try.func3, Try.ntmps3
  go_wp2_with fail
  refine (HT1.out _).mono ?_
  rintro e w1 ⟨rfl, hb1⟩
  have g0 : Blk w1 w.heap.size (uplC n v L R T k) 23 := (((Blk.new w _ _).alloc _).below hb1 (by simp; omega))
  have g1 : Blk w1 (w.heap.size + 1) (ordC c m A z z') 26 := ((Blk.snd w _ _ _).below hb1 (by simp))
  have s1 : w.heap.size + 2 ≤ w1.heap.size := by have := hb1.size; simp at this; omega
  have B1 := (two_new w _ _).trans (hb1.mono (by simp; omega))
  clear hb1 HT1
  generalize hwa : w1.alloc (.cells (uplC n' v' L' R' T' k') 23) = wa
  have g0 : Blk wa w.heap.size (uplC n v L R T k) 23 := by rw [← hwa]; exact g0.alloc _
  have g1 : Blk wa (w.heap.size + 1) (ordC c m A z z') 26 := by rw [← hwa]; exact g1.alloc _
  have g3 : Blk wa w1.heap.size (uplC n' v' L' R' T' k') 23 := by rw [← hwa]; exact Blk.new w1 _ _
  have sa : w1.heap.size + 1 = wa.heap.size := by rw [← hwa]; simp
  have Ba : Below w.heap.size w wa := by rw [← hwa]; exact B1.alloc B1.size _
  unfold uplC at hwa
  obtain ⟨p0, p1, p2⟩ := blk_o g1
  obtain ⟨q0, q1, q2, q3, q4, q5⟩ := blk_u g0
  clear B1
  go_wp2_with fail
  refine (HT2.out _).mono ?_
  rintro e w2 ⟨rfl, hb2⟩
  clear hwa p0 p1 p2 q0 q1 q2 q3 q4 q5 HT2
  have g0 := g0.below hb2 (by omega)
  have g3 := g3.below hb2 (by omega)
  have s2 : w1.heap.size + 1 ≤ w2.heap.size := by have := hb2.size; omega
  have B2 := Ba.trans (hb2.mono (by omega))
  clear hb2 g1
  generalize hwb : w2.alloc (.cells (uplC n' v' L' R' T' k') 23) = wb
  have g0 : Blk wb w.heap.size (uplC n v L R T k) 23 := by rw [← hwb]; exact g0.alloc _
  have g3 : Blk wb w1.heap.size (uplC n' v' L' R' T' k') 23 := by rw [← hwb]; exact g3.alloc _
  have g4 : Blk wb w2.heap.size (uplC n' v' L' R' T' k') 23 := by rw [← hwb]; exact Blk.new w2 _ _
  have sb : w2.heap.size + 1 = wb.heap.size := by rw [← hwb]; simp
  have Bb : Below w.heap.size w wb := by rw [← hwb]; exact B2.alloc B2.size _
  unfold uplC at hwb
  have HCB := Lib.hid (fun (w1 : World) (hb : Below wb.heap.size wb w1) => (HB1.out w1).mono fun e w' ⟨he, h2⟩ => (⟨he, hb.trans (h2.mono hb.size)⟩ : e = Ending.returned (.int .i64 F) ∧ Below wb.heap.size wb w'))
  have HCR := Lib.hid (fun (w1 : World) (hb : Below wb.heap.size wb w1) => (HB2.out w1).mono fun e w' ⟨he, h2⟩ => (⟨he, hb.trans (h2.mono hb.size)⟩ : e = Ending.returned (.int .i64 F) ∧ Below wb.heap.size wb w'))
  clear HB1 HB2
  have hS : ∀ w', Below wb.heap.size wb w' → ((w'.cell? ⟨w.heap.size, 0, none⟩ = some (.int .i64 n) ∧ w'.cell? ⟨w.heap.size, 1, none⟩ = some (.int .i64 v) ∧ w'.cell? ⟨w.heap.size, 2, none⟩ = some (.bool L) ∧ w'.cell? ⟨w.heap.size, 3, none⟩ = some (.bool R) ∧ w'.cell? ⟨w.heap.size, 4, none⟩ = some (.bool T) ∧ w'.cell? ⟨w.heap.size, 5, none⟩ = some (.int .i64 k)) ∧
      (w'.cell? ⟨w1.heap.size, 0, none⟩ = some (.int .i64 n') ∧ w'.cell? ⟨w1.heap.size, 1, none⟩ = some (.int .i64 v') ∧ w'.cell? ⟨w1.heap.size, 2, none⟩ = some (.bool L') ∧ w'.cell? ⟨w1.heap.size, 3, none⟩ = some (.bool R') ∧ w'.cell? ⟨w1.heap.size, 4, none⟩ = some (.bool T') ∧ w'.cell? ⟨w1.heap.size, 5, none⟩ = some (.int .i64 k')) ∧
      (w'.cell? ⟨w2.heap.size, 0, none⟩ = some (.int .i64 n') ∧ w'.cell? ⟨w2.heap.size, 1, none⟩ = some (.int .i64 v') ∧ w'.cell? ⟨w2.heap.size, 2, none⟩ = some (.bool L') ∧ w'.cell? ⟨w2.heap.size, 3, none⟩ = some (.bool R') ∧ w'.cell? ⟨w2.heap.size, 4, none⟩ = some (.bool T') ∧ w'.cell? ⟨w2.heap.size, 5, none⟩ = some (.int .i64 k'))) := fun w' hb =>
    ⟨blk_u (g0.below hb (by omega)), blk_u (g3.below hb (by omega)), blk_u (g4.below hb (by omega))⟩
  have HSS := Lib.hid hS
  clear hS
  have hbb : Below wb.heap.size wb wb := Below.refl _ _
  have hff : (F != F) = false := by simp
  have hgg : (g != g) = false := by simp
  have huu : (u != u) = false := by simp
  go_wp2_with fail
  clear hwb
  go_region_held3 (fun w' => ((w'.cell? ⟨w.heap.size, 0, none⟩ = some (.int .i64 n) ∧ w'.cell? ⟨w.heap.size, 1, none⟩ = some (.int .i64 v) ∧ w'.cell? ⟨w.heap.size, 2, none⟩ = some (.bool L) ∧ w'.cell? ⟨w.heap.size, 3, none⟩ = some (.bool R) ∧ w'.cell? ⟨w.heap.size, 4, none⟩ = some (.bool T) ∧ w'.cell? ⟨w.heap.size, 5, none⟩ = some (.int .i64 k)) ∧
      (w'.cell? ⟨w1.heap.size, 0, none⟩ = some (.int .i64 n') ∧ w'.cell? ⟨w1.heap.size, 1, none⟩ = some (.int .i64 v') ∧ w'.cell? ⟨w1.heap.size, 2, none⟩ = some (.bool L') ∧ w'.cell? ⟨w1.heap.size, 3, none⟩ = some (.bool R') ∧ w'.cell? ⟨w1.heap.size, 4, none⟩ = some (.bool T') ∧ w'.cell? ⟨w1.heap.size, 5, none⟩ = some (.int .i64 k')) ∧
      (w'.cell? ⟨w2.heap.size, 0, none⟩ = some (.int .i64 n') ∧ w'.cell? ⟨w2.heap.size, 1, none⟩ = some (.int .i64 v') ∧ w'.cell? ⟨w2.heap.size, 2, none⟩ = some (.bool L') ∧ w'.cell? ⟨w2.heap.size, 3, none⟩ = some (.bool R') ∧ w'.cell? ⟨w2.heap.size, 4, none⟩ = some (.bool T') ∧ w'.cell? ⟨w2.heap.size, 5, none⟩ = some (.int .i64 k'))))
    (first | with_reducible exact HSS.out _ hbb | with_reducible exact HSS.out _ hbb.drew | with_reducible exact HSS.out _ (by assumption) | with_reducible exact HSS.out _ (Below.drew (by assumption)))
    (first
     | (go_at_call 17
        with_reducible refine (HCB.out _ ?_).mono ?_
        · first | with_reducible exact hbb.drew | with_reducible exact hbb
        rintro e w3 ⟨rfl, hb3⟩)
     | (go_at_call 18
        with_reducible refine (HCR.out _ ?_).mono ?_
        · first | with_reducible exact hb3.drew | with_reducible exact hb3
        rintro e w4 ⟨rfl, hb4⟩))
  have g0 := g0.below hb4 (by omega)
  have s4 : wb.heap.size ≤ w4.heap.size := hb4.size
  have B4 := Bb.trans (hb4.mono Bb.size)
  clear hb3 hb4 HSS HCB HCR hbb g3 g4 hgg huu
  obtain ⟨q0, q1, q2, q3, q4, q5⟩ := blk_u g0
  go_wp2_with fail
  refine (HR1.out _).mono ?_
  rintro e w5 ⟨rfl, hb5⟩
  clear q0 q1 q2 q3 q4 q5 HR1
  have g0 := g0.below hb5 (by omega)
  have s5 := hb5.size
  have B5 := B4.trans (hb5.mono (by omega))
  clear hb5 B4
  generalize hwc : w5.alloc (.cells (ackC n2 L2 R2 T2) 32) = wc
  have g0 : Blk wc w.heap.size (uplC n v L R T k) 23 := by rw [← hwc]; exact g0.alloc _
  have g5 : Blk wc w5.heap.size (ackC n2 L2 R2 T2) 32 := by rw [← hwc]; exact Blk.new w5 _ _
  have sc : w5.heap.size + 1 = wc.heap.size := by rw [← hwc]; simp
  have Bc : Below w.heap.size w wc := by rw [← hwc]; exact B5.alloc B5.size _
  unfold ackC at hwc
  obtain ⟨q0, q1, q2, q3, q4, q5⟩ := blk_u g0
  clear B5
  go_wp2_with fail
  refine (HR2.out _).mono ?_
  rintro e w6 ⟨rfl, hb6⟩
  clear hwc q0 q1 q2 q3 q4 q5 HR2
  have g5 := g5.below hb6 (by omega)
  have s6 := hb6.size
  have B6 := Bc.trans (hb6.mono (by omega))
  have hlt : w5.heap.size < w6.heap.size := by omega
  clear hb6 g0
  obtain ⟨q0, q1, q2, q3⟩ := blk_a g5
  go_wp2_with (first | (go_at_call 21; refine (awake_any _).mono ?_; rintro e w7 ⟨rfl, hb7⟩) | fail)
  go_ret
  exact ⟨rfl, (B6.alloc B6.size _).trans (hb7.mono (by simp; omega))⟩

set_option maxHeartbeats 1600000 in
set_option maxRecDepth 100000 in
theorem takes_lifted (os : Os) (started : os.Started) (H : Type) (enc : TypeId × Value → H) :
    ReturnsInHanded {} Try.checked os 3 .any (Rows.commandTakesMatchSpecSpec.pre6 enc Try.prog Try.f3 Rows.commandTakesMatchSpecRow.domain false) (Rows.commandTakesMatchSpecSpec.post enc Try.prog Try.f3 false true false false) := by
  refine returnsInHanded_of_change (C := Try.checked) own started (by kernel_rfl) Try.func3
    (ChangeSpec.witness6 (enc := enc) (C := Try.checked) false ⟨#[], #[.agg #[.int .i64 0, .int .i64 0, .bool false, .bool false, .bool false, .int .i64 0], .agg #[.int .i64 0, .int .i64 0, .slice none 0 0]], []⟩ 8 (by kernel_rfl) (by kernel_rfl) (by kernel_rfl) (by kernel_rfl)) ?_
  intro W base args ds gs before hval0 hW _ _
  have hval : ∀ (j : Nat) t v, Try.f3.params[j]? = some t → args[j]? = some v → Value.okWide Try.prog W .any base t v := hval0
  have hW' := hW
  have hlt := fun x hx => hW'.lt x hx
  obtain ⟨p, q, hA0, hV, rfl, _, _⟩ := hW
  have hA : DataW.TrodAll enc Try.prog W 0 (fun _ => true) true Try.f3.params.toList args.toList ds p := hA0
  rw [Try.params3] at hA hval
  obtain ⟨v0, v1, d0, d1, p0, p1, rfl, rfl, rfl, h0, h1⟩ := trodAll_two hA
  obtain ⟨rfl, rfl⟩ := trodVars_none hV
  obtain ⟨nb, qb, Lb, Rb, Tb, kb, rfl, hnb, hqb, hkb⟩ := open_upl (hval 0 23 v0 rfl rfl) h0
  obtain ⟨cc, mc, Ac, lc, zc, rfl, hcc, hmc, hlc, hzc, hBc⟩ := open_ord (fun x hx => hlt x (by simp [hx])) (hval 1 26 v1 rfl rfl) h1
  refine (lawTake_any nb qb Lb Rb Tb kb cc mc Ac lc.length zc W).mono fun e W' ⟨he, hb⟩ => ?_
  subst he
  exact ⟨_, rfl, law_post (by decide +kernel) rfl rfl hW' rfl hb⟩

set_option maxRecDepth 100000 in
theorem takes_closed : joinedFacts Try.prog 3 Try.f3 Rows.commandTakesMatchSpecSpec Rows.commandTakesMatchSpecRow = true :=
  closed_all (by as_aux_lemma => kernel_rfl) (by as_aux_lemma => kernel_rfl) (by as_aux_lemma => kernel_rfl) (by as_aux_lemma => kernel_rfl) (by as_aux_lemma => kernel_rfl) (by as_aux_lemma => kernel_rfl) (by as_aux_lemma => kernel_rfl) (by as_aux_lemma => kernel_rfl) (by as_aux_lemma => kernel_rfl) (by as_aux_lemma => kernel_rfl) (by as_aux_lemma => kernel_rfl) (by as_aux_lemma => kernel_rfl) (by as_aux_lemma => kernel_rfl) (by as_aux_lemma => kernel_rfl) (by as_aux_lemma => kernel_rfl) (by as_aux_lemma => kernel_rfl) (by as_aux_lemma => kernel_rfl) (by as_aux_lemma => kernel_rfl) pKeys (by as_aux_lemma => kernel_rfl) pLifts pMake (by as_aux_lemma => kernel_rfl) (by as_aux_lemma => kernel_rfl) (by as_aux_lemma => kernel_rfl) (by as_aux_lemma => kernel_rfl)

theorem takes_holds : Rows.CommandTakesMatchSpecSaid :=
  OpenClaim.holds_of_wide 3 Try.f3 rfl rfl rfl rfl rfl rfl rfl ⟨rfl, rfl, rfl, rfl, rfl⟩ rfl rfl rfl rfl rfl (by kernel_rfl) Try.func3 takes_closed
    (of_decide_eq_true (by kernel_rfl)) (by unfold Func.isWrapper; first | (rw [if_pos (by decide +kernel)]; kernel_rfl) | (rw [if_neg (by decide +kernel)]; exact ⟨rfl, rfl⟩))
    (fun os started H enc _ => takes_lifted os started H enc)
#print axioms takes_holds
end Go.Proofs.Yteikggieekhfkaa
