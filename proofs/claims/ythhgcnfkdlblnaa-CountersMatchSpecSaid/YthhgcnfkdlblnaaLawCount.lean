/- Unrolled and Rolled are as the reference gives them: the law CountersMatchSpec answers true for every input. No condition. -/
import Derived.Test.YthhgcnfkdlblnaaAwake
import Derived.Test.YthhgcnfkdlblnaaClose
import Derived.Test.YthhgcnfkdlblnaaClosed
namespace Go.Proofs.Ythhgcnfkdlblnaa
open Go.ChangeShapes Go.WideShapes Go.ChangeAt Go.RowKit

theorem OwnI.keep {w w' : World} {base B : Nat} {v : Value} {l : List Int} (h : OwnI w base v l) (hb : Below B w w') (hB : w.heap.size ≤ B) : OwnI w' base v l := h.after hb hB

set_option maxRecDepth 100000 in
set_option maxHeartbeats 1000000 in
theorem lawCount_any (A A' : Option Addr) (c c' : Nat) (l l' : List Int) (b : Int) (w : World) (hl : l.length ≤ 9223372036854775807) (hl' : l'.length ≤ 9223372036854775807) (h : IR w w.heap.size A l) (h' : IR w w.heap.size A' l') :
    Calls Try.prog 3 #[.slice A l.length c, .slice A' l'.length c', .int .i64 b] w fun e w' => e = .returned (.bool true) ∧ Below w.heap.size w w' := by
  have n1 := (turned_len stepU l b).2
  have n2 := (turned_len stepR l' b).2
  have c1 := unrolled_any A c l b w hl h
  have c2 := fun (w' : World) (hb : Below w.heap.size w w') => runrolled_any A c l b w' hl ((h.below hb).lift hb.size)
  have c3 := fun (w' : World) (hb : Below w.heap.size w w') => rolled_any A' c' l' b w' hl' ((h'.below hb).lift hb.size)
  have c4 := fun (w' : World) (hb : Below w.heap.size w w') => rrolled_any A' c' l' b w' hl' ((h'.below hb).lift hb.size)
  generalize turned stepU l b = r at *
  generalize turned stepR l' b = r' at *
  obtain ⟨L, F⟩ := r
  obtain ⟨L', F'⟩ := r'
  have C1 := Lib.hid c1
  have C2 := Lib.hid c2
  have C3 := Lib.hid c3
  have C4 := Lib.hid c4
  clear c1 c2 c3 c4
  simp only at n1 n2
  go_enter Try.func3, Try.ntmps3
  go_wp2_with fail
  refine C1.out.mono ?_
  rintro e w1 ⟨v1, rfl, ho1, hb1⟩
  go_wp2_with fail
  refine (C2.out w1 hb1).mono ?_
  rintro e w2 ⟨v2, rfl, ho2, hb2⟩
  have g1 := hb1.trans (hb2.mono hb1.size)
  go_wp2_with fail
  refine (C3.out w2 g1).mono ?_
  rintro e w3 ⟨v3, rfl, ho3, hb3⟩
  have g2 := g1.trans (hb3.mono g1.size)
  go_wp2_with fail
  refine (C4.out w3 g2).mono ?_
  rintro e w4 ⟨v4, rfl, ho4, hb4⟩
  have g3 := g2.trans (hb4.mono g2.size)
  obtain ⟨A1, k1, rfl, r1⟩ := (((ho1.after hb2 (Nat.le_refl _)).after hb3 (Nat.le_refl _)).after hb4 (Nat.le_refl _)).form
  obtain ⟨A2, k2, rfl, r2⟩ := ((ho2.after hb3 (Nat.le_refl _)).after hb4 (Nat.le_refl _)).form
  obtain ⟨A3, k3, rfl, r3⟩ := (ho3.after hb4 (Nat.le_refl _)).form
  obtain ⟨A4, k4, rfl, r4⟩ := ho4.form
  have q1 := equalI_yes A1 A2 k1 k2 L w4.heap.size w4 (by omega) r1 r2
  have q2 := fun (w' : World) (hb : Below w4.heap.size w4 w') => equalI_yes A3 A4 k3 k4 L' w4.heap.size w' (by omega) (r3.below hb) (r4.below hb)
  have Q1 := Lib.hid q1
  have Q2 := Lib.hid q2
  clear q1 q2 r1 r2 r3 r4 ho1 ho2 ho3 ho4 hb1 hb2 hb3 hb4 g1 g2
  go_wp2_with fail
  refine Q1.out.mono ?_
  rintro e w5 ⟨rfl, hb5⟩
  go_wp2_with fail
  refine (Q2.out w5 hb5).mono ?_
  rintro e w6 ⟨rfl, hb6⟩
  go_wp2_with fail
  refine (awake_any _).mono ?_
  rintro e w7 ⟨rfl, hb7⟩
  go_wp2_with fail
  go_ret
  have g5 := g3.trans (hb5.mono g3.size)
  have g6 := g5.trans (hb6.mono g5.size)
  exact ⟨rfl, g6.trans (hb7.mono g6.size)⟩

set_option maxHeartbeats 1600000 in
set_option maxRecDepth 100000 in
theorem count_lifted (os : Os) (started : os.Started) (H : Type) (enc : TypeId × Value → H) :
    ReturnsInHanded {} Try.checked os 3 .any (Rows.countersMatchSpecSpec.pre6 enc Try.prog Try.f3 Rows.countersMatchSpecRow.domain false) (Rows.countersMatchSpecSpec.post enc Try.prog Try.f3 false true false false) := by
  refine returnsInHanded_of_change (C := Try.checked) own started (by kernel_rfl) Try.func3
    (ChangeSpec.witness6 (enc := enc) (C := Try.checked) false ⟨#[], #[.slice none 0 0, .slice none 0 0, .int .i64 0], []⟩ 8 (by kernel_rfl) (by kernel_rfl) (by kernel_rfl) (by kernel_rfl)) ?_
  intro W base args ds gs before hval0 hW _ _
  have hval : ∀ (j : Nat) t v, Try.f3.params[j]? = some t → args[j]? = some v → Value.okWide Try.prog W .any base t v := hval0
  have hW' := hW
  have hlt := fun x hx => hW'.lt x hx
  obtain ⟨p, q, hA0, hV, rfl, _, _⟩ := hW
  have hA : DataW.TrodAll enc Try.prog W 0 (fun _ => true) true Try.f3.params.toList args.toList ds p := hA0
  rw [Try.params3] at hA hval
  obtain ⟨v0, v1, v2, d0, d1, d2, p0, p1, p2, rfl, rfl, rfl, h0, h1, h2⟩ := trodAll_three hA
  obtain ⟨rfl, rfl⟩ := trodVars_none hV
  obtain ⟨Al', lenl, capl, rfl⟩ := okWide_slice Try.underlying22 (hval 0 22 v0 rfl rfl)
  obtain ⟨nl, hnl⟩ := h0
  obtain ⟨Al, cl, l, hvl, hlcl, hcl, hBl, hIl⟩ := open_is (fun x hx => hlt x (by simp [hx])) hnl
  obtain ⟨Am', lenm, capm, rfl⟩ := okWide_slice Try.underlying22 (hval 1 22 v1 rfl rfl)
  obtain ⟨nm, hnm⟩ := h1
  obtain ⟨Am, cm, m, hvm, hlcm, hcm, hBm, hIm⟩ := open_is (fun x hx => hlt x (by simp [hx])) hnm
  obtain ⟨b, rfl, rfl, rfl, wfb⟩ := open_int Try.underlying3 (hval 2 3 v2 rfl rfl) h2
  have hbb := bounds_i64 wfb
  rw [hvl] at hW' ⊢
  rw [hvm] at hW' ⊢
  refine (lawCount_any Al Am cl cm l m b W (by unfold maxLen at hcl; omega) (by unfold maxLen at hcm; omega) hBl hBm).mono fun e W' ⟨he, hb⟩ => ?_
  subst he
  exact ⟨_, rfl, law_post (by decide +kernel) rfl rfl hW' rfl hb⟩

set_option maxRecDepth 100000 in
theorem count_closed : joinedFacts Try.prog 3 Try.f3 Rows.countersMatchSpecSpec Rows.countersMatchSpecRow = true :=
  closed_all (by as_aux_lemma => kernel_rfl) (by as_aux_lemma => kernel_rfl) (by as_aux_lemma => kernel_rfl) (by as_aux_lemma => kernel_rfl) (by as_aux_lemma => kernel_rfl) (by as_aux_lemma => kernel_rfl) (by as_aux_lemma => kernel_rfl) (by as_aux_lemma => kernel_rfl) (by as_aux_lemma => kernel_rfl) (by as_aux_lemma => kernel_rfl) (by as_aux_lemma => kernel_rfl) (by as_aux_lemma => kernel_rfl) (by as_aux_lemma => kernel_rfl) (by as_aux_lemma => kernel_rfl) (by as_aux_lemma => kernel_rfl) (by as_aux_lemma => kernel_rfl) (by as_aux_lemma => kernel_rfl) (by as_aux_lemma => kernel_rfl) pKeys (by as_aux_lemma => kernel_rfl) pLifts pMake (by as_aux_lemma => kernel_rfl) (by as_aux_lemma => kernel_rfl) (by as_aux_lemma => kernel_rfl) (by as_aux_lemma => kernel_rfl)

theorem count_holds : Rows.CountersMatchSpecSaid :=
  OpenClaim.holds_of_wide 3 Try.f3 rfl rfl rfl rfl rfl rfl rfl ⟨rfl, rfl, rfl, rfl, rfl⟩ rfl rfl rfl rfl rfl (by kernel_rfl) Try.func3 count_closed
    (of_decide_eq_true (by kernel_rfl)) (by unfold Func.isWrapper; first | (rw [if_pos (by decide +kernel)]; kernel_rfl) | (rw [if_neg (by decide +kernel)]; exact ⟨rfl, rfl⟩))
    (fun os started H enc _ => count_lifted os started H enc)
#print axioms count_holds
end Go.Proofs.Ythhgcnfkdlblnaa
